/- package wal: a log in memory; Append -/
import Derived.Test.YtfjkockcgddgbaaGreatWal3
import Derived.BigRegion
namespace Go.Proofs.YtfjkockcgddgbaaGreat
open Go.RowKit Go.Lib
attribute [local go_sem ↓] Go.wp_at_zero Go.wp_at_succ
structure LS where
  last : Cm
  fr : Nat
  pl : Int → Option Int
  fh : Int → Option Int
def logC (D bp bf : Nat) (L : LS) : Array Value := #[(.pointer (some ⟨D, 0, none⟩)), .int .i64 L.last.slot, .int .i64 L.last.number, .int .i64 L.last.frames, .int .i64 L.last.pages, .int .i64 L.fr, .map (some bp), .map (some bf)]
/- the log at block G over the disk at block D, its maps at bp (places) and bf (fresh) -/
structure PL (X : World) (B D G bp bf n : Nat) (L : LS) (S : DS) : Prop where
  blk : X.heap[G]? = some (.cells (logC D bp bf L) 96 (0, 0))
  low : B ≤ G ∧ B ≤ bp ∧ B ≤ bf
  dif : ¬ bp = bf
  mp : MI X bp n L.pl
  mf : MI X bf n L.fh
  dsk : PDs X B D S
/- below B, and all blocks that are none of the disk's types nor the log's three, as they were -/
structure BelL (G bp bf B : Nat) (X Y : World) : Prop extends Below B X Y where
  far : ∀ b, b < X.heap.size → farT tyP X b → ¬ b = G → ¬ b = bp → ¬ b = bf → Y.heap[b]? = X.heap[b]?
theorem BelT.log {B : Nat} {X Y : World} (h : BelT tyP B X Y) (G bp bf : Nat) : BelL G bp bf B X Y := ⟨h.toBelow, fun b hb hf _ _ _ => h.far b hb hf⟩
theorem BelL.refl (G bp bf B : Nat) (X : World) : BelL G bp bf B X X := ⟨Below.refl _ _, fun _ _ _ _ _ _ => rfl⟩
theorem BelL.trans {G bp bf B : Nat} {X Y Z : World} (h : BelL G bp bf B X Y) (k : BelL G bp bf B Y Z) : BelL G bp bf B X Z :=
  ⟨h.toBelow.trans k.toBelow, fun b hb hf h1 h2 h3 => by
    have e := h.far b hb hf h1 h2 h3
    exact (k.far b (Nat.lt_of_lt_of_le hb h.size) (hf.of e) h1 h2 h3).trans e⟩
theorem below_log {B : Nat} {X Y : World} (h : Below X.heap.size X Y) (hB : B ≤ X.heap.size) (G bp bf : Nat) : BelL G bp bf B X Y := ⟨h.mono hB, fun b hb _ _ _ _ => h.block b hb⟩
theorem grown_log {X Y : World} {G bp bf B b : Nat} (h : X.grownBy Y (some b)) (hB : B ≤ X.heap.size) (hb : b = G ∨ b = bp ∨ b = bf) (hl : B ≤ b) : BelL G bp bf B X Y :=
  ⟨⟨h.os, h.tape, h.output, h.size, fun i hi => h.block i (Nat.lt_of_lt_of_le hi hB) (fun e => by injection e with e; omega)⟩, fun i hi _ h1 h2 h3 => h.block i hi (fun e => by injection e with e; subst e; rcases hb with rfl | rfl | rfl; exact h1 rfl; exact h2 rfl; exact h3 rfl)⟩
theorem PL.lt {X : World} {B D G bp bf n : Nat} {L : LS} {S : DS} (h : PL X B D G bp bf n L S) : G < X.heap.size := (Array.getElem?_eq_some_iff.1 h.blk).1
theorem PL.farG {X : World} {B D G bp bf n : Nat} {L : LS} {S : DS} (h : PL X B D G bp bf n L S) : farT tyP X G := fun cur e fz he => by
  rw [h.blk] at he
  injection he with he
  injection he with _ h2 _
  rw [← h2]
  decide
theorem PL.ne {X : World} {B D G bp bf n : Nat} {L : LS} {S : DS} (h : PL X B D G bp bf n L S) : ¬ bp = G ∧ ¬ bf = G ∧ ¬ D = G ∧ ¬ D = bp ∧ ¬ D = bf := by
  obtain ⟨e1, c1, h1⟩ := h.mp.isMap
  obtain ⟨e2, c2, h2⟩ := h.mf.isMap
  have hD := h.dsk.nf
  refine ⟨fun e => ?_, fun e => ?_, fun e => ?_, fun e => ?_, fun e => ?_⟩
  · subst e; rw [h.blk] at h1; cases h1
  · subst e; rw [h.blk] at h2; cases h2
  · subst e; exact hD h.farG
  · subst e; exact hD (h.mp.far _)
  · subst e; exact hD (h.mf.far _)
theorem PL.mono {X : World} {B D G bp bf n : Nat} {L : LS} {S : DS} (h : PL X B D G bp bf n L S) {m : Nat} (hm : n ≤ m := by omega) : PL X B D G bp bf m L S := ⟨h.blk, h.low, h.dif, h.mp.mono hm, h.mf.mono hm, h.dsk⟩
/- the disk works, the log stays -/
theorem PL.disk {X Y : World} {B D G bp bf n : Nat} {L : LS} {S S' : DS} (h : PL X B D G bp bf n L S) (hb : BelT tyP B X Y) (hd : PDs Y B D S') : PL Y B D G bp bf n L S' :=
  ⟨(hb.far G h.lt h.farG).trans h.blk, h.low, h.dif, h.mp.keep (hb.far _ h.mp.lt (h.mp.far _)), h.mf.keep (hb.far _ h.mf.lt (h.mf.far _)), hd⟩
theorem PL.below {X Y : World} {B D G bp bf n : Nat} {L : LS} {S : DS} (h : PL X B D G bp bf n L S) (hb : Below X.heap.size X Y) : PL Y B D G bp bf n L S :=
  ⟨(hb.block G h.lt).trans h.blk, h.low, h.dif, h.mp.keep (hb.block _ h.mp.lt), h.mf.keep (hb.block _ h.mf.lt), h.dsk.below hb⟩
theorem PL.cells {X : World} {B D G bp bf n : Nat} {L : LS} {S : DS} (h : PL X B D G bp bf n L S) :
    X.cell? ⟨G, 0, none⟩ = some (.pointer (some ⟨D, 0, none⟩)) ∧ X.cell? ⟨G, 1, none⟩ = some (.int .i64 L.last.slot) ∧ X.cell? ⟨G, 2, none⟩ = some (.int .i64 L.last.number) ∧ X.cell? ⟨G, 3, none⟩ = some (.int .i64 L.last.frames) ∧ X.cell? ⟨G, 4, none⟩ = some (.int .i64 L.last.pages) ∧ X.cell? ⟨G, 5, none⟩ = some (.int .i64 L.fr) ∧ X.cell? ⟨G, 6, none⟩ = some (.map (some bp)) ∧ X.cell? ⟨G, 7, none⟩ = some (.map (some bf)) := by
  refine ⟨?_, ?_, ?_, ?_, ?_, ?_, ?_, ?_⟩ <;> simp [World.cell?, h.blk, logC]
theorem PL.unfrozen {X : World} {B D G bp bf n : Nat} {L : LS} {S : DS} (h : PL X B D G bp bf n L S) (k : Nat) : X.frozen? ⟨G, k, none⟩ = false := by simp [World.frozen?, h.blk]
/- PDs stays while a block that is none of its types is written -/
theorem PDs.grown {X Y : World} {B D b : Nat} {S : DS} (h : PDs X B D S) (hg : X.grownBy Y (some b)) (hf : farT tyP X b) : PDs Y B D S := by
  obtain ⟨vb, vw, h⟩ := h
  have hne : ∀ (e : TypeId) (size : Nat) (v : Value) (n : Nat) (xs : List Value), tyP e = true → X.ownsRow B e size v n xs → ∀ g, v.ownBlock = some g → Y.heap[g]? = X.heap[g]? := fun e size v n xs he ho g hg' => by
    have := row_nf he ho g hg'
    refine hg.block g (World.ownsRow.lt ho g hg').2 (fun e => ?_)
    injection e with e
    subst e
    exact this.2 hf
  refine ⟨vb, vw, ⟨(hg.block D h.lt (fun e => ?_)).trans h.blk, h.low, fun i hi => row_keep (h.rows i hi) (hne _ _ _ _ _ (by decide) (h.rows i hi)), row_keep h.wrow (hne _ _ _ _ _ (by decide) h.wrow), h.dif, h.size, h.oks⟩⟩
  injection e with e
  subst e
  exact h.nf hf
/- the fresh map is written -/
theorem PL.fresh {X Y : World} {B D G bp bf n m : Nat} {L : LS} {S : DS} {F : Int → Option Int} (h : PL X B D G bp bf n L S) (hg : X.grownBy Y (some bf)) (hF : MI Y bf m F) (hm : n ≤ m) : PL Y B D G bp bf m { L with fh := F } S := by
  obtain ⟨n1, n2, n3, n4, n5⟩ := h.ne
  refine ⟨(hg.block G h.lt (fun e => ?_)).trans h.blk, h.low, h.dif, (h.mp.keep (hg.block _ h.mp.lt (fun e => ?_))).mono hm, hF, h.dsk.grown hg (h.mf.far _)⟩
  · injection e with e; exact n2 e.symm
  · injection e with e; exact h.dif e
/- a cell of the log's own block is written -/
theorem PL.own {X : World} {B D G bp bf n k : Nat} {L L' : LS} {S : DS} {v : Value} (h : PL X B D G bp bf n L S) (he : (logC D bp bf L).setIfInBounds k v = logC D bp bf L') (hp : L'.pl = L.pl) (hf : L'.fh = L.fh) : PL (X.setCell ⟨G, k, none⟩ v) B D G bp bf n L' S := by
  obtain ⟨n1, n2, n3, n4, n5⟩ := h.ne
  have hg := set_grown X G k v
  refine ⟨by rw [set_blk h.blk, he], h.low, h.dif, ?_, ?_, h.dsk.grown hg h.farG⟩
  · rw [hp]; exact h.mp.keep (hg.block _ h.mp.lt (fun e => by injection e with e; exact n1 e))
  · rw [hf]; exact h.mf.keep (hg.block _ h.mf.lt (fun e => by injection e with e; exact n2 e))
def apL (L : LS) (S : DS) (n : Int) (t : ByteArray) : Int × LS × DS :=
  if ¬ (isPg n = true ∧ t.size = 1024) then (1, L, S)
  else if 67108864 < 64 + 1028 * (L.fr + 1) then (8, L, S)
  else if (opD S 1 (64 + 1028 * (L.fr : Int)) (fourB n.toNat ++ t) false).1 = 0 then (0, { L with fh := updM L.fh n L.fr, fr := L.fr + 1 }, (opD S 1 (64 + 1028 * (L.fr : Int)) (fourB n.toNat ++ t) false).2)
  else ((opD S 1 (64 + 1028 * (L.fr : Int)) (fourB n.toNat ++ t) false).1, L, (opD S 1 (64 + 1028 * (L.fr : Int)) (fourB n.toNat ++ t) false).2)
theorem undrewB {w w1 : World} (h : Below w.drew.heap.size w.drew w1) : Below w.heap.size w w1 := ⟨h.os, h.tape, h.output, h.size, h.block⟩
set_option maxRecDepth 20000 in
set_option maxHeartbeats 1000000 in
theorem cappend0 (n : Nat) (t : ByteArray) (X : World) (B D G bp bf m k : Nat) (L : LS) (S : DS) (h : PL X B D G bp bf m L S) (hB : B ≤ X.heap.size) (hm : m ≤ 900000) (ho : okS S k) (hk : k ≤ 900000) (hf : L.fr ≤ 65536) (h1 : isPg n = true) (hts : t.size = 1024) (h2 : ¬ 67108864 < 64 + 1028 * (L.fr + 1)) (r : Int) (S2 : DS) (hop : opD S 1 (64 + 1028 * (L.fr : Int)) (fourB n ++ t) false = (r, S2)) :
    Calls Tryz.prog 13 #[(.pointer (some ⟨G, 0, none⟩)), .int .i64 n, .string t] X fun e w' => e = .returned (.int .i64 r) ∧ PL w' B D G bp bf (m + 1) (if r = 0 then { L with fh := updM L.fh n L.fr, fr := L.fr + 1 } else L) S2 ∧ BelL G bp bf B X w' := by
  obtain ⟨c0, c1, c2, c3, c4, c5, c6, c7⟩ := h.cells
  clear c1 c2 c3 c4
  have HI : Hid (isPg n = true) := h1
  have HP : Hid (PL X B D G bp bf m L S) := h
  have hG : G < X.heap.size := h.lt
  have HO : Hid (okS S k ∧ k ≤ 1000000) := (⟨ho, by omega⟩ : okS S k ∧ k ≤ 1000000)
  have HOP : Hid _ := hop
  have HB0 : Hid (B ≤ X.heap.size) := hB
  have i1 : (64 : Int) + 1028 * ((L.fr : Int) + 1) ≤ 67108864 := by omega
  have f0 : Hid ((0 : Int) ≤ (L.fr : Int)) := (by omega : (0 : Int) ≤ (L.fr : Int))
  have f1 : Hid ((L.fr : Int) ≤ 4294967296) := (by omega : (L.fr : Int) ≤ 4294967296)
  have s4 := fourB_size n
  have HN : Hid ((n : Int) ≤ 9223372036854775807) := by
    have := of_decide_eq_true h1
    show (n : Int) ≤ 9223372036854775807
    omega
  clear h ho hk h1 h2 hop hB
  go_enter Tryz.func13, Tryz.ntmps13
  go_wp2_with fail
  refine (cisPage n _).mono ?_
  rintro e w1 ⟨rfl, hw⟩; rw [hw]; clear hw
  rw [HI.out]
  go_wp2_with fail
  refine (cframeAt _ _ (by omega) (by omega)).mono ?_
  rintro e w2 ⟨rfl, hw⟩; rw [hw]; clear hw
  obtain ⟨q, hq⟩ : ∃ q, q = 64 + 1028 * ((L.fr : Int) + 1) := ⟨_, rfl⟩
  rw [← hq] at i1 ⊢
  have j1 : decide (67108864 < q) = false := decide_eq_false (by omega)
  clear hq i1
  go_wp2_with fail
  go_region_with (first | (go_at_call 57; refine (cframeAt _ _ f0.out f1.out).mono ?_; rintro e w3 ⟨rfl, hw⟩; rw [hw]; clear hw) | (go_at_call 59; refine (cfour n _).mono ?_; rintro e w4 ⟨rfl, hb4⟩; have HX4 : Hid (Below X.heap.size X w4) := undrewB hb4; obtain ⟨hc4, hf4⟩ := bcell HX4.out; clear hb4) | (go_at_call 58; refine (cwriteD 1 (64 + 1028 * (L.fr : Int)) (fourB n ++ t) _ B D S k (HP.out.dsk.below HX4.out) (Nat.le_trans HB0.out HX4.out.size) HO.out.1 HO.out.2).mono ?_; rw [HOP.out]; rintro e w5 ⟨rfl, hp5, hb5⟩))
  all_goals
    have HL5 : Hid (PL w5 B D G bp bf m L S2) := (HP.out.below HX4.out).disk hb5 hp5
    have HF5 : Hid (BelL G bp bf B X w5) := (below_log HX4.out HB0.out G bp bf).trans (hb5.log G bp bf)
    clear hp5 hb5 HX4 hc4 hf4
    by_cases hr : r = 0
    · subst hr
      have hL5 := HL5.out.below ((Below.refl _ _).drew)
      obtain ⟨Y, hrun, hMI, hgY⟩ := hL5.mf.put (by omega) (x := (n : Int)) (v := (L.fr : Int)) (i64_in (by omega) HN.out) (i64_in (by omega) (by omega))
      have HY : Hid (PL Y B D G bp bf (m + 1) { L with fh := updM L.fh n L.fr } S2) := hL5.fresh hgY hMI (by omega)
      have HFY : Hid (BelL G bp bf B X Y) := (HF5.out.trans (below_log ((Below.refl _ _).drew) (Nat.le_trans HB0.out HF5.out.size) G bp bf)).trans (grown_log hgY (Nat.le_trans HB0.out HF5.out.size) (.inr (.inr rfl)) HL5.out.low.2.2)
      obtain ⟨d0, d1, d2, d3, d4, d5, d6, d7⟩ := HL5.out.cells
      obtain ⟨y0, y1, y2, y3, y4, y5, y6, y7⟩ := HY.out.cells
      have yf := HY.out.unfrozen 5
      have HZ : Hid (PL (Y.setCell ⟨G, 5, none⟩ (.int .i64 ((L.fr : Int) + 1))) B D G bp bf (m + 1) { L with fh := updM L.fh n L.fr, fr := L.fr + 1 } S2) := HY.out.own rfl rfl rfl
      have HFZ : Hid (BelL G bp bf B X (Y.setCell ⟨G, 5, none⟩ (.int .i64 ((L.fr : Int) + 1)))) := HFY.out.trans (grown_log (set_grown _ _ _ _) (Nat.le_trans HB0.out HFY.out.size) (.inl rfl) HL5.out.low.1)
      clear d1 d2 d3 d4 y1 y2 y3 y4 hMI hgY hL5
      go_wp2_with fail
      go_region
      all_goals
        go_wp2
        go_ret
        exact ⟨rfl, HZ.out, HFZ.out⟩
    · have hr' : (r == 0) = false := by simpa using hr
      go_wp2
      go_ret
      exact ⟨rfl, HL5.out.mono, HF5.out⟩
theorem pg_nat {n : Int} (h : isPg n = true) : ∃ k : Nat, n = k := ⟨n.toNat, by have := of_decide_eq_true h; omega⟩
set_option maxRecDepth 20000 in
set_option maxHeartbeats 1000000 in
theorem cappend (n : Int) (t : ByteArray) (X : World) (B D G bp bf m k : Nat) (L : LS) (S : DS) (h : PL X B D G bp bf m L S) (hB : B ≤ X.heap.size) (hm : m ≤ 900000) (ho : okS S k) (hk : k ≤ 900000) (hf : L.fr ≤ 65536) :
    Calls Tryz.prog 13 #[(.pointer (some ⟨G, 0, none⟩)), .int .i64 n, .string t] X fun e w' => e = .returned (.int .i64 (apL L S n t).1) ∧ PL w' B D G bp bf (m + 1) (apL L S n t).2.1 (apL L S n t).2.2 ∧ BelL G bp bf B X w' := by
  by_cases h1 : isPg n = true
  · by_cases hs : t.size = 1024
    · by_cases h2 : 67108864 < 64 + 1028 * (L.fr + 1)
      · have e9 : apL L S n t = (8, L, S) := by unfold apL; rw [if_neg (fun h => h ⟨h1, hs⟩), if_pos h2]
        rw [e9]
        obtain ⟨c0, c1, c2, c3, c4, c5, c6, c7⟩ := h.cells
        have HI : Hid (isPg n = true) := h1
        have HM : Hid (PL X B D G bp bf (m + 1) L S) := h.mono
        have i1 : (67108864 : Int) < 64 + 1028 * ((L.fr : Int) + 1) := by omega
        clear h ho h1 h2 e9
        go_enter Tryz.func13, Tryz.ntmps13
        go_wp2_with fail
        refine (cisPage n _).mono ?_
        rintro e w1 ⟨rfl, hw⟩; rw [hw]; clear hw
        rw [HI.out]
        go_wp2_with fail
        refine (cframeAt _ _ (by omega) (by omega)).mono ?_
        rintro e w2 ⟨rfl, hw⟩; rw [hw]; clear hw
        obtain ⟨q, hq⟩ : ∃ q, q = 64 + 1028 * ((L.fr : Int) + 1) := ⟨_, rfl⟩
        rw [← hq] at i1 ⊢
        have j1 : decide (67108864 < q) = true := decide_eq_true i1
        clear hq i1
        go_wp2
        go_ret
        exact ⟨rfl, HM.out, BelL.refl _ _ _ _ _⟩
      · obtain ⟨n, rfl⟩ := pg_nat h1
        obtain ⟨r, S2, hop⟩ : ∃ r S2, opD S 1 (64 + 1028 * (L.fr : Int)) (fourB n ++ t) false = (r, S2) := ⟨_, _, rfl⟩
        have e9 : apL L S n t = (r, (if r = 0 then { L with fh := updM L.fh n L.fr, fr := L.fr + 1 } else L), S2) := by
          unfold apL
          rw [if_neg (fun h => h ⟨h1, hs⟩), if_neg h2, Int.toNat_natCast, hop]
          by_cases hr : r = 0
          · subst hr; rfl
          · rw [if_neg hr, if_neg hr]
        rw [e9]
        exact cappend0 n t X B D G bp bf m k L S h hB hm ho hk hf h1 hs h2 r S2 hop
    · have e9 : apL L S n t = (1, L, S) := by unfold apL; rw [if_pos (fun h => hs h.2)]
      rw [e9]
      have HI : Hid (isPg n = true) := h1
      have HM : Hid (PL X B D G bp bf (m + 1) L S) := h.mono
      have i2 : (((t.size : Int)) != 1024) = true := by
        have : ¬ ((t.size : Int)) = 1024 := by omega
        simpa using this
      have i3 : ¬ ((t.size : Int)) = 1024 := by omega
      clear h ho h1 e9 hs
      go_enter Tryz.func13, Tryz.ntmps13
      go_wp2_with fail
      refine (cisPage n _).mono ?_
      rintro e w1 ⟨rfl, hw⟩; rw [hw]; clear hw
      rw [HI.out]
      go_wp2
      go_ret
      exact ⟨rfl, HM.out, BelL.refl _ _ _ _ _⟩
  · have e9 : apL L S n t = (1, L, S) := by unfold apL; rw [if_pos (fun h => h1 h.1)]
    rw [e9]
    have hI : isPg n = false := by simpa using h1
    have HI : Hid (isPg n = false) := hI
    have HM : Hid (PL X B D G bp bf (m + 1) L S) := h.mono
    clear h ho h1 e9 hI
    go_enter Tryz.func13, Tryz.ntmps13
    go_wp2_with fail
    refine (cisPage n _).mono ?_
    rintro e w1 ⟨rfl, hw⟩; rw [hw]; clear hw
    rw [HI.out]
    go_wp2
    go_ret
    exact ⟨rfl, HM.out, BelL.refl _ _ _ _ _⟩
end Go.Proofs.YtfjkockcgddgbaaGreat
