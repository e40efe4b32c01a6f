/- relstorekeep.LogKept -/
import Derived.Test.YtfjkockcgddgbaaLgkA
import Derived.Deep.CutBlock
namespace Go.Proofs.Ytfjkockcgddgbaa
open Go.RowKit Go.Lib
attribute [local go_sem ↓] Go.wp_at_zero Go.wp_at_succ
structure ActK where
  k : Int
  f : Int
  a : Int
  n : Int
  s : ByteArray
  t : ByteArray
def actK (x : ActK) : List Value := [.int .i64 x.k, .int .i64 x.f, .int .i64 x.a, .int .i64 x.n, .string x.s, .string x.t]
def okK (x : ActK) : Prop := (-9223372036854775808 ≤ x.k ∧ x.k ≤ 9223372036854775807) ∧ (-9223372036854775808 ≤ x.n ∧ x.n ≤ 9223372036854775807)
def liesK (X : World) (sa : Option Addr) (sl : Nat) (A : Nat → ActK) : Prop := sl = 0 ∨ ∃ b off, sa = some ⟨b, off, none⟩ ∧ b < X.heap.size ∧ ∀ i, i < sl → okK (A i) ∧ ∀ j, j < 6 → X.cell? ⟨b, off + (i * 6 + j), none⟩ = (actK (A i))[j]?
/- behind the script -/
def AfterL (X w : World) (D kb mb : Nat) (ev : Int) : Prop := ∃ S K M n, AfR X w D S K M ∧ MS w kb n K ∧ MS w mb n M ∧ n ≤ 1000 ∧ (ev = 0 ∨ S.down = true)
theorem boxK {w w2 : World} {o : Obj} (hb : Below (w.alloc o).drew.heap.size (w.alloc o).drew w2) : Below w.heap.size w w2 ∧ w2.heap[w.heap.size]? = some o ∧ w.heap.size < w2.heap.size := by
  have h1 : (w.alloc o).drew.heap.size = w.heap.size + 1 := by show (w.alloc o).heap.size = _; simp
  have h2 : Below w.heap.size w (w.alloc o).drew := Below.trans (((Below.refl _ _).alloc (Nat.le_refl _) _) : Below w.heap.size w (w.alloc o)) ⟨rfl, rfl, rfl, Nat.le_refl _, fun _ _ => rfl⟩
  refine ⟨h2.trans (hb.mono (by omega)), (hb.block _ (by omega)).trans ?_, by have := hb.size; omega⟩
  show (w.alloc o).heap[w.heap.size]? = some o
  exact heap_alloc_new w o
theorem LpR.below {X w w' : World} {D G bp bf i : Nat} {L : LS} {S : DS} {K N : Int → Option ByteArray} (h : LpR X w D G bp bf i L S K N) (hb : Below w.heap.size w w') : LpR X w' D G bp bf i L S K N := ⟨h.pl.below hb, h.inv, h.ok, h.bel.trans (hb.mono h.bel.size)⟩
theorem AfR.below {X w w' : World} {D : Nat} {S : DS} {K M : Int → Option ByteArray} (h : AfR X w D S K M) (hb : Below w.heap.size w w') : AfR X w' D S K M := ⟨h.ds.below hb, h.ok, h.cr, h.bel.trans (hb.mono h.bel.size)⟩
theorem Two.left {w : World} {bp bf kb nb m : Nat} {K N : Int → Option ByteArray} (h : Two w bp bf kb nb m K N) {k : Nat} (hk : m ≤ k := by omega) : Two w bp bf kb kb k K K := ⟨h.mq.mono hk, h.mq.mono hk, h.pk, h.pk, h.dk, h.dk⟩
theorem Two.right {w : World} {bp bf kb nb m : Nat} {K N : Int → Option ByteArray} (h : Two w bp bf kb nb m K N) {k : Nat} (hk : m ≤ k := by omega) : Two w bp bf nb nb k N N := ⟨h.mn.mono hk, h.mn.mono hk, h.pn, h.pn, h.dn, h.dn⟩
theorem Two.up {w : World} {bp bf kb nb m : Nat} {K N : Int → Option ByteArray} (h : Two w bp bf kb nb m K N) {k : Nat} (hk : m ≤ k := by omega) : Two w bp bf kb nb k K N := ⟨h.mq.mono hk, h.mn.mono hk, h.pk, h.pn, h.dk, h.dn⟩
theorem crD_ok {S : DS} {m : Nat} (h : okS S m) (fa : Nat → Int) (n : Int) (hn : -9223372036854775808 ≤ n ∧ n ≤ 9223372036854775807) : okS { crD fa S with left := n } m := ⟨hn, h.2.1, h.2.2.1, Nat.zero_le _⟩
theorem mv_ok4 {S : DS} (hs : ∀ i < 4, (S.lb i).length ≤ 67108864) : okM (opnL ((mv S 2).lb 2)).pl ∧ okM (opnL ((mv S 2).lb 2)).fh := by
  obtain ⟨m0, m1, m2, m3, m4⟩ := mv_two S hs
  refine ⟨fun x v hv => ?_, fun x v hv => by cases hv⟩
  have h1 := fndM_lt (log := (mv S 2).lb 2) hv
  have h2 := last_fits (log := (mv S 2).lb 2)
  have h3 := hs 2 (by decide)
  rw [m2] at h1 h2
  omega
theorem all_has {L : LS} {S : DS} {F : Int → Option ByteArray} (h : ∀ n : Nat, n < 6 → hasA L S F n = true) : ((List.range 6).all fun n => hasA L S F n) = true := by
  rw [List.all_eq_true]
  intro n hn
  exact h n (List.mem_range.1 hn)
theorem keepI {X w : World} {ka : Option Addr} {kl : Nat} {fk : Nat → Int} (h : kl = 0 ∨ ∃ b off, ka = some ⟨b, off, none⟩ ∧ b < X.heap.size ∧ ∀ j, j < kl → X.cell? ⟨b, off + j, none⟩ = some (.int .i64 (fk j))) (hb : Below X.heap.size X w) : liesI tyP w X.heap.size ka kl fk := by
  rcases h with h | ⟨b, off, h1, h2, h3⟩
  · exact .inl h
  · exact .inr ⟨b, off, h1, .inl h2, fun j hj => (hb.cell (p := ⟨b, off + j, none⟩) h2).trans (h3 j hj)⟩
theorem MS.belT {w w' : World} {b n B : Nat} {F : Int → Option ByteArray} (h : MS w b n F) (hb : BelT tyP B w w') : MS w' b n F := h.keep (hb.far b h.lt (h.far tyP))
set_option maxRecDepth 20000 in
set_option maxHeartbeats 4000000 in
theorem llogkept (sa : Option Addr) (sl sc : Nat) (A : Nat → ActK) (fails again : Int) (ka : Option Addr) (kl kc : Nat) (fk : Nat → Int) (X : World) (hl : liesK X sa sl A) (hn : sl ≤ 140737488355328) (hc : sl ≤ sc) (ha : sa = none → sl = 0 ∧ sc = 0)
    (hfl : -9223372036854775808 ≤ fails ∧ fails ≤ 9223372036854775807) (hag : -9223372036854775808 ≤ again ∧ again ≤ 9223372036854775807) (hk : kl = 0 ∨ ∃ b off, ka = some ⟨b, off, none⟩ ∧ b < X.heap.size ∧ ∀ j, j < kl → X.cell? ⟨b, off + j, none⟩ = some (.int .i64 (fk j))) (hkn : kl ≤ 140737488355328) :
    Calls Try.prog 4 #[.slice sa sl sc, .int .i64 fails, .int .i64 again, .slice ka kl kc] X fun e w' => e = .returned (.bool true) ∧ Below X.heap.size X w' := by
  have HL : Hid (liesK X sa sl A) := hl
  have HA : Hid (sa = none → sl = 0 ∧ sc = 0) := ha
  have HK : Hid (kl = 0 ∨ ∃ b off, ka = some ⟨b, off, none⟩ ∧ b < X.heap.size ∧ ∀ j, j < kl → X.cell? ⟨b, off + j, none⟩ = some (.int .i64 (fk j))) := hk
  have HG : Hid (-9223372036854775808 ≤ again ∧ again ≤ 9223372036854775807) := hag
  have hmm := @run_makeMap Try.prog
  clear hl ha hk hag
  go_enter Try.func4, Try.ntmps4
  go_wp2_with fail
  refine (cnewD X).mono ?_
  rintro e w1 ⟨rfl, hP1, hb1⟩
  have zb1 := hb1.size
  obtain ⟨S1, S2, S3, hS⟩ := beg_new
  go_wp2_with fail
  refine (copen_new w1 X.heap.size X.heap.size 0 newD S1 S2 S3 newS hP1 zb1 ⟨⟨by decide, by decide⟩, by decide, by decide, by decide⟩ (by decide) rfl new_last 0 rfl hS).mono ?_
  rintro e w2 ⟨G, bp, bf, rfl, hL2, hb2⟩
  have HB2 : Hid (Below X.heap.size X w2) := hb1.trans hb2.toBelow
  have HL2 : Hid (PL w2 X.heap.size X.heap.size G bp bf 0 ⟨⟨0, 1, 0, 0⟩, 0, fun _ => none, fun _ => none⟩ newS) := hL2
  clear hP1 hb1 hb2 hL2 hS zb1
  go_wp2_with fail
  refine (cpick fails 60 _ hfl ⟨by decide, by decide⟩).mono ?_
  rintro e w9 ⟨rfl, hw⟩; rw [hw]; clear hw
  go_wp2_with fail
  refine (cfailD (pickI fails 60) w2 X.heap.size X.heap.size newS HL2.out.dsk).mono ?_
  rintro e w3 ⟨rfl, hP3, hb3⟩
  have HL3 : Hid (PL w3 X.heap.size X.heap.size G bp bf 6 ⟨⟨0, 1, 0, 0⟩, 0, fun _ => none, fun _ => none⟩ { newS with left := pickI fails 60 }) := (HL2.out.disk hb3 hP3).mono (by omega)
  have HB3 : Hid (Below X.heap.size X w3) := HB2.out.trans hb3.toBelow
  have hp6 := pickI_in fails (n := 60) (by decide)
  have zb3 := HB3.out.size
  have HB5 : Hid (Below X.heap.size X ((w3.alloc (.map #[] 0)).alloc (.map #[] 0))) := (HB3.out.alloc zb3 _).alloc (by simp; omega) _
  have HR5 : Hid (LpR X ((w3.alloc (.map #[] 0)).alloc (.map #[] 0)) X.heap.size G bp bf 0 ⟨⟨0, 1, 0, 0⟩, 0, fun _ => none, fun _ => none⟩ { newS with left := pickI fails 60 } noP noP) :=
    ⟨HL3.out.below (((Below.refl _ _).alloc (Nat.le_refl _) _).alloc (by simp) _), inv_new.left _, ⟨⟨by show _ ≤ pickI fails 60; omega, by show pickI fails 60 ≤ _; omega⟩, by show (0 : Int) ≤ 4; decide, by show (4 : Int) ≤ ((20 : Nat) : Int); decide, Nat.zero_le _⟩, HB5.out⟩
  have HT5 : Hid (Two ((w3.alloc (.map #[] 0)).alloc (.map #[] 0)) bp bf w3.heap.size (w3.heap.size + 1) 1 noP noP) := by
    have l1 := HL3.out.mp.lt
    have l2 := HL3.out.mf.lt
    have m2 := MS.made (w3.alloc (.map #[] 0))
    rw [show (w3.alloc (.map #[] 0)).heap.size = w3.heap.size + 1 by simp] at m2
    exact ⟨((MS.made w3).keep (heap_alloc_old _ _ (by simp))).mono (by omega), m2.mono (by omega), pgs_none, pgs_none, ⟨by omega, by omega⟩, ⟨by omega, by omega⟩⟩
  clear hP3 hb3 HL3 HB2 HL2 hp6
  go_wp2_with fail
  refine (kshort sa sl sc _ hn hc HA.out).mono ?_
  rintro e w8 ⟨rfl, hw⟩; rw [hw]; clear hw
  generalize hW : (w3.alloc (.map #[] 0)).alloc (.map #[] 0) = W5 at *
  generalize w3.heap.size = q at *
  go_upto_block 0 with fail
  go_cut [11, 12, 13] (fun x y z wx => ∃ (ev : Int) (kb mb : Nat), x = .int .i64 ev ∧ y = .map (some kb) ∧ z = .map (some mb) ∧ Hid (AfterL X wx X.heap.size kb mb ev))
  case first =>
    go_wp2_with fail
    go_loopw [11, 12, 13, 14, 45] (fun x11 x12 x13 x14 u w => ∃ (i kb nb : Nat) (L : LS) (S : DS) (K N : Int → Option ByteArray), u = .int .i64 i ∧ x11 = .int .i64 0 ∧ x12 = .map (some kb) ∧ x13 = .map (some kb) ∧ x14 = .map (some nb) ∧ i ≤ min sl 250 ∧ Hid (LpR X w X.heap.size G bp bf i L S K N) ∧ Hid (Two w bp bf kb nb (i + 1) K N)) (fun _ _ _ _ u _ => min sl 250 - (intOf u).toNat)
    case atStart => exact ⟨0, _, _, _, _, _, _, rfl, rfl, rfl, rfl, rfl, Nat.zero_le _, HR5, HT5⟩
    case round =>
      clear HR5 HT5 HB5
      obtain ⟨i, kb, nb, L, S, K, N, rfl, rfl, rfl, rfl, rfl, hin, HQ, HT⟩ := hrel
      by_cases hlt : i < min sl 250
      · have hsl : i < sl := by omega
        have hi2 : i < 250 := by omega
        rcases HL.out with h0 | ⟨b, off, rfl, hbX, hE⟩
        · omega
        have ki : (0 : Int) ≤ (i : Int) := by omega
        have kn : (i : Int) < ((min sl 250 : Nat) : Int) := by omega
        have zb := HQ.out.bel.size
        have hbw : b < wr.heap.size := by omega
        have g : ∀ j, j < 6 → wr.cell? ⟨b, off + (i * 6 + j), none⟩ = (actK (A i))[j]? := fun j hj => (HQ.out.bel.cell (p := ⟨b, off + (i * 6 + j), none⟩) hbX).trans ((hE i hsl).2 j hj)
        have d0 : wr.cell? ⟨b, off + i * 6, none⟩ = some (.int .i64 (A i).k) := g 0 (by decide)
        have d1 : wr.cell? ⟨b, off + i * 6 + 1, none⟩ = some (.int .i64 (A i).f) := g 1 (by decide)
        have d2 : wr.cell? ⟨b, off + i * 6 + 2, none⟩ = some (.int .i64 (A i).a) := g 2 (by decide)
        have d3 : wr.cell? ⟨b, off + i * 6 + 3, none⟩ = some (.int .i64 (A i).n) := g 3 (by decide)
        have d4 : wr.cell? ⟨b, off + i * 6 + 4, none⟩ = some (.string (A i).s) := g 4 (by decide)
        have d5 : wr.cell? ⟨b, off + i * 6 + 5, none⟩ = some (.string (A i).t) := g 5 (by decide)
        have OK : Hid (okK (A i)) := (hE i hsl).1
        clear g hE HL
        go_upto_region 14 with fail
        go_cut [17, 18] (fun x y wx => ∃ (nn : Nat) (t : ByteArray), x = .int .i64 (nn : Int) ∧ y = .string t ∧ nn < 6 ∧ t.size = 1024 ∧ wx.cell? ⟨wr.heap.size, 0, none⟩ = some (.int .i64 (A i).k) ∧ wr.heap.size < wx.heap.size ∧ Hid (Below wr.heap.size wr wx))
        case first =>
          have hp6 := pickI_in (A i).n (n := 6) (by decide)
          obtain ⟨nn, hnn⟩ : ∃ nn : Nat, pickI (A i).n 6 = nn := ⟨(pickI (A i).n 6).toNat, by omega⟩
          have HNN : Hid (nn < 6) := by show nn < 6; omega
          clear hp6
          go_region_with (first | (go_at_call 12; refine (cpick (A i).n 6 _ OK.out.2 ⟨by decide, by decide⟩).mono ?_; rw [hnn]; rintro e w7 ⟨rfl, hw⟩; rw [hw]; clear hw) | (go_at_call 14; refine (csheet (A i).a _).mono ?_; rintro e w6 ⟨rfl, hb6⟩; obtain ⟨hc6, hf6⟩ := bcell hb6))
          all_goals
            go_wp2_with fail
            go_meet
            case rel =>
              obtain ⟨k1, k2, k3⟩ := boxK hb6
              exact ⟨nn, _, rfl, rfl, HNN.out, shB_size _, by simp [World.cell?, k2], k3, k1⟩
        case rest =>
          obtain ⟨nn, t, rfl, rfl, hn6, ht, hbx, hsz, HB⟩ := hcut
          have HQ2 : Hid (LpR X wc X.heap.size G bp bf i L S K N) := HQ.out.below HB.out
          have HT2 : Hid (Two wc bp bf kb nb (i + 1) K N) := HT.out.below HB.out
          have lp := HQ2.out.pl.mp.lt
          have lf := HQ2.out.pl.mf.lt
          clear HQ HT HB d0 d1 d2 d3 d4 d5
          go_wp2_with fail
          refine (cpick (A i).k 8 _ OK.out.1 ⟨by decide, by decide⟩).mono ?_
          rintro e w6 ⟨rfl, hw⟩; rw [hw]; clear hw
          have hp8 := pickI_in (A i).k (n := 8) (by decide)
          generalize pickI (A i).k 8 = kk at *
          clear hbx
          rcases (show kk = 0 ∨ kk = 1 ∨ kk = 2 ∨ kk = 3 ∨ kk = 4 ∨ kk = 5 ∨ kk = 6 ∨ kk = 7 by omega) with rfl | rfl | rfl | rfl | rfl | rfl | rfl | rfl <;> clear hp8
          · go_wp2_with fail
            refine (kappend nn t X wc X.heap.size G bp bf i kb nb (i + 1) L S K N HQ2.out HT2.out (by omega) hn6 ht).mono ?_
            rintro e w7 (⟨S', rfl, hd, hA, hT, hs⟩ | ⟨L', S', rfl, hR, hT, hs⟩)
            · have HD : Hid (S'.down = true) := hd
              have HF : Hid (AfR X w7 X.heap.size S' K K) := hA
              have HT7 : Hid (Two w7 bp bf kb nb (i + 1) K N) := hT
              clear hd hA hT
              go_wp2_with fail
              refine (kwith nn t w7 bp bf kb nb (i + 1) K N HT7.out (by omega) hn6 ht (by omega) (by omega)).mono ?_
              rintro e w8 ⟨rfl, hT, hb8⟩
              have HE : Hid (AfterL X w8 X.heap.size kb kb 2) := ⟨S', K, K, _, HF.out.below hb8, hT.mq, hT.mq, by omega, .inr HD.out⟩
              clear hT hb8 HF HT7 HD
              go_wp2_with fail
              go_meet
              case rel => exact ⟨2, kb, kb, rfl, rfl, rfl, HE⟩
            · have HR : Hid (LpR X w7 X.heap.size G bp bf (i + 1) L' S' K (wth N nn t)) := hR
              have HT7 : Hid (Two w7 bp bf kb nb (i + 1) K N) := hT
              clear hR hT
              go_wp2_with fail
              refine (kwith nn t w7 bp bf kb nb (i + 1) K N HT7.out (by omega) hn6 ht (by omega) (by omega)).mono ?_
              rintro e w8 ⟨rfl, hT, hb8⟩
              have HT8 : Hid (Two w8 bp bf kb w7.heap.size (i + 1 + 1) K (wth N nn t)) := hT
              have HR8 : Hid (LpR X w8 X.heap.size G bp bf (i + 1) L' S' K (wth N nn t)) := HR.out.below hb8
              clear hT hb8 HR HT7
              go_wp2_with fail
              go_roundw
              case rel => exact ⟨i + 1, kb, _, L', S', K, _, by go_num, rfl, rfl, rfl, rfl, by omega, HR8, HT8⟩
              case measure => simp [intOf]; omega
          · go_wp2_with fail
            refine (kappend nn t X wc X.heap.size G bp bf i kb nb (i + 1) L S K N HQ2.out HT2.out (by omega) hn6 ht).mono ?_
            rintro e w7 (⟨S', rfl, hd, hA, hT, hs⟩ | ⟨L', S', rfl, hR, hT, hs⟩)
            · have HD : Hid (S'.down = true) := hd
              have HF : Hid (AfR X w7 X.heap.size S' K K) := hA
              have HT7 : Hid (Two w7 bp bf kb nb (i + 1) K N) := hT
              clear hd hA hT
              go_wp2_with fail
              refine (kwith nn t w7 bp bf kb nb (i + 1) K N HT7.out (by omega) hn6 ht (by omega) (by omega)).mono ?_
              rintro e w8 ⟨rfl, hT, hb8⟩
              have HE : Hid (AfterL X w8 X.heap.size kb kb 2) := ⟨S', K, K, _, HF.out.below hb8, hT.mq, hT.mq, by omega, .inr HD.out⟩
              clear hT hb8 HF HT7 HD
              go_wp2_with fail
              go_meet
              case rel => exact ⟨2, kb, kb, rfl, rfl, rfl, HE⟩
            · have HR : Hid (LpR X w7 X.heap.size G bp bf (i + 1) L' S' K (wth N nn t)) := hR
              have HT7 : Hid (Two w7 bp bf kb nb (i + 1) K N) := hT
              clear hR hT
              go_wp2_with fail
              refine (kwith nn t w7 bp bf kb nb (i + 1) K N HT7.out (by omega) hn6 ht (by omega) (by omega)).mono ?_
              rintro e w8 ⟨rfl, hT, hb8⟩
              have HT8 : Hid (Two w8 bp bf kb w7.heap.size (i + 1 + 1) K (wth N nn t)) := hT
              have HR8 : Hid (LpR X w8 X.heap.size G bp bf (i + 1) L' S' K (wth N nn t)) := HR.out.below hb8
              clear hT hb8 HR HT7
              go_wp2_with fail
              go_roundw
              case rel => exact ⟨i + 1, kb, _, L', S', K, _, by go_num, rfl, rfl, rfl, rfl, by omega, HR8, HT8⟩
              case measure => simp [intOf]; omega
          · go_wp2_with fail
            refine (kappend nn t X wc X.heap.size G bp bf i kb nb (i + 1) L S K N HQ2.out HT2.out (by omega) hn6 ht).mono ?_
            rintro e w7 (⟨S', rfl, hd, hA, hT, hs⟩ | ⟨L', S', rfl, hR, hT, hs⟩)
            · have HD : Hid (S'.down = true) := hd
              have HF : Hid (AfR X w7 X.heap.size S' K K) := hA
              have HT7 : Hid (Two w7 bp bf kb nb (i + 1) K N) := hT
              clear hd hA hT
              go_wp2_with fail
              refine (kwith nn t w7 bp bf kb nb (i + 1) K N HT7.out (by omega) hn6 ht (by omega) (by omega)).mono ?_
              rintro e w8 ⟨rfl, hT, hb8⟩
              have HE : Hid (AfterL X w8 X.heap.size kb kb 2) := ⟨S', K, K, _, HF.out.below hb8, hT.mq, hT.mq, by omega, .inr HD.out⟩
              clear hT hb8 HF HT7 HD
              go_wp2_with fail
              go_meet
              case rel => exact ⟨2, kb, kb, rfl, rfl, rfl, HE⟩
            · have HR : Hid (LpR X w7 X.heap.size G bp bf (i + 1) L' S' K (wth N nn t)) := hR
              have HT7 : Hid (Two w7 bp bf kb nb (i + 1) K N) := hT
              clear hR hT
              go_wp2_with fail
              refine (kwith nn t w7 bp bf kb nb (i + 1) K N HT7.out (by omega) hn6 ht (by omega) (by omega)).mono ?_
              rintro e w8 ⟨rfl, hT, hb8⟩
              have HT8 : Hid (Two w8 bp bf kb w7.heap.size (i + 1 + 1) K (wth N nn t)) := hT
              have HR8 : Hid (LpR X w8 X.heap.size G bp bf (i + 1) L' S' K (wth N nn t)) := HR.out.below hb8
              clear hT hb8 HR HT7
              go_wp2_with fail
              go_roundw
              case rel => exact ⟨i + 1, kb, _, L', S', K, _, by go_num, rfl, rfl, rfl, rfl, by omega, HR8, HT8⟩
              case measure => simp [intOf]; omega
          · go_wp2_with fail
            refine (kwith nn t wc bp bf kb nb (i + 1) K N HT2.out (by omega) hn6 ht (by omega) (by omega)).mono ?_
            rintro e w7 ⟨rfl, hT, hb7⟩
            have HT7 : Hid (Two w7 bp bf kb wc.heap.size (i + 1 + 1) K (wth N nn t)) := hT
            have HR7 : Hid (LpR X w7 X.heap.size G bp bf i L S K N) := HQ2.out.below hb7
            clear hT hb7
            go_wp2_with fail
            refine (kcommit nn t X w7 X.heap.size G bp bf i kb wc.heap.size (i + 1 + 1) L S K N HR7.out HT7.out (by omega) hn6 ht).mono ?_
            rintro e w8 (⟨S', rfl, hd, hA, hT⟩ | ⟨L', S', rfl, hR, hT⟩)
            · have HE : Hid (AfterL X w8 X.heap.size kb wc.heap.size 2) := ⟨S', K, wth N nn t, _, hA, hT.mq, hT.mn, by omega, .inr hd⟩
              clear hd hA hT HT7 HR7
              go_wp2_with fail
              go_meet
              case rel => exact ⟨2, kb, _, rfl, rfl, rfl, HE⟩
            · have HR8 : Hid (LpR X w8 X.heap.size G bp bf (i + 1) L' S' (wth N nn t) (wth N nn t)) := hR
              have HT8 : Hid (Two w8 bp bf wc.heap.size wc.heap.size (i + 1 + 1) (wth N nn t) (wth N nn t)) := hT.right
              clear hR hT HT7 HR7
              go_wp2_with fail
              go_roundw
              case rel => exact ⟨i + 1, _, _, L', S', _, _, by go_num, rfl, rfl, rfl, rfl, by omega, HR8, HT8⟩
              case measure => simp [intOf]; omega
          · go_wp2_with fail
            refine (kwith nn t wc bp bf kb nb (i + 1) K N HT2.out (by omega) hn6 ht (by omega) (by omega)).mono ?_
            rintro e w7 ⟨rfl, hT, hb7⟩
            have HT7 : Hid (Two w7 bp bf kb wc.heap.size (i + 1 + 1) K (wth N nn t)) := hT
            have HR7 : Hid (LpR X w7 X.heap.size G bp bf i L S K N) := HQ2.out.below hb7
            clear hT hb7
            go_wp2_with fail
            refine (kcommit nn t X w7 X.heap.size G bp bf i kb wc.heap.size (i + 1 + 1) L S K N HR7.out HT7.out (by omega) hn6 ht).mono ?_
            rintro e w8 (⟨S', rfl, hd, hA, hT⟩ | ⟨L', S', rfl, hR, hT⟩)
            · have HE : Hid (AfterL X w8 X.heap.size kb wc.heap.size 2) := ⟨S', K, wth N nn t, _, hA, hT.mq, hT.mn, by omega, .inr hd⟩
              clear hd hA hT HT7 HR7
              go_wp2_with fail
              go_meet
              case rel => exact ⟨2, kb, _, rfl, rfl, rfl, HE⟩
            · have HR8 : Hid (LpR X w8 X.heap.size G bp bf (i + 1) L' S' (wth N nn t) (wth N nn t)) := hR
              have HT8 : Hid (Two w8 bp bf wc.heap.size wc.heap.size (i + 1 + 1) (wth N nn t) (wth N nn t)) := hT.right
              clear hR hT HT7 HR7
              go_wp2_with fail
              go_roundw
              case rel => exact ⟨i + 1, _, _, L', S', _, _, by go_num, rfl, rfl, rfl, rfl, by omega, HR8, HT8⟩
              case measure => simp [intOf]; omega
          · go_wp2_with fail
            refine (kwith nn t wc bp bf kb nb (i + 1) K N HT2.out (by omega) hn6 ht (by omega) (by omega)).mono ?_
            rintro e w7 ⟨rfl, hT, hb7⟩
            have HT7 : Hid (Two w7 bp bf kb wc.heap.size (i + 1 + 1) K (wth N nn t)) := hT
            have HR7 : Hid (LpR X w7 X.heap.size G bp bf i L S K N) := HQ2.out.below hb7
            clear hT hb7
            go_wp2_with fail
            refine (kcommit nn t X w7 X.heap.size G bp bf i kb wc.heap.size (i + 1 + 1) L S K N HR7.out HT7.out (by omega) hn6 ht).mono ?_
            rintro e w8 (⟨S', rfl, hd, hA, hT⟩ | ⟨L', S', rfl, hR, hT⟩)
            · have HE : Hid (AfterL X w8 X.heap.size kb wc.heap.size 2) := ⟨S', K, wth N nn t, _, hA, hT.mq, hT.mn, by omega, .inr hd⟩
              clear hd hA hT HT7 HR7
              go_wp2_with fail
              go_meet
              case rel => exact ⟨2, kb, _, rfl, rfl, rfl, HE⟩
            · have HR8 : Hid (LpR X w8 X.heap.size G bp bf (i + 1) L' S' (wth N nn t) (wth N nn t)) := hR
              have HT8 : Hid (Two w8 bp bf wc.heap.size wc.heap.size (i + 1 + 1) (wth N nn t) (wth N nn t)) := hT.right
              clear hR hT HT7 HR7
              go_wp2_with fail
              go_roundw
              case rel => exact ⟨i + 1, _, _, L', S', _, _, by go_num, rfl, rfl, rfl, rfl, by omega, HR8, HT8⟩
              case measure => simp [intOf]; omega
          · go_wp2_with fail
            refine (kback X wc X.heap.size G bp bf i kb nb (i + 1) L S K N HQ2.out HT2.out).mono ?_
            rintro e w8 ⟨rfl, hR, hT⟩
            have HR8 : Hid (LpR X w8 X.heap.size G bp bf (i + 1) (bkL L) S K K) := hR
            have HT8 : Hid (Two w8 bp bf kb kb (i + 1 + 1) K K) := hT.left
            clear hR hT
            go_wp2_with fail
            go_roundw
            case rel => exact ⟨i + 1, _, _, _, _, _, _, by go_num, rfl, rfl, rfl, rfl, by omega, HR8, HT8⟩
            case measure => simp [intOf]; omega
          · go_wp2_with fail
            refine (kcheck X wc X.heap.size G bp bf i kb nb (i + 1) L S K N HQ2.out HT2.out (by omega)).mono ?_
            rintro e w8 (⟨S', rfl, hd, hA, hT⟩ | ⟨L', S', (rfl | rfl), hR, hT⟩)
            · have HE : Hid (AfterL X w8 X.heap.size kb kb 2) := ⟨S', K, K, _, hA, hT.mq, hT.mq, by omega, .inr hd⟩
              clear hd hA hT
              go_wp2_with fail
              go_meet
              case rel => exact ⟨2, kb, kb, rfl, rfl, rfl, HE⟩
            all_goals
              have HR8 : Hid (LpR X w8 X.heap.size G bp bf (i + 1) L' S' K N) := hR
              have HT8 : Hid (Two w8 bp bf kb nb (i + 1 + 1) K N) := hT.up
              clear hR hT
              go_wp2_with fail
              go_roundw
              case rel => exact ⟨i + 1, _, _, _, _, _, _, by go_num, rfl, rfl, rfl, rfl, by omega, HR8, HT8⟩
              case measure => simp [intOf]; omega
      · obtain rfl : i = min sl 250 := by omega
        go_wp2_with fail
        go_meet
        case rel => exact ⟨0, kb, kb, rfl, rfl, rfl, ⟨S, K, K, _, HQ.out.af (by omega), HT.out.mq, HT.out.mq, by omega, .inl rfl⟩⟩
  case rest =>
    clear HR5 HT5 HB5 HB3 HL HA
    obtain ⟨ev, kb, mb, rfl, rfl, rfl, HAf⟩ := hcut
    obtain ⟨S, K, M, nk, hAf, hMk, hMm, hnk, hev⟩ := HAf.out
    have HDS : Hid (PDs wc X.heap.size X.heap.size S) := hAf.ds
    have HOK : Hid (okS S 100000) := hAf.ok
    have HCR : Hid (CrOr S K M) := hAf.cr
    have HB : Hid (Below X.heap.size X wc) := hAf.bel
    have HMK : Hid (MS wc kb nk K) := hMk
    have HMM : Hid (MS wc mb nk M) := hMm
    have HEV : Hid (ev = 0 ∨ S.down = true) := hev
    clear HAf hAf hMk hMm hev
    go_upto_region 40 with fail
    go_cut [108] (fun x wx => x = .bool false ∧ wc = wx)
    case first =>
      by_cases he : ev = 0
      · subst he
        go_wp2_with fail
        go_meet
        case rel => exact ⟨rfl, rfl⟩
      · have hz : (ev != 0) = true := by simpa using he
        have hdn : S.down = true := by
          rcases HEV.out with h | h
          · exact absurd h he
          · exact h
        have hz2 : (ev == 0) = false := by simpa using he
        go_wp2_with fail
        refine (cdownD _ X.heap.size X.heap.size S HDS.out).mono ?_
        rw [hdn]
        rintro e w8 ⟨rfl, hw⟩; rw [hw]; clear hw
        go_wp2_with fail
        go_meet
        case rel => exact ⟨rfl, rfl⟩
    case rest =>
      obtain ⟨rfl, rfl⟩ := hcut
      obtain ⟨c, F, hG, hFF⟩ : ∃ c F, GoodS (crD (fateI kl fk) S) F c ∧ (F = K ∨ F = M) := by
        rcases HCR.out (fateI kl fk) with ⟨c, g⟩ | ⟨c, g⟩
        · exact ⟨c, K, g, .inl rfl⟩
        · exact ⟨c, M, g, .inr rfl⟩
      have HG1 : Hid (GoodS (crD (fateI kl fk) S) F c) := hG
      have HFF : Hid (F = K ∨ F = M) := hFF
      clear hG hFF HCR HEV
      go_wp2_with fail
      refine (ccrashD ka kl kc fk wc X.heap.size X.heap.size 100000 S HDS.out HB.out.size HOK.out (by decide) hkn (keepI HK.out HB.out)).mono ?_
      rintro e v1 ⟨rfl, hP1, hb1⟩
      have HP1 : Hid (PDs v1 X.heap.size X.heap.size (crD (fateI kl fk) S)) := hP1
      have HB1 : Hid (Below X.heap.size X v1) := HB.out.trans hb1.toBelow
      have HK1 : Hid (MS v1 kb nk K) := HMK.out.belT hb1
      have HM1 : Hid (MS v1 mb nk M) := HMM.out.belT hb1
      clear hP1 hb1 HB HMK HMM HDS
      go_wp2_with fail
      refine (cpick again 8 _ HG.out ⟨by decide, by decide⟩).mono ?_
      rintro e w8 ⟨rfl, hw⟩; rw [hw]; clear hw
      go_wp2_with fail
      refine (cfailD (pickI again 8) v1 X.heap.size X.heap.size _ HP1.out).mono ?_
      rintro e v2 ⟨rfl, hP2, hb2⟩
      have hp8 := pickI_in again (n := 8) (by decide)
      have HP2 : Hid (PDs v2 X.heap.size X.heap.size { crD (fateI kl fk) S with left := pickI again 8 }) := hP2
      have HB2 : Hid (Below X.heap.size X v2) := HB1.out.trans hb2.toBelow
      have HK2 : Hid (MS v2 kb nk K) := HK1.out.belT hb2
      have HM2 : Hid (MS v2 mb nk M) := HM1.out.belT hb2
      have HO2 : Hid (okS { crD (fateI kl fk) S with left := pickI again 8 } 100000) := crD_ok HOK.out _ _ ⟨by omega, by omega⟩
      have HLC : Hid (¬ (lastC (({ crD (fateI kl fk) S with left := pickI again 8 } : DS).lb 2)).number = 0) := by
        show ¬ (lastC ((crD (fateI kl fk) S).lb 2)).number = 0
        rw [HG1.out.tp.last]
        have := HG1.out.tp.number
        omega
      clear hP2 hb2 HB1 HK1 HM1 HP1 HOK hp8
      go_wp2_with fail
      refine (copen v2 X.heap.size X.heap.size _ HP2.out HB2.out.size rfl HLC.out).mono ?_
      rintro e v3 ⟨G3, bp3, bf3, rfl, hL3, hb3⟩
      have HP3 : Hid (PDs v3 X.heap.size X.heap.size { crD (fateI kl fk) S with left := pickI again 8 }) := hL3.dsk
      have HB3 : Hid (Below X.heap.size X v3) := HB2.out.trans (hb3.mono HB2.out.size)
      have HK3 : Hid (MS v3 kb nk K) := HK2.out.keep (hb3.block _ HK2.out.lt)
      have HM3 : Hid (MS v3 mb nk M) := HM2.out.keep (hb3.block _ HM2.out.lt)
      clear hL3 hb3 HB2 HK2 HM2 HP2 HLC
      go_wp2_with fail
      refine (ccrashD ka kl kc fk v3 X.heap.size X.heap.size 100000 _ HP3.out HB3.out.size HO2.out (by decide) hkn (keepI HK.out HB3.out)).mono ?_
      rintro e v4 ⟨rfl, hP4, hb4⟩
      have hG2 : GoodS (crD (fateI kl fk) { crD (fateI kl fk) S with left := pickI again 8 }) F c := HG1.out.again rfl rfl _
      obtain ⟨S4, hS4⟩ : ∃ S4, S4 = crD (fateI kl fk) { crD (fateI kl fk) S with left := pickI again 8 } := ⟨_, rfl⟩
      rw [← hS4] at hP4 hG2
      have HG2 : Hid (GoodS S4 F c) := hG2
      have HP4 : Hid (PDs v4 X.heap.size X.heap.size S4) := hP4
      have HB4 : Hid (Below X.heap.size X v4) := HB3.out.trans hb4.toBelow
      have HK4 : Hid (MS v4 kb nk K) := HK3.out.belT hb4
      have HM4 : Hid (MS v4 mb nk M) := HM3.out.belT hb4
      clear hP4 hb4 HB3 HK3 HM3 HP3 HO2 HG1 hG2 hS4
      have HN4 : Hid (∀ i < 4, (S4.lb i).length ≤ 67108864) := HP4.out.len
      go_wp2_with fail
      refine (cmoved v4 X.heap.size X.heap.size S4 HP4.out HG2.out.down).mono ?_
      rintro e v5 ⟨rfl, hP5, hb5⟩
      have HP5 : Hid (PDs v5 v4.heap.size v4.heap.size (mv S4 2)) := hP5
      have HB5 : Hid (Below X.heap.size X v5) := HB4.out.trans (hb5.mono HB4.out.size)
      have HK5 : Hid (MS v5 kb nk K) := HK4.out.keep (hb5.block _ HK4.out.lt)
      have HM5 : Hid (MS v5 mb nk M) := HM4.out.keep (hb5.block _ HM4.out.lt)
      have HS5 : Hid (v4.heap.size ≤ v5.heap.size) := hb5.size
      have HMV : Hid (lastC ((mv S4 2).lb 2) = c ∧ (mv S4 2).down = false ∧ ∀ n : Nat, n < 6 → hasA (opnL ((mv S4 2).lb 2)) (mv S4 2) F n = true) := HG2.out.moved HN4.out
      have HLC : Hid (¬ (lastC ((mv S4 2).lb 2)).number = 0) := by
        show ¬ (lastC ((mv S4 2).lb 2)).number = 0
        rw [HMV.out.1]
        have := HG2.out.tp.number
        omega
      clear hP5 hb5 HB4 HK4 HM4 HP4
      go_wp2_with fail
      refine (copen v5 v4.heap.size v4.heap.size (mv S4 2) HP5.out HS5.out HMV.out.2.1 HLC.out).mono ?_
      rintro e v6 ⟨G6, bp6, bf6, rfl, hL6, hb6⟩
      have HP6 : Hid (PL v6 v4.heap.size v4.heap.size G6 bp6 bf6 (lastC ((mv S4 2).lb 2)).frames (opnL ((mv S4 2).lb 2)) (mv S4 2)) := hL6
      have HB6 : Hid (Below X.heap.size X v6) := HB5.out.trans (hb6.mono HB5.out.size)
      have HK6 : Hid (MS v6 kb nk K) := HK5.out.keep (hb6.block _ HK5.out.lt)
      have HM6 : Hid (MS v6 mb nk M) := HM5.out.keep (hb6.block _ HM5.out.lt)
      have HOM : Hid (okM (opnL ((mv S4 2).lb 2)).pl ∧ okM (opnL ((mv S4 2).lb 2)).fh) := mv_ok4 HN4.out
      clear hL6 hb6 HB5 HK5 HM5 HP5 HS5 HLC
      go_wp2_with fail
      refine (chas v6 v4.heap.size v4.heap.size G6 bp6 bf6 _ kb nk _ _ K HP6.out HK6.out HOM.out.1 HOM.out.2).mono ?_
      rintro e v7 ⟨rfl, hb7⟩
      have HB7 : Hid (Below X.heap.size X v7) := HB6.out.trans (hb7.mono HB6.out.size)
      cases hq : ((List.range 6).all fun n => hasA (opnL ((mv S4 2).lb 2)) (mv S4 2) K n) with
      | true =>
        clear hb7
        go_wp2_with fail
        go_ret
        exact ⟨rfl, HB7.out⟩
      | false =>
        have hFM : F = M := by
          rcases HFF.out with rfl | h
          · rw [all_has HMV.out.2.2] at hq
            cases hq
          · exact h
        subst hFM
        have HP7 : Hid (PL v7 v4.heap.size v4.heap.size G6 bp6 bf6 (lastC ((mv S4 2).lb 2)).frames (opnL ((mv S4 2).lb 2)) (mv S4 2)) := HP6.out.below hb7
        have HM7 : Hid (MS v7 mb nk F) := HM6.out.keep (hb7.block _ HM6.out.lt)
        have HAL : Hid (((List.range 6).all fun n => hasA (opnL ((mv S4 2).lb 2)) (mv S4 2) F n) = true) := all_has HMV.out.2.2
        clear hb7 hq
        go_wp2_with fail
        refine (chas v7 v4.heap.size v4.heap.size G6 bp6 bf6 _ mb nk _ _ F HP7.out HM7.out HOM.out.1 HOM.out.2).mono ?_
        rw [HAL.out]
        rintro e v8 ⟨rfl, hb8⟩
        have HB8 : Hid (Below X.heap.size X v8) := HB7.out.trans (hb8.mono HB7.out.size)
        clear hb8
        go_wp2_with fail
        go_ret
        exact ⟨rfl, HB8.out⟩
end Go.Proofs.Ytfjkockcgddgbaa
