/- relstorelaw.LogRuns -/
import Derived.Test.YtfjkockcgddgbaaGreatLrS
import Derived.Deep.CutBlock
namespace Go.Proofs.YtfjkockcgddgbaaGreat
open Go.RowKit Go.Lib
attribute [local go_sem ↓] Go.wp_at_zero Go.wp_at_succ
def mq (i : Nat) : Nat := i * (i + 20) + 40
theorem mq_succ (i : Nat) : mq (i + 1) = mq i + 2 * i + 21 := by
  unfold mq
  rw [show i + 1 + 20 = (i + 20) + 1 by omega, Nat.add_mul, Nat.one_mul, Nat.mul_add i (i + 20) 1, Nat.mul_one]
  omega
theorem mq_le {i : Nat} (h : i ≤ 250) : mq i ≤ 70000 := by
  have : i * (i + 20) ≤ 250 * 270 := Nat.mul_le_mul h (by omega)
  unfold mq
  omega
theorem LR.up {X w : World} {D R G bp bf M K m K' m' : Nat} {L : LS} {S : DS} {fs : List (Int × ByteArray)} (h : LR X w D R G bp bf M K m L S fs) (hK : K ≤ K') (hm : m ≤ m') : LR X w D R G bp bf M K' m' L S fs := ⟨h.pl.mono hK, h.rl, h.q.mono hK hm, h.bel⟩
theorem okAct.keepP {X w : World} {x : ActD} (h : okAct X X.heap.size x) (hb : Below X.heap.size X w) (T : TypeId → Bool) : x.kn ≤ 140737488355328 ∧ liesI T w X.heap.size x.kp x.kn x.fk := by
  refine ⟨by have := h.2.1; omega, ?_⟩
  rcases h.2.2 with h0 | ⟨b, off, h1, h2, h3⟩
  · exact .inl h0
  · exact .inr ⟨b, off, h1, .inl h2, fun j hj => (hb.cell (p := ⟨b, off + j, none⟩) h2).trans (h3 j hj)⟩
/- what is left when a script's step is done -/
structure Aft (X w : World) (D R G M K m b0 : Nat) (x : ActD) : Prop where
  lr : ∃ bp bf L S fs, LR X w D R G bp bf M K m L S fs
  ob : w.heap[b0]? = some (.cells (actA x) 39 (0, 0))
set_option maxRecDepth 20000 in
set_option maxHeartbeats 60000000 in
theorem llogruns (sa : Option Addr) (sl sc : Nat) (A : Nat → ActD) (X : World) (hl : liesActs X sa sl A) (hn : sl ≤ 140737488355328) (hc : sl ≤ sc) (ha : sa = none → sl = 0 ∧ sc = 0) :
    Calls Tryz.prog 3 #[.slice sa sl sc] X fun e w' => e = .returned (.bool true) ∧ Below X.heap.size X w' := by
  have HL : Hid (liesActs X sa sl A) := hl
  have HA : Hid (sa = none → sl = 0 ∧ sc = 0) := ha
  clear hl ha
  go_enter Tryz.func3, Tryz.ntmps3
  go_wp2_with fail
  refine (cnewD X).mono ?_
  rintro e w1 ⟨rfl, hP1, hb1⟩
  go_wp2_with fail
  refine (rnewD w1 hP1 hb1).mono ?_
  rintro e w2 ⟨rfl, hC2⟩
  have HC2 : Hid (LC X w2 X.heap.size w1.heap.size newD newD) := hC2
  clear hP1 hb1 hC2
  generalize w1.heap.size = R at *
  go_wp2_with fail
  refine (pOpen new_ups HC2.out (by omega)).mono ?_
  rintro e w3 ⟨G, bp, bf, rfl, hO, -⟩
  have HO3 : Hid (LO X w3 X.heap.size R G bp bf 0 newD) := hO
  clear hO HC2
  go_wp2_with fail
  refine (rOpen new_ups HO3.out (by omega)).mono ?_
  rintro e w4 ⟨M, rfl, hQ, -⟩
  have HQ4 : Hid (∃ bp bf L S fs, LR X w4 X.heap.size R G bp bf M (2 * 0) (mq 0) L S fs) := ⟨bp, bf, _, _, _, hQ.up (by omega) (by decide)⟩
  clear hQ HO3
  go_wp2_with fail
  refine (dnum 0 w4).mono ?_
  rintro e w5 ⟨rfl, rfl⟩
  go_wp2_with fail
  refine (lshort sa sl sc w5 hn hc HA.out).mono ?_
  rintro e w6 ⟨rfl, rfl⟩
  go_wp2_with fail
  go_loopw [5, 6, 7, 8, 42] (fun x5 x6 x7 x8 u w => ∃ (i G M : Nat), u = .int .i64 i ∧ x5 = (.pointer (some ⟨G, 0, none⟩)) ∧ x6 = .int .i64 0 ∧ x7 = (.pointer (some ⟨M, 0, none⟩)) ∧ x8 = .int .i64 0 ∧ i ≤ min sl 250 ∧ Hid (∃ bp bf L S fs, LR X w X.heap.size R G bp bf M (2 * i) (mq i) L S fs)) (fun _ _ _ _ u _ => min sl 250 - (intOf u).toNat)
  case atStart => exact ⟨0, G, M, rfl, rfl, rfl, rfl, rfl, Nat.zero_le _, HQ4⟩
  case round =>
    clear HQ4
    obtain ⟨i, G, M, rfl, rfl, rfl, rfl, rfl, hin, HQ⟩ := hrel
    by_cases hlt : i < min sl 250
    · have hsl : i < sl := by omega
      have hi2 : i < 250 := by omega
      rcases HL.out with h0 | ⟨b, off, rfl, hbX, hE⟩
      · omega
      have ki : (0 : Int) ≤ (i : Int) := by omega
      have kn : (i : Int) < ((min sl 250 : Nat) : Int) := by omega
      have HB : Hid (Below X.heap.size X wr) := by obtain ⟨_, _, _, _, _, h⟩ := HQ.out; exact h.bel
      have zb := HB.out.size
      have hbw : b < wr.heap.size := by omega
      have g : ∀ j, j < 8 → wr.cell? ⟨b, off + (i * 8 + j), none⟩ = (actCells (A i))[j]? := fun j hj => (HB.out.cell (p := ⟨b, off + (i * 8 + j), none⟩) hbX).trans ((hE i hsl).2 j hj)
      have d0 : wr.cell? ⟨b, off + i * 8, none⟩ = some (.int .i64 (A i).k) := g 0 (by decide)
      have d1 : wr.cell? ⟨b, off + i * 8 + 1, none⟩ = some (.int .i64 (A i).f) := g 1 (by decide)
      have d2 : wr.cell? ⟨b, off + i * 8 + 2, none⟩ = some (.int .i64 (A i).a) := g 2 (by decide)
      have d3 : wr.cell? ⟨b, off + i * 8 + 3, none⟩ = some (.int .i64 (A i).n) := g 3 (by decide)
      have d4 : wr.cell? ⟨b, off + i * 8 + 4, none⟩ = some (.string (A i).s) := g 4 (by decide)
      have d5 : wr.cell? ⟨b, off + i * 8 + 5, none⟩ = some (.string (A i).t) := g 5 (by decide)
      have d6 : wr.cell? ⟨b, off + i * 8 + 6, none⟩ = some (.slice (A i).kp (A i).kn (A i).kc) := g 6 (by decide)
      have d7 : wr.cell? ⟨b, off + i * 8 + 7, none⟩ = some (.slice (A i).ca (A i).cn (A i).cc) := g 7 (by decide)
      have OK : Hid (okAct X X.heap.size (A i)) := (hE i hsl).1
      clear g hE HL
      generalize hx : A i = x at *
      go_upto_block 2 with fail
      have HQ2 : Hid (∃ bp bf L S fs, LR X (wr.alloc (.cells (actA x) 39)) X.heap.size R G bp bf M (2 * i) (mq i) L S fs) := by obtain ⟨bp, bf, L, S, fs, h⟩ := HQ.out; exact ⟨bp, bf, L, S, fs, h.below ((Below.refl _ _).alloc (Nat.le_refl _) _)⟩
      have OB : Hid ((wr.alloc (.cells (actA x) 39)).heap[wr.heap.size]? = some (.cells (actA x) 39 (0, 0))) := heap_alloc_new wr _
      have hW : wr.alloc (.cells (actA x) 39) = wr.alloc (.cells #[.int .i64 x.k, .int .i64 x.f, .int .i64 x.a, .int .i64 x.n, .string x.s, .string x.t, .slice x.kp x.kn x.kc, .slice x.ca x.cn x.cc] 39) := rfl
      rw [hW] at HQ2 OB
      clear hW d0 d1 d2 d3 d4 d5 d6 d7 HQ
      generalize wr.alloc (.cells #[.int .i64 x.k, .int .i64 x.f, .int .i64 x.a, .int .i64 x.n, .string x.s, .string x.t, .slice x.kp x.kn x.kc, .slice x.ca x.cn x.cc] 39) = wb at *
      generalize wr.heap.size = b0 at *
      have hmq := mq_le (i := i) (by omega)
      go_cut [5, 6, 7, 8, 11] (fun x5 x6 x7 x8 x11 wx => ∃ (G M : Nat), x5 = (.pointer (some ⟨G, 0, none⟩)) ∧ x6 = .int .i64 0 ∧ x7 = (.pointer (some ⟨M, 0, none⟩)) ∧ x8 = .int .i64 0 ∧ x11 = .bool true ∧ Hid (Aft X wx X.heap.size R G M (2 * i + 2) (mq i + 2 * i + 10) b0 x))
      case first =>
        obtain ⟨bp, bf, L, S, fs, hQ⟩ := HQ2.out
        have HR : Hid (LR X wb X.heap.size R G bp bf M (2 * i) (mq i) L S fs) := hQ
        clear hQ HQ2
        obtain ⟨-, c1, c2, c3, c4, c6⟩ := box_cells OB.out
        generalize hkk : x.k = kk at *
        clear hkk
        by_cases k1 : kk = 1
        · subst k1
          as_aux_lemma =>
            go_wp2_with fail
            refine (pRead x.n HR.out (by omega)).mono ?_
            rintro e w7 ⟨rfl, hR, hk⟩
            have HR7 : Hid (LR X w7 X.heap.size R G bp bf M (2 * i) (mq i) L S fs) := hR
            have OB7 : Hid (w7.heap[b0]? = some (.cells (actA x) 39 (0, 0))) := hk _ _ _ OB.out
            clear hR hk HR OB c1 c2 c3 c4 c6
            obtain ⟨-, c1, c2, c3, c4, c6⟩ := box_cells OB7.out
            go_wp2_with fail
            refine (rRead x.n HR7.out (by omega) (by omega)).mono ?_
            rintro e w8 ⟨rfl, hR, hk⟩
            have HR8 : Hid (LR X w8 X.heap.size R G bp bf M (2 * i) (mq i) L S fs) := hR
            have OB8 : Hid (w8.heap[b0]? = some (.cells (actA x) 39 (0, 0))) := hk _ _ _ OB7.out
            clear hR hk HR7 OB7 c1 c2 c3 c4 c6
            go_wp2_with fail
            refine (dnum _ _).mono ?_
            rintro e w9 ⟨rfl, rfl⟩
            go_wp2_with fail
            go_meet
            case rel => exact ⟨G, M, rfl, rfl, rfl, rfl, rfl, ⟨⟨bp, bf, L, S, fs, HR8.out.up (by omega) (by omega)⟩, OB8.out⟩⟩
        by_cases k2 : kk = 2
        · subst k2
          as_aux_lemma =>
            have HQ : Hid (LQ (2 * i) (mq i) L S fs) := HR.out.q
            have H0 : Hid (LR X wb.drew X.heap.size R G bp bf M (2 * i) (mq i) L S fs) := HR.out.below ⟨rfl, rfl, rfl, Nat.le_refl _, fun _ _ => rfl⟩
            go_wp2_with fail
            refine reg18 x b0 G M (shB x.a) (apL L S x.n (shB x.a)).1 (fun j w => match j with | 0 => LR X w X.heap.size R G bp bf M (2 * i) (mq i) L S fs | 1 => LR X w X.heap.size R G bp bf M (2 * i) (mq i) L S fs | 2 => LP X w X.heap.size R G bp bf M (2 * i + 1) (apL L S x.n (shB x.a)).2.1 (apL L S x.n (shB x.a)).2.2 fs L.last S | 3 => LP X w X.heap.size R G bp bf M (2 * i + 1) (apL L S x.n (shB x.a)).2.1 (apL L S x.n (shB x.a)).2.2 fs L.last S | 4 => LP X w X.heap.size R G bp bf M (2 * i + 1) (apL L S x.n (shB x.a)).2.1 (apL L S x.n (shB x.a)).2.2 fs L.last S | _ => LR X w X.heap.size R G bp bf M (2 * i + 1) (mq i + 1) (apL L S x.n (shB x.a)).2.1 (apL L S x.n (shB x.a)).2.2 (apF fs (apL L S x.n (shB x.a)).1 x.n (shB x.a))) OB.out ?h0 ?c0 ?c1 ?c2 ?c3 ?c4 (by simp) rfl rfl rfl rfl (by kernel_rfl) (by kernel_rfl) (by kernel_rfl) (by kernel_rfl) (by kernel_rfl) (by kernel_rfl) (by kernel_rfl) (by kernel_rfl) (by kernel_rfl) (by kernel_rfl) (by kernel_rfl) (by kernel_rfl) (by kernel_rfl) ?_
            case h0 => exact H0.out
            case c0 =>
              intro w h0
              have h : LR X w X.heap.size R G bp bf M (2 * i) (mq i) L S fs := h0
              clear h0
              refine (lsheet x.a w).mono ?_
              rintro e w' ⟨h1, h2⟩
              exact ⟨h1, h.below h2, Keep.below h2⟩
            case c1 =>
              intro w h0
              have h : LR X w X.heap.size R G bp bf M (2 * i) (mq i) L S fs := h0
              clear h0
              exact pApp x.n (shB x.a) h (by omega) (by omega)
            case c2 =>
              intro w h0
              have h : LP X w X.heap.size R G bp bf M (2 * i + 1) (apL L S x.n (shB x.a)).2.1 (apL L S x.n (shB x.a)).2.2 fs L.last S := h0
              clear h0
              refine (dnum _ w).mono ?_
              rintro e w' ⟨h1, h2⟩
              subst h2
              exact ⟨h1, h, Keep.refl _⟩
            case c3 =>
              intro w h0
              have h : LP X w X.heap.size R G bp bf M (2 * i + 1) (apL L S x.n (shB x.a)).2.1 (apL L S x.n (shB x.a)).2.2 fs L.last S := h0
              clear h0
              refine (lsheet x.a w).mono ?_
              rintro e w' ⟨h1, h2⟩
              exact ⟨h1, h.below h2, Keep.below h2⟩
            case c4 =>
              intro w h0
              have h : LP X w X.heap.size R G bp bf M (2 * i + 1) (apL L S x.n (shB x.a)).2.1 (apL L S x.n (shB x.a)).2.2 fs L.last S := h0
              clear h0
              exact rApp x.n (shB x.a) HQ.out h (by omega) (by omega)
            intro u75 u76 u77 u78 u79 u80 u81 u82 u83 u84 u85 u86 u87 u88 u89 u90 w7 hS hob7
            simp only [sets, List.setIfInBounds_toArray, List.set_cons_zero, List.set_cons_succ]
            have HR7 : Hid (LR X w7 X.heap.size R G bp bf M (2 * i + 1) (mq i + 1) (apL L S x.n (shB x.a)).2.1 (apL L S x.n (shB x.a)).2.2 (apF fs (apL L S x.n (shB x.a)).1 x.n (shB x.a))) := hS
            have OB7 : Hid (w7.heap[b0]? = some (.cells (actA x) 39 (0, 0))) := hob7
            clear hS hob7 HR OB H0 HQ c1 c2 c3 c4 c6
            go_wp2_with fail
            go_meet
            case rel => exact ⟨G, M, rfl, rfl, rfl, rfl, rfl, ⟨⟨bp, bf, _, _, _, HR7.out.up (by omega) (by omega)⟩, OB7.out⟩⟩
        by_cases k3 : kk = 3
        · subst k3
          as_aux_lemma =>
            have HQ : Hid (LQ (2 * i) (mq i) L S fs) := HR.out.q
            have H0 : Hid (LR X wb.drew X.heap.size R G bp bf M (2 * i) (mq i) L S fs) := HR.out.below ⟨rfl, rfl, rfl, Nat.le_refl _, fun _ _ => rfl⟩
            go_wp2_with fail
            refine reg20 x b0 G M (shB x.a) (cmL L S x.n (shB x.a) x.f).1 (fun j w => match j with | 0 => LR X w X.heap.size R G bp bf M (2 * i) (mq i) L S fs | 1 => LR X w X.heap.size R G bp bf M (2 * i) (mq i) L S fs | 2 => LP X w X.heap.size R G bp bf M (2 * i + 1) (cmL L S x.n (shB x.a) x.f).2.1 (cmL L S x.n (shB x.a) x.f).2.2 fs L.last S | 3 => LP X w X.heap.size R G bp bf M (2 * i + 1) (cmL L S x.n (shB x.a) x.f).2.1 (cmL L S x.n (shB x.a) x.f).2.2 fs L.last S | 4 => LP X w X.heap.size R G bp bf M (2 * i + 1) (cmL L S x.n (shB x.a) x.f).2.1 (cmL L S x.n (shB x.a) x.f).2.2 fs L.last S | _ => LR X w X.heap.size R G bp bf M (2 * i + 1) (mq i + 4) (cmL L S x.n (shB x.a) x.f).2.1 (cmL L S x.n (shB x.a) x.f).2.2 (cmF L S fs x.n (shB x.a) x.f)) OB.out ?h0 ?c0 ?c1 ?c2 ?c3 ?c4 (by simp) rfl rfl rfl rfl (by kernel_rfl) (by kernel_rfl) (by kernel_rfl) (by kernel_rfl) (by kernel_rfl) (by kernel_rfl) (by kernel_rfl) (by kernel_rfl) (by kernel_rfl) (by kernel_rfl) (by kernel_rfl) (by kernel_rfl) (by kernel_rfl) (by kernel_rfl) (by kernel_rfl) ?_
            case h0 => exact H0.out
            case c0 =>
              intro w h0
              have h : LR X w X.heap.size R G bp bf M (2 * i) (mq i) L S fs := h0
              clear h0
              refine (lsheet x.a w).mono ?_
              rintro e w' ⟨h1, h2⟩
              exact ⟨h1, h.below h2, Keep.below h2⟩
            case c1 =>
              intro w h0
              have h : LR X w X.heap.size R G bp bf M (2 * i) (mq i) L S fs := h0
              clear h0
              exact pCom x.n (shB x.a) x.f h (by omega) (by omega)
            case c2 =>
              intro w h0
              have h : LP X w X.heap.size R G bp bf M (2 * i + 1) (cmL L S x.n (shB x.a) x.f).2.1 (cmL L S x.n (shB x.a) x.f).2.2 fs L.last S := h0
              clear h0
              refine (dnum _ w).mono ?_
              rintro e w' ⟨h1, h2⟩
              subst h2
              exact ⟨h1, h, Keep.refl _⟩
            case c3 =>
              intro w h0
              have h : LP X w X.heap.size R G bp bf M (2 * i + 1) (cmL L S x.n (shB x.a) x.f).2.1 (cmL L S x.n (shB x.a) x.f).2.2 fs L.last S := h0
              clear h0
              refine (lsheet x.a w).mono ?_
              rintro e w' ⟨h1, h2⟩
              exact ⟨h1, h.below h2, Keep.below h2⟩
            case c4 =>
              intro w h0
              have h : LP X w X.heap.size R G bp bf M (2 * i + 1) (cmL L S x.n (shB x.a) x.f).2.1 (cmL L S x.n (shB x.a) x.f).2.2 fs L.last S := h0
              clear h0
              exact rCom x.n (shB x.a) x.f HQ.out h (by omega) (by omega)
            intro u93 u94 u95 u96 u97 u98 u99 u100 u101 u102 u103 u104 u105 u106 u107 u108 u109 u110 u111 u112 w7 hS hob7
            simp only [sets, List.setIfInBounds_toArray, List.set_cons_zero, List.set_cons_succ]
            have HR7 : Hid (LR X w7 X.heap.size R G bp bf M (2 * i + 1) (mq i + 4) (cmL L S x.n (shB x.a) x.f).2.1 (cmL L S x.n (shB x.a) x.f).2.2 (cmF L S fs x.n (shB x.a) x.f)) := hS
            have OB7 : Hid (w7.heap[b0]? = some (.cells (actA x) 39 (0, 0))) := hob7
            clear hS hob7 HR OB H0 HQ c1 c2 c3 c4 c6
            go_wp2_with fail
            go_meet
            case rel => exact ⟨G, M, rfl, rfl, rfl, rfl, rfl, ⟨⟨bp, bf, _, _, _, HR7.out.up (by omega) (by omega)⟩, OB7.out⟩⟩
        by_cases k4 : kk = 4
        · subst k4
          as_aux_lemma =>
            have HQ : Hid (LQ (2 * i) (mq i) L S fs) := HR.out.q
            go_wp2_with fail
            refine (pBack HR.out).mono ?_
            rintro e w7 ⟨rfl, hP, hk⟩
            have HP7 : Hid (LP X w7 X.heap.size R G bp bf M (2 * i) (bkL L) S fs L.last S) := hP
            have OB7 : Hid (w7.heap[b0]? = some (.cells (actA x) 39 (0, 0))) := hk _ _ _ OB.out
            clear hP hk HR OB c1 c2 c3 c4 c6
            go_wp2_with fail
            refine (rBack HQ.out HP7.out).mono ?_
            rintro e w8 ⟨rfl, hR, hk⟩
            have HR8 : Hid (LR X w8 X.heap.size R G bp bf M (2 * i) (mq i) (bkL L) S (fs.take L.last.frames)) := hR
            have OB8 : Hid (w8.heap[b0]? = some (.cells (actA x) 39 (0, 0))) := hk _ _ _ OB7.out
            clear hR hk HP7 OB7
            go_wp2_with fail
            go_meet
            case rel => exact ⟨G, M, rfl, rfl, rfl, rfl, rfl, ⟨⟨bp, bf, _, _, _, HR8.out.up (by omega) (by omega)⟩, OB8.out⟩⟩
        by_cases k5 : kk = 5
        · subst k5
          as_aux_lemma =>
            have HQ : Hid (LQ (2 * i) (mq i) L S fs) := HR.out.q
            go_wp2_with fail
            refine (pChk HR.out (by omega) (by omega)).mono ?_
            rintro e w7 ⟨ks, hks, rfl, hP, hk⟩
            have HKS : Hid (L.fr = L.last.frames → ¬ L.fr = 0 → KeysOf L.pl ks ∧ ks.length ≤ 2 * i) := hks
            have HP7 : Hid (LP X w7 X.heap.size R G bp bf M (2 * i) (ckL L S ks).2.1 (ckL L S ks).2.2 fs L.last S) := hP
            have OB7 : Hid (w7.heap[b0]? = some (.cells (actA x) 39 (0, 0))) := hk _ _ _ OB.out
            clear hP hk hks HR OB c1 c2 c3 c4 c6
            go_wp2_with fail
            refine (dnum _ _).mono ?_
            rintro e w8 ⟨rfl, rfl⟩
            go_wp2_with fail
            refine (rChk ks HQ.out HKS.out HP7.out (by omega) (by omega)).mono ?_
            rintro e w9 ⟨rfl, hR, hk⟩
            have HR9 : Hid (LR X w9 X.heap.size R G bp bf M (2 * i) (mq i + 2 * i + 4) (ckL L S ks).2.1 (ckL L S ks).2.2 (ckF L S fs ks)) := hR
            have OB9 : Hid (w9.heap[b0]? = some (.cells (actA x) 39 (0, 0))) := hk _ _ _ OB7.out
            clear hR hk HP7 OB7
            go_wp2_with fail
            go_meet
            case rel => exact ⟨G, M, rfl, rfl, rfl, rfl, rfl, ⟨⟨bp, bf, _, _, _, HR9.out.up (by omega) (by omega)⟩, OB9.out⟩⟩
        by_cases k6 : kk = 6
        · subst k6
          as_aux_lemma =>
            have HQ : Hid (LQ (2 * i) (mq i) L S fs) := HR.out.q
            go_wp2_with fail
            refine (pFail x.n HR.out).mono ?_
            rintro e w7 ⟨rfl, hP, hk⟩
            have HP7 : Hid (LP X w7 X.heap.size R G bp bf M (2 * i) L { S with left := x.n } fs L.last S) := hP
            have OB7 : Hid (w7.heap[b0]? = some (.cells (actA x) 39 (0, 0))) := hk _ _ _ OB.out
            clear hP hk HR OB c1 c2 c3 c4 c6
            obtain ⟨-, c1, c2, c3, c4, c6⟩ := box_cells OB7.out
            go_wp2_with fail
            refine (rFail x.n OK.out.1 HQ.out HP7.out).mono ?_
            rintro e w8 ⟨rfl, hR, hk⟩
            have HR8 : Hid (LR X w8 X.heap.size R G bp bf M (2 * i) (mq i) L { S with left := x.n } fs) := hR
            have OB8 : Hid (w8.heap[b0]? = some (.cells (actA x) 39 (0, 0))) := hk _ _ _ OB7.out
            clear hR hk HP7 OB7 c1 c2 c3 c4 c6
            go_wp2_with fail
            go_meet
            case rel => exact ⟨G, M, rfl, rfl, rfl, rfl, rfl, ⟨⟨bp, bf, _, _, _, HR8.out.up (by omega) (by omega)⟩, OB8.out⟩⟩
        by_cases k7 : kk = 7
        · subst k7
          as_aux_lemma =>
            have HOK : Hid (okS S (mq i)) := HR.out.q.ok
            have HU : Hid (UpS (2 * i) (mq i) (crD (fateI x.kn x.fk) S)) := HR.out.ups _
            have HN : Hid (x.kn ≤ 140737488355328) := (OK.out.keepP HR.out.bel tyP).1
            go_wp2_with fail
            refine (pCrash x.kp x.kn x.kc x.fk HR.out (by omega) HN.out (OK.out.keepP HR.out.bel tyP).2).mono ?_
            rintro e w17 ⟨rfl, hP, hk⟩
            have HC17 : Hid (LC X w17 X.heap.size R (crD (fateI x.kn x.fk) S) S) := hP
            have OB17 : Hid (w17.heap[b0]? = some (.cells (actA x) 39 (0, 0))) := hk _ _ _ OB.out
            clear hP hk HR OB c1 c2 c3 c4 c6
            obtain ⟨-, c1, c2, c3, c4, c6⟩ := box_cells OB17.out
            go_wp2_with fail
            refine (rCrash x.kp x.kn x.kc x.fk HC17.out HOK.out (by omega) HN.out (OK.out.keepP HC17.out.bel tyR).2).mono ?_
            rintro e w18 ⟨rfl, hP, hk⟩
            have HC18 : Hid (LC X w18 X.heap.size R (crD (fateI x.kn x.fk) S) (crD (fateI x.kn x.fk) S)) := hP
            have OB18 : Hid (w18.heap[b0]? = some (.cells (actA x) 39 (0, 0))) := hk _ _ _ OB17.out
            clear hP hk HC17 OB17 HOK HN c1 c2 c3 c4 c6
            generalize crD (fateI x.kn x.fk) S = S2 at *
            go_wp2_with fail
            refine (pOpen HU.out HC18.out (by omega)).mono ?_
            rintro e w19 ⟨G2, bp2, bf2, rfl, hO, hk⟩
            have HO19 : Hid (LO X w19 X.heap.size R G2 bp2 bf2 (2 * i) S2) := hO
            have OB19 : Hid (w19.heap[b0]? = some (.cells (actA x) 39 (0, 0))) := hk _ _ _ OB18.out
            clear hO hk HC18 OB18
            go_wp2_with fail
            refine (rOpen HU.out HO19.out (by omega)).mono ?_
            rintro e w20 ⟨M2, rfl, hR, hk⟩
            have HR20 : Hid (LR X w20 X.heap.size R G2 bp2 bf2 M2 (2 * i) ((mq i) + 4) (opO S2).1 (opO S2).2.1 (opO S2).2.2) := hR
            have OB20 : Hid (w20.heap[b0]? = some (.cells (actA x) 39 (0, 0))) := hk _ _ _ OB19.out
            clear hR hk HO19 OB19 HU
            go_wp2_with fail
            refine (dnum 0 w20).mono ?_
            rintro e w21 ⟨rfl, rfl⟩
            go_wp2_with fail
            go_meet
            case rel => exact ⟨G2, M2, rfl, rfl, rfl, rfl, rfl, ⟨⟨bp2, bf2, _, _, _, HR20.out.up (by omega) (by omega)⟩, OB20.out⟩⟩
        by_cases k8 : kk = 8
        · subst k8
          as_aux_lemma =>
            have HQ : Hid (LQ (2 * i) (mq i) L S fs) := HR.out.q
            have HQ1 : Hid (LQ (2 * i + 1) (mq i + 1) (apL L S x.n x.s).2.1 (apL L S x.n x.s).2.2 (apF fs (apL L S x.n x.s).1 x.n x.s)) := ap_q HR.out.q x.n x.s
            have H0 : Hid (LR X wb.drew X.heap.size R G bp bf M (2 * i) (mq i) L S fs) := HR.out.below ⟨rfl, rfl, rfl, Nat.le_refl _, fun _ _ => rfl⟩
            go_wp2_with fail
            cases hd : (apL L S x.n x.s).2.2.down with
            | false =>
              refine reg36u x b0 G M X.heap.size (apL L S x.n x.s).1 (cmL (apL L S x.n x.s).2.1 (apL L S x.n x.s).2.2 x.n x.s 3).1 (fun j w => match j with | 0 => LR X w X.heap.size R G bp bf M (2 * i) (mq i) L S fs | 1 => LP X w X.heap.size R G bp bf M (2 * i + 1) (apL L S x.n x.s).2.1 (apL L S x.n x.s).2.2 fs L.last S | 2 => LP X w X.heap.size R G bp bf M (2 * i + 1) (apL L S x.n x.s).2.1 (apL L S x.n x.s).2.2 fs L.last S | 3 => LR X w X.heap.size R G bp bf M (2 * i + 1) (mq i + 1) (apL L S x.n x.s).2.1 (apL L S x.n x.s).2.2 (apF fs (apL L S x.n x.s).1 x.n x.s) | 4 => LR X w X.heap.size R G bp bf M (2 * i + 1) (mq i + 1) (apL L S x.n x.s).2.1 (apL L S x.n x.s).2.2 (apF fs (apL L S x.n x.s).1 x.n x.s) | 5 => LR X w X.heap.size R G bp bf M (2 * i + 1) (mq i + 1) (apL L S x.n x.s).2.1 (apL L S x.n x.s).2.2 (apF fs (apL L S x.n x.s).1 x.n x.s) | 6 => LR X w X.heap.size R G bp bf M (2 * i + 1) (mq i + 1) (apL L S x.n x.s).2.1 (apL L S x.n x.s).2.2 (apF fs (apL L S x.n x.s).1 x.n x.s) | 7 => LP X w X.heap.size R G bp bf M (2 * i + 1 + 1) (cmL (apL L S x.n x.s).2.1 (apL L S x.n x.s).2.2 x.n x.s 3).2.1 (cmL (apL L S x.n x.s).2.1 (apL L S x.n x.s).2.2 x.n x.s 3).2.2 (apF fs (apL L S x.n x.s).1 x.n x.s) (apL L S x.n x.s).2.1.last (apL L S x.n x.s).2.2 | 8 => LP X w X.heap.size R G bp bf M (2 * i + 1 + 1) (cmL (apL L S x.n x.s).2.1 (apL L S x.n x.s).2.2 x.n x.s 3).2.1 (cmL (apL L S x.n x.s).2.1 (apL L S x.n x.s).2.2 x.n x.s 3).2.2 (apF fs (apL L S x.n x.s).1 x.n x.s) (apL L S x.n x.s).2.1.last (apL L S x.n x.s).2.2 | _ => LR X w X.heap.size R G bp bf M (2 * i + 1 + 1) (mq i + 1 + 4) (cmL (apL L S x.n x.s).2.1 (apL L S x.n x.s).2.2 x.n x.s 3).2.1 (cmL (apL L S x.n x.s).2.1 (apL L S x.n x.s).2.2 x.n x.s 3).2.2 (cmF (apL L S x.n x.s).2.1 (apL L S x.n x.s).2.2 (apF fs (apL L S x.n x.s).1 x.n x.s) x.n x.s 3)) OB.out ?h0 ?c0 ?c1 ?c2 ?c3 ?c4 ?c5 ?c6 ?c7 ?c8 (by simp) rfl rfl rfl rfl rfl (by kernel_rfl) (by kernel_rfl) (by kernel_rfl) (by kernel_rfl) (by kernel_rfl) (by kernel_rfl) (by kernel_rfl) (by kernel_rfl) (by kernel_rfl) (by kernel_rfl) (by kernel_rfl) (by kernel_rfl) (by kernel_rfl) (by kernel_rfl) (by kernel_rfl) (by kernel_rfl) (by kernel_rfl) (by kernel_rfl) (by kernel_rfl) (by kernel_rfl) (by kernel_rfl) (by kernel_rfl) (by kernel_rfl) (by kernel_rfl) (by kernel_rfl) (by kernel_rfl) (by kernel_rfl) (by kernel_rfl) (by kernel_rfl) (by kernel_rfl) (by kernel_rfl) ?_
              case h0 => exact H0.out
              case c0 =>
                intro w h0
                have h : LR X w X.heap.size R G bp bf M (2 * i) (mq i) L S fs := h0
                clear h0
                exact pApp x.n x.s h (by omega) (by omega)
              case c1 =>
                intro w h0
                have h : LP X w X.heap.size R G bp bf M (2 * i + 1) (apL L S x.n x.s).2.1 (apL L S x.n x.s).2.2 fs L.last S := h0
                clear h0
                refine (dnum _ w).mono ?_
                rintro e w' ⟨h1, h2⟩
                subst h2
                exact ⟨h1, h, Keep.refl _⟩
              case c2 =>
                intro w h0
                have h : LP X w X.heap.size R G bp bf M (2 * i + 1) (apL L S x.n x.s).2.1 (apL L S x.n x.s).2.2 fs L.last S := h0
                clear h0
                exact rApp x.n x.s HQ.out h (by omega) (by omega)
              case c3 =>
                intro w h0
                have h : LR X w X.heap.size R G bp bf M (2 * i + 1) (mq i + 1) (apL L S x.n x.s).2.1 (apL L S x.n x.s).2.2 (apF fs (apL L S x.n x.s).1 x.n x.s) := h0
                clear h0
                exact h
              case c4 =>
                intro w h0
                have h : LR X w X.heap.size R G bp bf M (2 * i + 1) (mq i + 1) (apL L S x.n x.s).2.1 (apL L S x.n x.s).2.2 (apF fs (apL L S x.n x.s).1 x.n x.s) := h0
                clear h0
                refine (cdownD w X.heap.size X.heap.size (apL L S x.n x.s).2.2 h.pl.dsk).mono ?_
                rintro e w' ⟨h1, h2⟩
                subst h2
                rw [hd] at h1
                exact ⟨h1, h, Keep.refl _⟩
              case c5 =>
                intro w h0
                have h : LR X w X.heap.size R G bp bf M (2 * i + 1) (mq i + 1) (apL L S x.n x.s).2.1 (apL L S x.n x.s).2.2 (apF fs (apL L S x.n x.s).1 x.n x.s) := h0
                clear h0
                exact h
              case c6 =>
                intro w h0
                have h : LR X w X.heap.size R G bp bf M (2 * i + 1) (mq i + 1) (apL L S x.n x.s).2.1 (apL L S x.n x.s).2.2 (apF fs (apL L S x.n x.s).1 x.n x.s) := h0
                clear h0
                exact pCom x.n x.s 3 h (by omega) (by omega)
              case c7 =>
                intro w h0
                have h : LP X w X.heap.size R G bp bf M (2 * i + 1 + 1) (cmL (apL L S x.n x.s).2.1 (apL L S x.n x.s).2.2 x.n x.s 3).2.1 (cmL (apL L S x.n x.s).2.1 (apL L S x.n x.s).2.2 x.n x.s 3).2.2 (apF fs (apL L S x.n x.s).1 x.n x.s) (apL L S x.n x.s).2.1.last (apL L S x.n x.s).2.2 := h0
                clear h0
                refine (dnum _ w).mono ?_
                rintro e w' ⟨h1, h2⟩
                subst h2
                exact ⟨h1, h, Keep.refl _⟩
              case c8 =>
                intro w h0
                have h : LP X w X.heap.size R G bp bf M (2 * i + 1 + 1) (cmL (apL L S x.n x.s).2.1 (apL L S x.n x.s).2.2 x.n x.s 3).2.1 (cmL (apL L S x.n x.s).2.1 (apL L S x.n x.s).2.2 x.n x.s 3).2.2 (apF fs (apL L S x.n x.s).1 x.n x.s) (apL L S x.n x.s).2.1.last (apL L S x.n x.s).2.2 := h0
                clear h0
                exact rCom x.n x.s 3 HQ1.out h (by omega) (by omega)
              intro u170 u171 u172 u173 u174 u175 u176 u177 u178 u179 u180 u181 u182 u183 u184 u185 u186 u187 u188 u189 u190 u191 u192 u193 u194 u195 u196 u197 u198 u199 u200 u201 u202 u203 w7 hS hob7
              simp only [sets, List.setIfInBounds_toArray, List.set_cons_zero, List.set_cons_succ]
              have HR7 : Hid (LR X w7 X.heap.size R G bp bf M (2 * i + 1 + 1) (mq i + 1 + 4) (cmL (apL L S x.n x.s).2.1 (apL L S x.n x.s).2.2 x.n x.s 3).2.1 (cmL (apL L S x.n x.s).2.1 (apL L S x.n x.s).2.2 x.n x.s 3).2.2 (cmF (apL L S x.n x.s).2.1 (apL L S x.n x.s).2.2 (apF fs (apL L S x.n x.s).1 x.n x.s) x.n x.s 3)) := hS
              have OB7 : Hid (w7.heap[b0]? = some (.cells (actA x) 39 (0, 0))) := hob7
              clear hS hob7 HR OB H0 HQ HQ1 hd c1 c2 c3 c4 c6
              go_wp2_with fail
              go_meet
              case rel => exact ⟨G, M, rfl, rfl, rfl, rfl, rfl, ⟨⟨bp, bf, _, _, _, HR7.out.up (by omega) (by omega)⟩, OB7.out⟩⟩
            | true =>
              refine reg36d x b0 G M X.heap.size (apL L S x.n x.s).1 (fun j w => match j with | 0 => LR X w X.heap.size R G bp bf M (2 * i) (mq i) L S fs | 1 => LP X w X.heap.size R G bp bf M (2 * i + 1) (apL L S x.n x.s).2.1 (apL L S x.n x.s).2.2 fs L.last S | 2 => LP X w X.heap.size R G bp bf M (2 * i + 1) (apL L S x.n x.s).2.1 (apL L S x.n x.s).2.2 fs L.last S | 3 => LR X w X.heap.size R G bp bf M (2 * i + 1) (mq i + 1) (apL L S x.n x.s).2.1 (apL L S x.n x.s).2.2 (apF fs (apL L S x.n x.s).1 x.n x.s) | 4 => LR X w X.heap.size R G bp bf M (2 * i + 1) (mq i + 1) (apL L S x.n x.s).2.1 (apL L S x.n x.s).2.2 (apF fs (apL L S x.n x.s).1 x.n x.s) | 5 => LR X w X.heap.size R G bp bf M (2 * i + 1) (mq i + 1) (apL L S x.n x.s).2.1 (apL L S x.n x.s).2.2 (apF fs (apL L S x.n x.s).1 x.n x.s) | _ => LR X w X.heap.size R G bp bf M (2 * i + 1) (mq i + 1) (apL L S x.n x.s).2.1 (apL L S x.n x.s).2.2 (apF fs (apL L S x.n x.s).1 x.n x.s)) OB.out ?h0 ?c0 ?c1 ?c2 ?c3 ?c4 ?c5 (by simp) rfl rfl rfl rfl rfl (by kernel_rfl) (by kernel_rfl) (by kernel_rfl) (by kernel_rfl) (by kernel_rfl) (by kernel_rfl) (by kernel_rfl) (by kernel_rfl) (by kernel_rfl) (by kernel_rfl) (by kernel_rfl) (by kernel_rfl) (by kernel_rfl) (by kernel_rfl) (by kernel_rfl) (by kernel_rfl) (by kernel_rfl) (by kernel_rfl) (by kernel_rfl) (by kernel_rfl) (by kernel_rfl) (by kernel_rfl) (by kernel_rfl) (by kernel_rfl) (by kernel_rfl) (by kernel_rfl) (by kernel_rfl) (by kernel_rfl) (by kernel_rfl) (by kernel_rfl) (by kernel_rfl) ?_
              case h0 => exact H0.out
              case c0 =>
                intro w h0
                have h : LR X w X.heap.size R G bp bf M (2 * i) (mq i) L S fs := h0
                clear h0
                exact pApp x.n x.s h (by omega) (by omega)
              case c1 =>
                intro w h0
                have h : LP X w X.heap.size R G bp bf M (2 * i + 1) (apL L S x.n x.s).2.1 (apL L S x.n x.s).2.2 fs L.last S := h0
                clear h0
                refine (dnum _ w).mono ?_
                rintro e w' ⟨h1, h2⟩
                subst h2
                exact ⟨h1, h, Keep.refl _⟩
              case c2 =>
                intro w h0
                have h : LP X w X.heap.size R G bp bf M (2 * i + 1) (apL L S x.n x.s).2.1 (apL L S x.n x.s).2.2 fs L.last S := h0
                clear h0
                exact rApp x.n x.s HQ.out h (by omega) (by omega)
              case c3 =>
                intro w h0
                have h : LR X w X.heap.size R G bp bf M (2 * i + 1) (mq i + 1) (apL L S x.n x.s).2.1 (apL L S x.n x.s).2.2 (apF fs (apL L S x.n x.s).1 x.n x.s) := h0
                clear h0
                exact h
              case c4 =>
                intro w h0
                have h : LR X w X.heap.size R G bp bf M (2 * i + 1) (mq i + 1) (apL L S x.n x.s).2.1 (apL L S x.n x.s).2.2 (apF fs (apL L S x.n x.s).1 x.n x.s) := h0
                clear h0
                refine (cdownD w X.heap.size X.heap.size (apL L S x.n x.s).2.2 h.pl.dsk).mono ?_
                rintro e w' ⟨h1, h2⟩
                subst h2
                rw [hd] at h1
                exact ⟨h1, h, Keep.refl _⟩
              case c5 =>
                intro w h0
                have h : LR X w X.heap.size R G bp bf M (2 * i + 1) (mq i + 1) (apL L S x.n x.s).2.1 (apL L S x.n x.s).2.2 (apF fs (apL L S x.n x.s).1 x.n x.s) := h0
                clear h0
                exact h
              intro u170 u171 u172 u173 u174 u175 u176 u177 u178 u179 u180 u181 u182 u183 u184 u185 u186 u187 u188 u189 u190 u191 u192 u193 u194 u195 u196 u197 u198 u199 u200 u201 u202 u203 w7 hS hob7
              simp only [sets, List.setIfInBounds_toArray, List.set_cons_zero, List.set_cons_succ]
              have HR7 : Hid (LR X w7 X.heap.size R G bp bf M (2 * i + 1) (mq i + 1) (apL L S x.n x.s).2.1 (apL L S x.n x.s).2.2 (apF fs (apL L S x.n x.s).1 x.n x.s)) := hS
              have OB7 : Hid (w7.heap[b0]? = some (.cells (actA x) 39 (0, 0))) := hob7
              clear hS hob7 HR OB H0 HQ HQ1 hd c1 c2 c3 c4 c6
              go_wp2_with fail
              go_meet
              case rel => exact ⟨G, M, rfl, rfl, rfl, rfl, rfl, ⟨⟨bp, bf, _, _, _, HR7.out.up (by omega) (by omega)⟩, OB7.out⟩⟩
        as_aux_lemma =>
          go_wp2_with fail
          go_meet
          case rel => exact ⟨G, M, rfl, rfl, rfl, rfl, rfl, ⟨⟨bp, bf, L, S, fs, HR.out.up (by omega) (by omega)⟩, OB.out⟩⟩
      case rest =>
        obtain ⟨G, M, rfl, rfl, rfl, rfl, rfl, HA2⟩ := hcut
        obtain ⟨⟨bp, bf, L, S, fs, hR⟩, hob⟩ := HA2.out
        have HR0 : Hid (LR X wc X.heap.size R G bp bf M (2 * i + 2) (mq i + 2 * i + 10) L S fs) := hR
        have OB0 : Hid (wc.heap[b0]? = some (.cells (actA x) 39 (0, 0))) := hob
        clear hR hob HA2 HQ2 OB
        have hms := mq_succ i
        obtain ⟨vf, hx0⟩ := HR0.out.rl
        obtain ⟨va, vc, rfl⟩ := owns_slice2 hx0.row
        obtain ⟨-, m1, -, -, -, -⟩ := hx0.cells
        have HFL : Hid (L.fr = fs.length) := HR0.out.q.iv.fr.1
        clear hx0
        have HPg : Hid (∀ n, Calls Tryz.prog 27 #[(.pointer (some ⟨G, 0, none⟩))] (wc.drewN n) fun e w' => e = .returned (.int .i64 (L.last.pages : Int)) ∧ w' = wc.drewN n) := fun n => cpages _ _ _ _ _ _ _ _ _ (HR0.out.below (drew_below _ n)).pl
        have HRp : Hid (∀ n, Calls Tryz.prog 28 #[(.pointer (some ⟨M, 0, none⟩))] (wc.drewN n) fun e w' => e = .returned (.int .i64 (L.last.pages : Int)) ∧ w' = wc.drewN n) := fun n => rpages _ _ _ _ _ _ _ (HR0.out.below (drew_below _ n)).rl
        have HFr : Hid (∀ n, Calls Tryz.prog 29 #[(.pointer (some ⟨G, 0, none⟩))] (wc.drewN n) fun e w' => e = .returned (.int .i64 (fs.length : Int)) ∧ w' = wc.drewN n) := fun n => by
          have h := cframes _ _ _ _ _ _ _ _ _ (HR0.out.below (drew_below _ n)).pl
          rw [HFL.out] at h
          exact h
        cases hd : S.down with
        | false =>
          as_aux_lemma =>
          have HDn : Hid (∀ n, Calls Tryz.prog 26 #[(.pointer (some ⟨X.heap.size, 0, none⟩))] (wc.drewN n) fun e w' => e = .returned (.bool false) ∧ w' = wc.drewN n) := fun n => by
            have h := cdownD _ X.heap.size X.heap.size S (HR0.out.below (drew_below _ n)).pl.dsk
            rw [hd] at h
            exact h
          go_wp2_with fail
          go_quiet (first | (go_at_call 26; refine Calls.quiet_of_same (HDn.out _)) | (go_at_call 27; refine Calls.quiet_of_same (HPg.out _)) | (go_at_call 28; refine Calls.quiet_of_same (HRp.out _)) | (go_at_call 29; refine Calls.quiet_of_same (HFr.out _)))
          have HR1 : Hid (LR X (wc.drewN nq) X.heap.size R G bp bf M (2 * i + 2) (mq i + 2 * i + 10) L S fs) := HR0.out.below (drew_below _ _)
          generalize wc.drewN nq = w8 at HR1 ⊢
          clear HR0 OB0 m1 HDn HPg HRp HFr HFL
          go_wp2_with fail
          refine (lfiles w8 X.heap.size X.heap.size R (mq i + 2 * i + 10) (by omega) HR1.out.dr).mono ?_
          rintro e w9 ⟨rfl, hb9⟩
          have HR9 : Hid (LR X w9 X.heap.size R G bp bf M (2 * i + 2) (mq i + 2 * i + 10) L S fs) := HR1.out.below hb9
          clear hb9 HR1
          go_wp2_with fail
          refine (cdownD w9 X.heap.size X.heap.size S HR9.out.pl.dsk).mono ?_
          rw [hd]
          rintro e w10 ⟨rfl, rfl⟩
          go_wp2_with fail
          go_roundw
          case rel => exact ⟨i + 1, G, M, by go_num, rfl, rfl, rfl, rfl, by omega, ⟨bp, bf, L, S, fs, HR9.out.up (by omega) (by omega)⟩⟩
          case measure => simp [intOf]; omega
        | true =>
          as_aux_lemma =>
          have HDn : Hid (∀ n, Calls Tryz.prog 26 #[(.pointer (some ⟨X.heap.size, 0, none⟩))] (wc.drewN n) fun e w' => e = .returned (.bool true) ∧ w' = wc.drewN n) := fun n => by
            have h := cdownD _ X.heap.size X.heap.size S (HR0.out.below (drew_below _ n)).pl.dsk
            rw [hd] at h
            exact h
          go_wp2_with fail
          go_quiet (first | (go_at_call 26; refine Calls.quiet_of_same (HDn.out _)))
          have HR1 : Hid (LR X (wc.drewN nq) X.heap.size R G bp bf M (2 * i + 2) (mq i + 2 * i + 10) L S fs) := HR0.out.below (drew_below _ _)
          have OB1 : Hid ((wc.drewN nq).heap[b0]? = some (.cells (actA x) 39 (0, 0))) := OB0.out
          generalize wc.drewN nq = w8 at HR1 OB1 ⊢
          clear HR0 OB0 m1 HDn HPg HRp HFr HFL
          go_wp2_with fail
          refine (lfiles w8 X.heap.size X.heap.size R (mq i + 2 * i + 10) (by omega) HR1.out.dr).mono ?_
          rintro e w9 ⟨rfl, hb9⟩
          have HR : Hid (LR X w9 X.heap.size R G bp bf M (2 * i + 2) (mq i + 2 * i + 10) L S fs) := HR1.out.below hb9
          have OB9 : Hid (w9.heap[b0]? = some (.cells (actA x) 39 (0, 0))) := (Keep.below hb9) _ _ _ OB1.out
          clear hb9 HR1 OB1
          go_wp2_with fail
          refine (cdownD w9 X.heap.size X.heap.size S HR.out.pl.dsk).mono ?_
          rw [hd]
          rintro e w10 ⟨rfl, rfl⟩
          obtain ⟨-, c1, c2, c3, c4, c6⟩ := box_cells OB9.out
          have HOK : Hid (okS S (mq i + 2 * i + 10)) := HR.out.q.ok
          have HU : Hid (UpS (2 * i + 2) (mq i + 2 * i + 10) (crD (fateI x.kn x.fk) S)) := HR.out.ups _
          have HN : Hid (x.kn ≤ 140737488355328) := (OK.out.keepP HR.out.bel tyP).1
          go_wp2_with fail
          refine (pCrash x.kp x.kn x.kc x.fk HR.out (by omega) HN.out (OK.out.keepP HR.out.bel tyP).2).mono ?_
          rintro e w17 ⟨rfl, hP, hk⟩
          have HC17 : Hid (LC X w17 X.heap.size R (crD (fateI x.kn x.fk) S) S) := hP
          have OB17 : Hid (w17.heap[b0]? = some (.cells (actA x) 39 (0, 0))) := hk _ _ _ OB9.out
          clear hP hk HR OB9 c1 c2 c3 c4 c6
          obtain ⟨-, c1, c2, c3, c4, c6⟩ := box_cells OB17.out
          go_wp2_with fail
          refine (rCrash x.kp x.kn x.kc x.fk HC17.out HOK.out (by omega) HN.out (OK.out.keepP HC17.out.bel tyR).2).mono ?_
          rintro e w18 ⟨rfl, hP, hk⟩
          have HC18 : Hid (LC X w18 X.heap.size R (crD (fateI x.kn x.fk) S) (crD (fateI x.kn x.fk) S)) := hP
          have OB18 : Hid (w18.heap[b0]? = some (.cells (actA x) 39 (0, 0))) := hk _ _ _ OB17.out
          clear hP hk HC17 OB17 HOK HN c1 c2 c3 c4 c6
          generalize crD (fateI x.kn x.fk) S = S2 at *
          go_wp2_with fail
          refine (pOpen HU.out HC18.out (by omega)).mono ?_
          rintro e w19 ⟨G2, bp2, bf2, rfl, hO, hk⟩
          have HO19 : Hid (LO X w19 X.heap.size R G2 bp2 bf2 (2 * i + 2) S2) := hO
          have OB19 : Hid (w19.heap[b0]? = some (.cells (actA x) 39 (0, 0))) := hk _ _ _ OB18.out
          clear hO hk HC18 OB18
          go_wp2_with fail
          refine (rOpen HU.out HO19.out (by omega)).mono ?_
          rintro e w20 ⟨M2, rfl, hR, hk⟩
          have HR20 : Hid (LR X w20 X.heap.size R G2 bp2 bf2 M2 (2 * i + 2) ((mq i + 2 * i + 10) + 4) (opO S2).1 (opO S2).2.1 (opO S2).2.2) := hR
          have OB20 : Hid (w20.heap[b0]? = some (.cells (actA x) 39 (0, 0))) := hk _ _ _ OB19.out
          clear hR hk HO19 OB19 HU
          go_wp2_with fail
          refine (dnum 0 w20).mono ?_
          rintro e w21 ⟨rfl, rfl⟩
          go_wp2_with fail
          refine (lfiles w21 X.heap.size X.heap.size R (mq i + 2 * i + 10 + 4) (by omega) HR20.out.dr).mono ?_
          rintro e w22 ⟨rfl, hb22⟩
          have HR22 : Hid (LR X w22 X.heap.size R G2 bp2 bf2 M2 (2 * i + 2) (mq i + 2 * i + 10 + 4) (opO S2).1 (opO S2).2.1 (opO S2).2.2) := HR20.out.below hb22
          clear hb22 HR20 OB20
          go_wp2_with fail
          go_roundw
          case rel => exact ⟨i + 1, G2, M2, by go_num, rfl, rfl, rfl, rfl, by omega, ⟨bp2, bf2, _, _, _, HR22.out.up (by omega) (by omega)⟩⟩
          case measure => simp [intOf]; omega
    · obtain rfl : i = min sl 250 := by omega
      obtain ⟨_, _, _, _, _, h⟩ := HQ.out
      have HB : Hid (Below X.heap.size X wr) := h.bel
      clear h
      go_wp2_with fail
      go_ret
      exact ⟨rfl, HB.out⟩
end Go.Proofs.YtfjkockcgddgbaaGreat
