/- LogKept: what holds between two steps of a script, and what each step's call makes of it -/
import Derived.Test.YtfjkockcgddgbaaWalZ
import Derived.Test.YtfjkockcgddgbaaWalH
namespace Go.Proofs.Ytfjkockcgddgbaa
open Go.RowKit Go.Lib
def pgs (F : Int → Option ByteArray) : Prop := ∀ x v, F x = some v → v.size = 1024
theorem pgs_none : pgs noP := fun x v h => by cases h
theorem pgs_with {F : Int → Option ByteArray} (h : pgs F) {n : Int} {t : ByteArray} (ht : t.size = 1024) : pgs (wth F n t) := fun x v hv => by
  have hv : (if x = n then some t else F x) = some v := hv
  split at hv
  · injection hv with hv; subst hv; exact ht
  · exact h x v hv
theorem MS.keepL {w w' : World} {b n G bp bf B D N : Nat} {F : Int → Option ByteArray} {L : LS} {S : DS} (h : MS w b n F) (hP : PL w B D G bp bf N L S) (hb : BelL G bp bf B w w') (h1 : ¬ b = bp) (h2 : ¬ b = bf) : MS w' b n F := by
  refine h.keep (hb.far b h.lt (h.far tyP) (fun e => ?_) h1 h2)
  obtain ⟨es, c, hm⟩ := h.isMap
  subst e
  rw [hP.blk] at hm
  cases hm
/- the two maps of pages lie in memory, none of them the log's own -/
structure Two (w : World) (bp bf kb nb : Nat) (m : Nat) (K N : Int → Option ByteArray) : Prop where
  mq : MS w kb m K
  mn : MS w nb m N
  pk : pgs K
  pn : pgs N
  dk : ¬ kb = bp ∧ ¬ kb = bf
  dn : ¬ nb = bp ∧ ¬ nb = bf
theorem Two.keep {w w' : World} {bp bf kb nb m G B D k : Nat} {K N : Int → Option ByteArray} {L : LS} {S : DS} (h : Two w bp bf kb nb m K N) (hP : PL w B D G bp bf k L S) (hb : BelL G bp bf B w w') : Two w' bp bf kb nb m K N :=
  ⟨h.mq.keepL hP hb h.dk.1 h.dk.2, h.mn.keepL hP hb h.dn.1 h.dn.2, h.pk, h.pn, h.dk, h.dn⟩
theorem Two.below {w w' : World} {bp bf kb nb m : Nat} {K N : Int → Option ByteArray} (h : Two w bp bf kb nb m K N) (hb : Below w.heap.size w w') : Two w' bp bf kb nb m K N :=
  ⟨h.mq.keep (hb.block _ h.mq.lt), h.mn.keep (hb.block _ h.mn.lt), h.pk, h.pn, h.dk, h.dn⟩
/- between two calls: so far i acts -/
structure LpR (X w : World) (D G bp bf i : Nat) (L : LS) (S : DS) (K N : Int → Option ByteArray) : Prop where
  pl : PL w X.heap.size D G bp bf 6 L S
  inv : Inv L S K N i
  ok : okS S (20 * i + 20)
  bel : Below X.heap.size X w
/- behind a call that failed: what a crash leaves is K or M -/
structure AfR (X w : World) (D : Nat) (S : DS) (K M : Int → Option ByteArray) : Prop where
  ds : PDs w X.heap.size D S
  ok : okS S 100000
  cr : CrOr S K M
  bel : Below X.heap.size X w
theorem cmL_ok {L : LS} {S : DS} {k : Nat} (h : okS S k) (n : Int) (t : ByteArray) (pg : Int) : okS (cmL L S n t pg).2.2 (k + 4) := by
  have h1 := apL_ok (L := L) h n t
  have h2 := synD_ok h1 1
  have h3 := tlL_ok (L := (apL L S n t).2.1) h2 (apL L S n t).2.1.fr pg.toNat
  unfold cmL
  split
  · exact h.mono (by omega)
  · split
    · exact h1.mono (by omega)
    · split
      · exact h2.mono (by omega)
      · split
        · exact h3.mono (by omega)
        · exact h3.mono (by omega)
theorem ckL_ok {L : LS} {S : DS} {k : Nat} (h : okS S k) (ks : List Int) (hk : L.fr = L.last.frames → ¬ L.fr = 0 → ks.length ≤ 6) : okS (ckL L S ks).2.2 (k + 10) := by
  unfold ckL
  by_cases h1 : L.fr = L.last.frames
  · rw [if_neg (fun k => k h1)]
    by_cases h2 : L.fr = 0
    · rw [if_pos h2]; exact h.mono (by omega)
    · rw [if_neg h2]
      have hl := hk h1 h2
      have a1 := stlL_ok (L := L) ks h
      have a2 := tlL_ok (L := L) a1 0 L.last.pages
      split
      · exact a1.mono (by omega)
      · split
        · exact a2.mono (by omega)
        · exact a2.mono (by omega)
  · rw [if_pos h1]; exact h.mono (by omega)
theorem LpR.af {X w : World} {D G bp bf i : Nat} {L : LS} {S : DS} {K N : Int → Option ByteArray} (h : LpR X w D G bp bf i L S K N) (hi : i ≤ 1000) : AfR X w D S K K :=
  ⟨h.pl.dsk, h.ok.mono (by omega), h.inv.crash.or K, h.bel⟩
theorem kappend (n : Nat) (t : ByteArray) (X w : World) (D G bp bf i kb nb m : Nat) (L : LS) (S : DS) (K N : Int → Option ByteArray) (h : LpR X w D G bp bf i L S K N) (hT : Two w bp bf kb nb m K N) (hi : i ≤ 1000) (hn : n < 6) (ht : t.size = 1024) :
    Calls Try.prog 15 #[(.pointer (some ⟨G, 0, none⟩)), .int .i64 (n : Int), .string t] w fun e w' => (∃ S', e = .returned (.int .i64 2) ∧ S'.down = true ∧ AfR X w' D S' K K ∧ Two w' bp bf kb nb m K N ∧ w.heap.size ≤ w'.heap.size) ∨ (∃ L' S', e = .returned (.int .i64 0) ∧ LpR X w' D G bp bf (i + 1) L' S' K (wth N n t) ∧ Two w' bp bf kb nb m K N ∧ w.heap.size ≤ w'.heap.size) := by
  have hf := h.inv.fr
  have hB := h.bel.size
  refine (cappend n t w X.heap.size D G bp bf 6 (20 * i + 20) L S h.pl hB (by decide) h.ok (by omega) (by omega)).mono ?_
  rintro e w' ⟨rfl, hp, hb⟩
  have hok := apL_ok (L := L) h.ok n t
  rcases ap_out h.inv (by omega) hn ht with ⟨S', e1, d1, c1⟩ | ⟨S', e1, I1⟩
  · rw [e1] at hp hok ⊢
    exact .inl ⟨S', rfl, d1, ⟨hp.dsk, hok.mono (by omega), c1.or K, h.bel.trans hb.toBelow⟩, hT.keep h.pl hb, hb.size⟩
  · rw [e1] at hp hok ⊢
    exact .inr ⟨_, S', rfl, ⟨hp.small I1.pos I1.posF, I1, hok.mono (by omega), h.bel.trans hb.toBelow⟩, hT.keep h.pl hb, hb.size⟩
theorem kcommit (n : Nat) (t : ByteArray) (X w : World) (D G bp bf i kb nb m : Nat) (L : LS) (S : DS) (K N : Int → Option ByteArray) (h : LpR X w D G bp bf i L S K N) (hT : Two w bp bf kb nb m K (wth N n t)) (hi : i ≤ 1000) (hn : n < 6) (ht : t.size = 1024) :
    Calls Try.prog 17 #[(.pointer (some ⟨G, 0, none⟩)), .int .i64 (n : Int), .string t, .int .i64 6] w fun e w' => (∃ S', e = .returned (.int .i64 2) ∧ S'.down = true ∧ AfR X w' D S' K (wth N n t) ∧ Two w' bp bf kb nb m K (wth N n t)) ∨ (∃ L' S', e = .returned (.int .i64 0) ∧ LpR X w' D G bp bf (i + 1) L' S' (wth N n t) (wth N n t) ∧ Two w' bp bf kb nb m K (wth N n t)) := by
  have hf := h.inv.fr
  have hB := h.bel.size
  refine (ccommit n t 6 w X.heap.size D G bp bf 6 (20 * i + 20) L S h.pl hB (by decide) h.ok (by omega) (by omega) h.inv.pre.tp.ok).mono ?_
  rintro e w' ⟨rfl, hp, hb⟩
  have hok := cmL_ok (L := L) h.ok n t 6
  rcases cm_out h.inv (by omega) hn ht with ⟨L', S', e1, d1, c1⟩ | ⟨L', S', e1, I1⟩
  · rw [e1] at hp hok ⊢
    exact .inl ⟨S', rfl, d1, ⟨hp.dsk, hok.mono (by omega), c1, h.bel.trans hb.toBelow⟩, hT.keep h.pl hb⟩
  · rw [e1] at hp hok ⊢
    exact .inr ⟨L', S', rfl, ⟨hp.small I1.pos I1.posF, I1, hok.mono (by omega), h.bel.trans hb.toBelow⟩, hT.keep h.pl hb⟩
theorem kback (X w : World) (D G bp bf i kb nb m : Nat) (L : LS) (S : DS) (K N : Int → Option ByteArray) (h : LpR X w D G bp bf i L S K N) (hT : Two w bp bf kb nb m K N) :
    Calls Try.prog 18 #[(.pointer (some ⟨G, 0, none⟩))] w fun e w' => e = .returned (.tuple #[]) ∧ LpR X w' D G bp bf (i + 1) (bkL L) S K K ∧ Two w' bp bf kb nb m K N := by
  refine (cback w X.heap.size D G bp bf 6 L S h.pl h.bel.size).mono ?_
  rintro e w' ⟨rfl, hp, hb⟩
  exact ⟨rfl, ⟨hp, (bk_out h.inv).mono (by omega), h.ok.mono (by omega), h.bel.trans hb.toBelow⟩, hT.keep h.pl hb⟩
theorem kcheck (X w : World) (D G bp bf i kb nb m : Nat) (L : LS) (S : DS) (K N : Int → Option ByteArray) (h : LpR X w D G bp bf i L S K N) (hT : Two w bp bf kb nb m K N) (hi : i ≤ 1000) :
    Calls Try.prog 19 #[(.pointer (some ⟨G, 0, none⟩))] w fun e w' => (∃ S', e = .returned (.int .i64 2) ∧ S'.down = true ∧ AfR X w' D S' K K ∧ Two w' bp bf kb nb m K N) ∨ (∃ L' S', (e = .returned (.int .i64 0) ∨ e = .returned (.int .i64 11)) ∧ LpR X w' D G bp bf (i + 1) L' S' K N ∧ Two w' bp bf kb nb m K N) := by
  have hf := h.inv.fr
  have hB := h.bel.size
  refine (ccheckpoint w X.heap.size D G bp bf 6 (20 * i + 20) L S h.pl hB (by decide) h.ok (by omega) (h.inv.okp (by omega)) (fun x hx => (h.inv.pos x hx).1) h.inv.pre.tp.ok).mono ?_
  rintro e w' ⟨ks, hks, rfl, hp, hb⟩
  have hok := ckL_ok (L := L) h.ok ks (fun a b => (hks a b).2)
  rcases ck_out h.inv (h.pl.dsk.len 2 (by decide)) ks (fun a b => (hks a b).1) with ⟨S', e1, d1, c1⟩ | ⟨r, L', S', e1, hr, I1⟩
  · rw [e1] at hp hok ⊢
    exact .inl ⟨S', rfl, d1, ⟨hp.dsk, hok.mono (by omega), c1.or K, h.bel.trans hb.toBelow⟩, hT.keep h.pl hb⟩
  · rw [e1] at hp hok ⊢
    refine .inr ⟨L', S', ?_, ⟨hp, I1.mono (by omega), hok.mono (by omega), h.bel.trans hb.toBelow⟩, hT.keep h.pl hb⟩
    rcases hr with rfl | rfl
    · exact .inl rfl
    · exact .inr rfl
/- a map with one page more -/
theorem kwith (n : Nat) (t : ByteArray) (w : World) (bp bf kb nb m : Nat) (K N : Int → Option ByteArray) (hT : Two w bp bf kb nb m K N) (hm : m ≤ 1000) (hn : n < 6) (ht : t.size = 1024) (hp : bp < w.heap.size) (hq : bf < w.heap.size) :
    Calls Try.prog 16 #[.map (some nb), .int .i64 (n : Int), .string t] w fun e w' => e = .returned (.map (some w.heap.size)) ∧ Two w' bp bf kb w.heap.size (m + 1) K (wth N n t) ∧ Below w.heap.size w w' := by
  refine (cwith nb m N n t w hT.mn (by omega) (i64_in (by omega) (by omega)) (by omega) (fun x v hv => by rw [hT.pn x v hv]; decide)).mono ?_
  rintro e w' ⟨rfl, h1, h2⟩
  exact ⟨rfl, ⟨(hT.below h2).mq.mono (by omega), h1, hT.pk, pgs_with hT.pn ht, hT.dk, ⟨by omega, by omega⟩⟩, h2⟩
end Go.Proofs.Ytfjkockcgddgbaa
