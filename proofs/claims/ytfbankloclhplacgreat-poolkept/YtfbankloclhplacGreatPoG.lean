/- package pool: put, Read, Write, opened, seal, setFree -/
import Derived.Test.YtfbankloclhplacGreatPoF
import Derived.Test.YtfbankloclhplacGreatMgP
namespace Go.Proofs.YtfbankloclhplacGreat
open Go.RowKit Go.Lib Go.Maps Go.Sort
attribute [local go_sem ↓] Go.wp_at_zero Go.wp_at_succ
def noT : Nat → ByteArray := fun _ => ⟨#[]⟩
/- a page without cells -/
def pgB (K Lk : Nat) : ByteArray := ⟨(sealed K Lk 0 noT).toArray⟩
theorem no_len (S : Nat → ByteArray) : 4 * 0 + len S 0 ≤ 1012 := by simp [len]
theorem pgB_size (K Lk : Nat) : (pgB K Lk).size = 1024 := by unfold pgB; rw [size_mk, sealed_len (no_len _)]
theorem pgB_any (K Lk : Nat) (S : Nat → ByteArray) : (⟨(sealed K Lk 0 S).toArray⟩ : ByteArray) = pgB K Lk := by unfold pgB; rw [sealed_congr (T := noT) (fun i hi => absurd hi (Nat.not_lt_zero _))]
theorem pgB_good {K Lk : Nat} (hK : 1 ≤ K ∧ K ≤ 5) (hL : Lk ≤ 2147483647) : good (pgB K Lk) ∧ byt (pgB K Lk) 4 = K ∧ four (pgB K Lk) 8 = Lk ∧ cls (pgB K Lk) = [] :=
  ⟨sealed_good hK hL (no_len _), sealed_kind (no_len _) hK.2, sealed_link (no_len _) hL, by unfold pgB; rw [sealed_cls (no_len _)]; rfl⟩
theorem copenB {K Lk : Nat} (hK : 1 ≤ K ∧ K ≤ 5) (hL : Lk ≤ 2147483647) (w : World) :
    Calls Tryz.prog 92 #[.string (pgB K Lk)] w fun e w' => (∃ a c, e = .returned (.tuple #[.agg #[.int .i64 K, .int .i64 Lk, .slice a 0 c], .int .i64 0])) ∧ Below w.heap.size w w' := by
  obtain ⟨g1, g2, g3, g4⟩ := pgB_good hK hL
  refine (copenq (pgB K Lk) w (pgB_size _ _)).mono ?_
  rintro e w' ⟨(⟨_, v, rfl, ho⟩ | ⟨k, _⟩), hb⟩
  · rw [g4] at ho
    rw [g2, g3]
    obtain ⟨a, c, rfl, -⟩ := sta_own (L := []) ho
    exact ⟨⟨a, c, rfl⟩, hb⟩
  · exact absurd g1 k
theorem csealB {K Lk : Nat} (hK : 1 ≤ K ∧ K ≤ 5) (hL : Lk ≤ 2147483647) (a : Option Addr) (c : Nat) (w : World) :
    Calls Tryz.prog 169 #[.agg #[.int .i64 K, .int .i64 Lk, .slice a 0 c]] w fun e w' => e = .returned (.tuple #[.string (pgB K Lk), .int .i64 0]) ∧ Below w.heap.size w w' := by
  refine (cseal_ok K Lk a 0 c noT w (.inl rfl) hK hL (no_len _)).mono ?_
  rintro e w' ⟨rfl, hb⟩
  exact ⟨rfl, hb⟩
theorem PO.chs {w : World} {B D Gp : Nat} {V : PV} {C K : Pgs} {pk m : Nat} (h : PO w B D Gp V C K pk m) : ∀ x, V.P.chg x = true → 0 ≤ x ∧ x < 59999 := fun x hx => by
  have := h.pi.chr x hx
  have := h.pi.pg
  omega
theorem PO.mono {w : World} {B D Gp : Nat} {V : PV} {C K : Pgs} {pk m m' : Nat} (h : PO w B D Gp V C K pk m) (hm : m ≤ m') : PO w B D Gp V C K pk m' := ⟨h.pp, h.pi.mono hm, h.lo⟩
theorem PO.below {w w' : World} {B D Gp : Nat} {V : PV} {C K : Pgs} {pk m : Nat} (h : PO w B D Gp V C K pk m) (hb : Below w.heap.size w w') : PO w' B D Gp V C K pk m ∧ St2 w w' B V V := ⟨⟨h.pp.below hb, h.pi, Nat.le_trans h.lo hb.size⟩, ⟨below_belP hb h.lo _, id⟩⟩
/- a block of a type of others stays -/
theorem PO.stay {w w' : World} {B D Gp : Nat} {V V' : PV} {C K : Pgs} {pk m c : Nat} {cs : Array Value} {t : TypeId} (h : PO w B D Gp V C K pk m) (hs : St2 w w' B V V') (hc : w.heap[c]? = some (.cells cs t (0, 0))) (ht : tyQ t = false) : w'.heap[c]? = some (.cells cs t (0, 0)) := by
  obtain ⟨k1, k2, k3, k4, k5, k6, k7, k8⟩ := h.pp.kinds
  refine (hs.bel.far c (Array.getElem?_eq_some_iff.1 hc).1 (fun cur e fz he => ?_) (fun hm => ?_)).trans hc
  · rw [hc] at he; injection he with he; injection he with _ he _; rw [← he]; exact ht
  · simp only [Bk.M, List.mem_cons, List.not_mem_nil, or_false] at hm
    rcases hm with rfl | rfl | rfl | rfl
    · exact ne_CM ⟨_, hc⟩ k3 rfl
    · exact ne_CM ⟨_, hc⟩ k4 rfl
    · exact ne_CM ⟨_, hc⟩ k5 rfl
    · exact ne_CM ⟨_, hc⟩ k6 rfl
theorem PO.other {w w' : World} {B D Gp : Nat} {V : PV} {C K : Pgs} {pk m c : Nat} {t : TypeId} (h : PO w B D Gp V C K pk m) (hg : w.grownBy w' (some c)) (hc : isC w c t) (ht : tyQ t = false) : PO w' B D Gp V C K pk m := ⟨h.pp.other hg hc ht, h.pi, Nat.le_trans h.lo hg.size⟩
theorem St2.other {w w' w'' : World} {B c : Nat} {V V' : PV} (h : St2 w w' B V V') (hg : w'.grownBy w'' (some c)) (hc : w.heap.size ≤ c) (hB : B ≤ w.heap.size) : St2 w w'' B V V' := ⟨h.bel.other hg hc hB, h.nf⟩
set_option maxRecDepth 20000 in
set_option maxHeartbeats 2000000 in
theorem cput {w : World} {B D Gp : Nat} {V : PV} {C K : Pgs} {pk m : Nat} (h : PO w B D Gp V C K pk m) (hm : m ≤ 50000) (n : Int) (n0 : 0 ≤ n) (n1 : n < V.P.pages) (s : ByteArray) (hs : s.size = 1024) :
    Calls Tryz.prog 115 #[(.pointer (some ⟨Gp, 0, none⟩)), .int .i64 n, .string s] w fun e w' => ∃ V', St2 w w' B V V' ∧ V'.P.pages = V.P.pages ∧ V'.P.free = V.P.free ∧ ((e = .returned (.int .i64 0) ∧ PO w' B D Gp V' (wth C n s) K pk (m + 1)) ∨ (e = .returned (.int .i64 2) ∧ V'.S.down = true ∧ PO w' B D Gp V' C K pk m)) := by
  have HU := hide (cuse h hm n n0 n1)
  have hpg := h.pi.pg
  have HN : Hid (i64 n) := i64_in (by omega) (by omega)
  have HS : Hid (s.size = 1024) := hs
  clear h hs
  go_enter Tryz.func115, Tryz.ntmps115
  go_wp2_with fail
  refine HU.out.mono ?_
  rintro e w1 ⟨V1, k1, k2, k3, k4, -, (⟨f, k5, k6, rfl⟩ | ⟨rfl, k5⟩)⟩
  · have HC := hide (cchange n f s k1.pp k5 k1.lo HN.out k1.chs)
    have HP : Hid (PO w1 B D Gp V1 C K pk m) := k1
    have HS1 : Hid (St2 w w1 B V V1) := k2
    have HK : Hid (V1.P.pages = V.P.pages ∧ V1.P.free = V.P.free ∧ V1.P.fs n = some f) := (⟨k3, k4, k5⟩ : V1.P.pages = V.P.pages ∧ V1.P.free = V.P.free ∧ V1.P.fs n = some f)
    clear k1 k2 k3 k4 k5 k6 HU
    go_wp2_with fail
    refine HC.out.mono ?_
    rintro e w2 ⟨rfl, q1, q2⟩
    have HQ1 := hide (q1)
    have HQ2 := hide (q2)
    clear q1 q2 HC
    go_wp2
    go_ret
    exact ⟨⟨V1.b, chP V1.P n f.blk s, V1.L, V1.S, V1.N⟩, HS1.out.trans ⟨HQ2.out, id⟩, HK.out.1, HK.out.2.1, .inl ⟨rfl, ⟨HQ1.out, HP.out.pi.change HK.out.2.2 HS.out, Nat.le_trans HP.out.lo HQ2.out.size⟩⟩⟩
  · have HP : Hid (PO w1 B D Gp V1 C K pk m) := k1
    have HS1 : Hid (St2 w w1 B V V1) := k2
    have HK : Hid (V1.P.pages = V.P.pages ∧ V1.P.free = V.P.free ∧ V1.S.down = true) := (⟨k3, k4, k5⟩ : V1.P.pages = V.P.pages ∧ V1.P.free = V.P.free ∧ V1.S.down = true)
    clear k1 k2 k3 k4 k5 HU
    go_wp2
    go_ret
    exact ⟨V1, HS1.out, HK.out.1, HK.out.2.1, .inr ⟨rfl, HK.out.2.2, HP.out⟩⟩
set_option maxRecDepth 20000 in
set_option maxHeartbeats 2000000 in
theorem creadP {w : World} {B D Gp : Nat} {V : PV} {C K : Pgs} {pk m : Nat} (h : PO w B D Gp V C K pk m) (hm : m ≤ 50000) (n : Int) (n0 : 0 ≤ n) (n1 : n < V.P.pages) :
    Calls Tryz.prog 95 #[(.pointer (some ⟨Gp, 0, none⟩)), .int .i64 n] w fun e w' => ∃ V', PO w' B D Gp V' C K pk m ∧ St2 w w' B V V' ∧ V'.P.pages = V.P.pages ∧ V'.P.free = V.P.free ∧ ((∃ t, C n = some t ∧ e = .returned (.tuple #[.string t, .int .i64 0])) ∨ (e = .returned (.tuple #[.string ⟨#[]⟩, .int .i64 2]) ∧ V'.S.down = true)) := by
  have HU := hide (cuse h hm n n0 n1)
  clear h
  go_enter Tryz.func95, Tryz.ntmps95
  go_wp2_with fail
  refine HU.out.mono ?_
  rintro e w1 ⟨V1, k1, k2, k3, k4, -, (⟨f, k5, k6, rfl⟩ | ⟨rfl, k5⟩)⟩
  · obtain ⟨f0, f1, f2, z0, z2, hlt⟩ := k1.pp.fcells k5
    have HP : Hid (PO w1 B D Gp V1 C K pk m) := k1
    have HS1 : Hid (St2 w w1 B V V1) := k2
    have HK : Hid (V1.P.pages = V.P.pages ∧ V1.P.free = V.P.free ∧ C n = some f.text) := (⟨k3, k4, k6⟩ : V1.P.pages = V.P.pages ∧ V1.P.free = V.P.free ∧ C n = some f.text)
    clear k1 k2 k3 k4 k5 k6 HU f1 f2 z0 z2
    go_wp2
    go_ret2
    exact ⟨V1, HP.out, HS1.out, HK.out.1, HK.out.2.1, .inl ⟨_, HK.out.2.2, rfl⟩⟩
  · have HP : Hid (PO w1 B D Gp V1 C K pk m) := k1
    have HS1 : Hid (St2 w w1 B V V1) := k2
    have HK : Hid (V1.P.pages = V.P.pages ∧ V1.P.free = V.P.free ∧ V1.S.down = true) := (⟨k3, k4, k5⟩ : V1.P.pages = V.P.pages ∧ V1.P.free = V.P.free ∧ V1.S.down = true)
    clear k1 k2 k3 k4 k5 HU
    go_wp2
    go_ret2
    exact ⟨V1, HP.out, HS1.out, HK.out.1, HK.out.2.1, .inr ⟨rfl, HK.out.2.2⟩⟩
set_option maxRecDepth 20000 in
set_option maxHeartbeats 2000000 in
theorem cwriteP {w : World} {B D Gp : Nat} {V : PV} {C K : Pgs} {pk m : Nat} (h : PO w B D Gp V C K pk m) (hm : m ≤ 50000) (n : Int) (n0 : 0 < n) (n1 : n < V.P.pages) (s : ByteArray) (hs : s.size = 1024) :
    Calls Tryz.prog 46 #[(.pointer (some ⟨Gp, 0, none⟩)), .int .i64 n, .string s] w fun e w' => ∃ V', St2 w w' B V V' ∧ V'.P.pages = V.P.pages ∧ V'.P.free = V.P.free ∧ ((e = .returned (.int .i64 0) ∧ PO w' B D Gp V' (wth C n s) K pk (m + 1)) ∨ (e = .returned (.int .i64 2) ∧ V'.S.down = true ∧ PO w' B D Gp V' C K pk m)) := by
  have HU := hide (cput h hm n (by omega) n1 s hs)
  have e1 : (n == 0) = false := by simp; omega
  have e2 : ((s.size : Int) != 1024) = false := by simp; omega
  have e3 : ¬ n = 0 := by omega
  have e4 : (s.size : Int) = 1024 := by omega
  clear h hs
  go_enter Tryz.func46, Tryz.ntmps46
  go_wp2_with fail
  refine HU.out.mono ?_
  rintro e w1 ⟨V1, k1, k2, k3, (⟨rfl, k4⟩ | ⟨rfl, k4, k5⟩)⟩
  · have HK : Hid (St2 w w1 B V V1 ∧ V1.P.pages = V.P.pages ∧ V1.P.free = V.P.free ∧ PO w1 B D Gp V1 (wth C n s) K pk (m + 1)) := (⟨k1, k2, k3, k4⟩ : St2 w w1 B V V1 ∧ V1.P.pages = V.P.pages ∧ V1.P.free = V.P.free ∧ PO w1 B D Gp V1 (wth C n s) K pk (m + 1))
    clear k1 k2 k3 k4 HU
    go_wp2
    go_ret
    exact ⟨V1, HK.out.1, HK.out.2.1, HK.out.2.2.1, .inl ⟨rfl, HK.out.2.2.2⟩⟩
  · have HK : Hid (St2 w w1 B V V1 ∧ V1.P.pages = V.P.pages ∧ V1.P.free = V.P.free ∧ V1.S.down = true ∧ PO w1 B D Gp V1 C K pk m) := (⟨k1, k2, k3, k4, k5⟩ : St2 w w1 B V V1 ∧ V1.P.pages = V.P.pages ∧ V1.P.free = V.P.free ∧ V1.S.down = true ∧ PO w1 B D Gp V1 C K pk m)
    clear k1 k2 k3 k4 k5 HU
    go_wp2
    go_ret
    exact ⟨V1, HK.out.1, HK.out.2.1, HK.out.2.2.1, .inr ⟨rfl, HK.out.2.2.2⟩⟩
set_option maxRecDepth 20000 in
set_option maxHeartbeats 2000000 in
theorem copened {w : World} {B D Gp : Nat} {V : PV} {C K : Pgs} {pk m : Nat} (h : PO w B D Gp V C K pk m) (hm : m ≤ 50000) (n : Int) (n0 : 0 ≤ n) (n1 : n < V.P.pages) {kd lk : Nat} (hk : 1 ≤ kd ∧ kd ≤ 5) (hl : lk ≤ 2147483647) (hC : C n = some (pgB kd lk)) :
    Calls Tryz.prog 112 #[(.pointer (some ⟨Gp, 0, none⟩)), .int .i64 n] w fun e w' => ∃ V', PO w' B D Gp V' C K pk m ∧ St2 w w' B V V' ∧ V'.P.pages = V.P.pages ∧ V'.P.free = V.P.free ∧ ((∃ a c, e = .returned (.tuple #[.agg #[.int .i64 kd, .int .i64 lk, .slice a 0 c], .int .i64 0])) ∨ (e = .returned (.tuple #[.agg #[.int .i64 0, .int .i64 0, .slice none 0 0], .int .i64 2]) ∧ V'.S.down = true)) := by
  have hb : Below w.heap.size w (w.alloc (.cells #[.int .i64 0, .int .i64 0, .slice none 0 0] 159)) := ((Below.refl _ _).alloc (Nat.le_refl _) _)
  obtain ⟨h1, s1⟩ := h.below hb
  have HU := hide (cuse h1 hm n n0 n1)
  have HS1 : Hid (St2 w (w.alloc (.cells #[.int .i64 0, .int .i64 0, .slice none 0 0] 159)) B V V) := s1
  have HLO : Hid (B ≤ w.heap.size) := h.lo
  have HX : Hid (Bx3 (w.alloc (.cells #[.int .i64 0, .int .i64 0, .slice none 0 0] 159)) w.heap.size (.int .i64 0) (.int .i64 0) (.slice none 0 0)) := Bx3.new _ _ _ _
  have HH1 : Hid (PO (w.alloc (.cells #[.int .i64 0, .int .i64 0, .slice none 0 0] 159)) B D Gp V C K pk m) := h1
  clear h h1 s1 hb
  go_enter Tryz.func112, Tryz.ntmps112
  go_wp2_with fail
  refine HU.out.mono ?_
  rintro e w1 ⟨V1, k1, k2, k3, k4, -, (⟨f, k5, k6, rfl⟩ | ⟨rfl, k5⟩)⟩
  · obtain ⟨f0, f1, f2, z0, z2, hlt⟩ := k1.pp.fcells k5
    rw [hC] at k6
    injection k6 with k6
    rw [← k6] at f0
    have HB1 : Hid (Bx3 w1 w.heap.size (.int .i64 0) (.int .i64 0) (.slice none 0 0)) := HH1.out.stay k2 HX.out (by decide)
    have HP : Hid (PO w1 B D Gp V1 C K pk m) := k1
    have HS : Hid (St2 w w1 B V V1) := HS1.out.trans k2
    have HK : Hid (V1.P.pages = V.P.pages ∧ V1.P.free = V.P.free) := (⟨k3, k4⟩ : V1.P.pages = V.P.pages ∧ V1.P.free = V.P.free)
    clear k1 k2 k3 k4 k5 k6 HU f1 f2 z0 z2
    go_wp2_with fail
    refine (copenB hk hl _).mono ?_
    rintro e w2 ⟨⟨a, c, rfl⟩, hb2⟩
    have hX2 := HB1.out.below hb2
    have x0 := hX2.c0
    have x1 := hX2.c1
    have x2 := hX2.c2
    have y0 := hX2.fz 0
    have y1 := hX2.fz 1
    have y2 := hX2.fz 2
    have hXlt := hX2.lt
    obtain ⟨p2, s2⟩ := HP.out.below hb2
    have hg := grown_put w2 w.heap.size (.int .i64 kd) (.int .i64 lk) (.slice a 0 c)
    have HP3 : Hid (PO (((w2.setCell ⟨w.heap.size, 0, none⟩ (.int .i64 kd)).setCell ⟨w.heap.size, 1, none⟩ (.int .i64 lk)).setCell ⟨w.heap.size, 2, none⟩ (.slice a 0 c)) B D Gp V1 C K pk m) := p2.other hg ⟨_, hX2⟩ (by decide)
    have HS3 : Hid (St2 w (((w2.setCell ⟨w.heap.size, 0, none⟩ (.int .i64 kd)).setCell ⟨w.heap.size, 1, none⟩ (.int .i64 lk)).setCell ⟨w.heap.size, 2, none⟩ (.slice a 0 c)) B V V1) := (HS.out.trans s2).other hg (Nat.le_refl _) HLO.out
    clear hb2 hX2 p2 s2 hg
    go_wp2
    exact bodyPost_ret (v := .tuple #[.agg #[.int .i64 kd, .int .i64 lk, .slice a 0 c], .int .i64 0]) (by simp [results, Tryz.results112, go_sem, *]) rfl ⟨V1, HP3.out, HS3.out, HK.out.1, HK.out.2, .inl ⟨a, c, rfl⟩⟩
  · have hX2 : Bx3 w1 w.heap.size (.int .i64 0) (.int .i64 0) (.slice none 0 0) := HH1.out.stay k2 HX.out (by decide)
    have x0 := hX2.c0
    have x1 := hX2.c1
    have x2 := hX2.c2
    have y0 := hX2.fz 0
    have y1 := hX2.fz 1
    have y2 := hX2.fz 2
    have hXlt := hX2.lt
    have hg := grown_put w1 w.heap.size (.int .i64 0) (.int .i64 0) (.slice none 0 0)
    have HP3 : Hid (PO (((w1.setCell ⟨w.heap.size, 0, none⟩ (.int .i64 0)).setCell ⟨w.heap.size, 1, none⟩ (.int .i64 0)).setCell ⟨w.heap.size, 2, none⟩ (.slice none 0 0)) B D Gp V1 C K pk m) := k1.other hg ⟨_, hX2⟩ (by decide)
    have HS3 : Hid (St2 w (((w1.setCell ⟨w.heap.size, 0, none⟩ (.int .i64 0)).setCell ⟨w.heap.size, 1, none⟩ (.int .i64 0)).setCell ⟨w.heap.size, 2, none⟩ (.slice none 0 0)) B V V1) := (HS1.out.trans k2).other hg (Nat.le_refl _) HLO.out
    have HK : Hid (V1.P.pages = V.P.pages ∧ V1.P.free = V.P.free ∧ V1.S.down = true) := (⟨k3, k4, k5⟩ : V1.P.pages = V.P.pages ∧ V1.P.free = V.P.free ∧ V1.S.down = true)
    clear k1 k2 k3 k4 k5 HU hX2 hg
    go_wp2
    exact bodyPost_ret (v := .tuple #[.agg #[.int .i64 0, .int .i64 0, .slice none 0 0], .int .i64 2]) (by simp [results, Tryz.results112, go_sem, *]) rfl ⟨V1, HP3.out, HS3.out, HK.out.1, HK.out.2.1, .inr ⟨rfl, HK.out.2.2⟩⟩
end Go.Proofs.YtfbankloclhplacGreat
