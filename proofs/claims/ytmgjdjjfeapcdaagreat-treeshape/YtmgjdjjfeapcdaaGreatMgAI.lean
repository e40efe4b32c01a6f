/- package pool: put, Read, Write, opened, seal, setFree -/
import Derived.Test.YtmgjdjjfeapcdaaGreatMgAH
import Derived.Test.YtmgjdjjfeapcdaaGreatMgAF
namespace Go.Proofs.YtmgjdjjfeapcdaaGreat
open Go.RowKit Go.Lib Go.Maps Go.Sort
attribute [local go_sem ↓] Go.wp_at_zero Go.wp_at_succ
def noT:Nat→ByteArray:=fun _=>⟨#[]⟩
/- a page without cells -/
def pgB (K Lk:Nat):ByteArray:=⟨(sealed K Lk 0 noT).toArray⟩
theorem no_len (S:Nat→ByteArray):4 * 0+len S 0≤1012:=by simp [len]
theorem pgB_size (K Lk:Nat):(pgB K Lk).size=1024:=by unfold pgB;rw [size_mk,sealed_len (no_len _)]
theorem pgB_any (K Lk:Nat) (S:Nat→ByteArray):(⟨(sealed K Lk 0 S).toArray⟩:ByteArray)=pgB K Lk:=by unfold pgB;rw [sealed_congr (T:=noT) (fun i hi=>absurd hi (Nat.not_lt_zero _))]
theorem pgB_good {K Lk:Nat} (hK:1≤K∧K≤5) (hL:Lk≤2147483647):good (pgB K Lk)∧byt (pgB K Lk) 4=K∧four (pgB K Lk) 8=Lk∧cls (pgB K Lk)=[]:=
  ⟨sealed_good hK hL (no_len _),sealed_kind (no_len _) hK.2,sealed_link (no_len _) hL,by unfold pgB;rw [sealed_cls (no_len _)];rfl⟩
theorem copenB {K Lk:Nat} (hK:1≤K∧K≤5) (hL:Lk≤2147483647) (w:World) :
    Calls Tryz.prog 28 #[.string (pgB K Lk)] w fun e w'=>(∃ a c,e=.returned (.tuple #[.agg #[.int .i64 K,.int .i64 Lk,.slice a 0 c],.int .i64 0]))∧Below w.heap.size w w':=by
  obtain ⟨g1,g2,g3,g4⟩:=pgB_good hK hL
  refine (copenq (pgB K Lk) w (pgB_size _ _)).mono ?_
  rintro e w' ⟨(⟨_,v,rfl,ho⟩ | ⟨k,_⟩),hb⟩
  · rw [g4] at ho
    rw [g2,g3]
    obtain ⟨a,c,rfl,-⟩:=sta_own (L:=[]) ho
    exact ⟨⟨a,c,rfl⟩,hb⟩
  · exact absurd g1 k
theorem csealB {K Lk:Nat} (hK:1≤K∧K≤5) (hL:Lk≤2147483647) (a:Option Addr) (c:Nat) (w:World) :
    Calls Tryz.prog 64 #[.agg #[.int .i64 K,.int .i64 Lk,.slice a 0 c]] w fun e w'=>e=.returned (.tuple #[.string (pgB K Lk),.int .i64 0])∧Below w.heap.size w w':=by
  refine (cseal_ok K Lk a 0 c noT w (.inl rfl) hK hL (no_len _)).mono ?_
  rintro e w' ⟨rfl,hb⟩
  exact ⟨rfl,hb⟩
theorem PO.chs {w:World} {B D Gp:Nat} {V:PV} {C K:Pgs} {pk m:Nat} (h:PO w B D Gp V C K pk m):∀ x,V.P.chg x=true→0≤x∧x<59999:=fun x hx=>by
  have:=h.pi.chr x hx
  have:=h.pi.pg
  omega
theorem PO.mono {w:World} {B D Gp:Nat} {V:PV} {C K:Pgs} {pk m m':Nat} (h:PO w B D Gp V C K pk m) (hm:m≤m'):PO w B D Gp V C K pk m':=⟨h.pp,h.pi.mono hm,h.lo⟩
theorem PO.below {w w':World} {B D Gp:Nat} {V:PV} {C K:Pgs} {pk m:Nat} (h:PO w B D Gp V C K pk m) (hb:Below w.heap.size w w'):PO w' B D Gp V C K pk m∧St2 w w' B V V:=⟨⟨h.pp.below hb,h.pi,Nat.le_trans h.lo hb.size⟩,⟨below_belP hb h.lo _,id⟩⟩
/- a block of a type of others stays -/
theorem PO.stay {w w':World} {B D Gp:Nat} {V V':PV} {C K:Pgs} {pk m c:Nat} {cs:Array Value} {t:TypeId} (h:PO w B D Gp V C K pk m) (hs:St2 w w' B V V') (hc:w.heap[c]? = some (.cells cs t (0,0))) (ht:tyQ t=false):w'.heap[c]? = some (.cells cs t (0,0)):=by
  obtain ⟨k1,k2,k3,k4,k5,k6,k7,k8⟩:=h.pp.kinds
  refine (hs.bel.far c (Array.getElem?_eq_some_iff.1 hc).1 (fun cur e fz he=>?_) (fun hm=>?_)).trans hc
  · rw [hc] at he;injection he with he;injection he with _ he _;rw [← he];exact tyF_of ht
  · simp only [Bk.M,List.mem_cons,Option.mem_toList] at hm
    rcases hm with rfl | rfl | rfl | rfl | hm
    · exact ne_CM ⟨_,hc⟩ k3 rfl
    · exact ne_CM ⟨_,hc⟩ k4 rfl
    · exact ne_CM ⟨_,hc⟩ k5 rfl
    · exact ne_CM ⟨_,hc⟩ k6 rfl
    · refine ne_CC ⟨_,hc⟩ (k8 c hm) (fun e=>?_) rfl
      rw [← e] at ht
      exact absurd ht (by decide)
/- a row of numbers that is not the pool's own stays -/
theorem PO.stayI {w w':World} {B D Gp:Nat} {V V':PV} {C K:Pgs} {pk m c:Nat} {cs:Array Value} (h:PO w B D Gp V C K pk m) (hs:St2 w w' B V V') (hc:w.heap[c]? = some (.cells cs 3 (0,0))) (hn:¬ V.b.vo.ownBlock=some c):w'.heap[c]? = some (.cells cs 3 (0,0))∧¬ V'.b.vo.ownBlock=some c:=by
  obtain ⟨k1,k2,k3,k4,k5,k6,k7,k8⟩:=h.pp.kinds
  have hlt:=(Array.getElem?_eq_some_iff.1 hc).1
  have hM:¬ c ∈ V.b.M:=fun hm=>by
    simp only [Bk.M,List.mem_cons,Option.mem_toList] at hm
    rcases hm with rfl | rfl | rfl | rfl | hm
    · exact ne_CM ⟨_,hc⟩ k3 rfl
    · exact ne_CM ⟨_,hc⟩ k4 rfl
    · exact ne_CM ⟨_,hc⟩ k5 rfl
    · exact ne_CM ⟨_,hc⟩ k6 rfl
    · exact hn hm
  refine ⟨(hs.bel.far c hlt (fun cur e fz he=>?_) hM).trans hc,fun hm=>?_⟩
  · rw [hc] at he;injection he with he;injection he with _ he _;rw [← he];decide
  · rcases hs.bel.maps c (by simp [Bk.M,hm]) with k | k
    · exact hM k
    · omega
theorem PO.other {w w':World} {B D Gp:Nat} {V:PV} {C K:Pgs} {pk m c:Nat} {t:TypeId} (h:PO w B D Gp V C K pk m) (hg:w.grownBy w' (some c)) (hc:isC w c t) (ht:tyQ t=false):PO w' B D Gp V C K pk m:=⟨h.pp.other hg hc ht,h.pi,Nat.le_trans h.lo hg.size⟩
theorem St2.other {w w' w'':World} {B c:Nat} {V V':PV} (h:St2 w w' B V V') (hg:w'.grownBy w'' (some c)) (hc:w.heap.size≤c) (hB:B≤w.heap.size):St2 w w'' B V V':=⟨h.bel.other hg hc hB,h.nf⟩
set_option maxRecDepth 20000 in
set_option maxHeartbeats 2000000 in
theorem cput {w:World} {B D Gp:Nat} {V:PV} {C K:Pgs} {pk m:Nat} (h:PO w B D Gp V C K pk m) (hm:m≤50000) (n:Int) (n0:0≤n) (n1:n<V.P.pages) (s:ByteArray) (hs:s.size=1024) :
    Calls Tryz.prog 127 #[(.pointer (some ⟨Gp,0,none⟩)),.int .i64 n,.string s] w fun e w'=>∃ V',St2 w w' B V V'∧V'.P.pages=V.P.pages∧V'.P.free=V.P.free∧((e=.returned (.int .i64 0)∧PO w' B D Gp V' (wth C n s) K pk (m+1))∨(e=.returned (.int .i64 2)∧V'.S.down=true∧PO w' B D Gp V' C K pk m)):=by
  have HU:=hide (cuse h hm n n0 n1)
  have hpg:=h.pi.pg
  have HN:Hid (i64 n):=i64_in (by omega) (by omega)
  have HS:Hid (s.size=1024):=hs
  clear h hs
  go_enter Tryz.func127,Tryz.ntmps127
  go_wp2_with fail
  refine HU.out.mono ?_
  rintro e w1 ⟨V1,k1,k2,k3,k4,-,(⟨f,k5,k6,rfl⟩ | ⟨rfl,k5⟩)⟩
  · have HC:=hide (cchange n f s k1.pp k5 k1.lo HN.out k1.chs)
    have HP:Hid (PO w1 B D Gp V1 C K pk m):=k1
    have HS1:Hid (St2 w w1 B V V1):=k2
    have HK:Hid (V1.P.pages=V.P.pages∧V1.P.free=V.P.free∧V1.P.fs n=some f):=(⟨k3,k4,k5⟩:V1.P.pages=V.P.pages∧V1.P.free=V.P.free∧V1.P.fs n=some f)
    clear k1 k2 k3 k4 k5 k6 HU
    go_wp2_with fail
    refine HC.out.mono ?_
    rintro e w2 ⟨rfl,q1,q2⟩
    have HQ1:=hide (q1)
    have HQ2:=hide (q2)
    clear q1 q2 HC
    go_wp2
    go_ret
    exact ⟨⟨V1.b,chP V1.P n f.blk s,V1.L,V1.S,V1.N⟩,HS1.out.trans ⟨HQ2.out,id⟩,HK.out.1,HK.out.2.1,.inl ⟨rfl,⟨HQ1.out,HP.out.pi.change HK.out.2.2 HS.out,Nat.le_trans HP.out.lo HQ2.out.size⟩⟩⟩
  · have HP:Hid (PO w1 B D Gp V1 C K pk m):=k1
    have HS1:Hid (St2 w w1 B V V1):=k2
    have HK:Hid (V1.P.pages=V.P.pages∧V1.P.free=V.P.free∧V1.S.down=true):=(⟨k3,k4,k5⟩:V1.P.pages=V.P.pages∧V1.P.free=V.P.free∧V1.S.down=true)
    clear k1 k2 k3 k4 k5 HU
    go_wp2
    go_ret
    exact ⟨V1,HS1.out,HK.out.1,HK.out.2.1,.inr ⟨rfl,HK.out.2.2,HP.out⟩⟩
set_option maxRecDepth 20000 in
set_option maxHeartbeats 2000000 in
theorem creadP {w:World} {B D Gp:Nat} {V:PV} {C K:Pgs} {pk m:Nat} (h:PO w B D Gp V C K pk m) (hm:m≤50000) (n:Int) (n0:0≤n) (n1:n<V.P.pages) :
    Calls Tryz.prog 100 #[(.pointer (some ⟨Gp,0,none⟩)),.int .i64 n] w fun e w'=>∃ V',PO w' B D Gp V' C K pk m∧St2 w w' B V V'∧V'.P.pages=V.P.pages∧V'.P.free=V.P.free∧((∃ t,C n=some t∧e=.returned (.tuple #[.string t,.int .i64 0]))∨(e=.returned (.tuple #[.string ⟨#[]⟩,.int .i64 2])∧V'.S.down=true)):=by
  have HU:=hide (cuse h hm n n0 n1)
  clear h
  go_enter Tryz.func100,Tryz.ntmps100
  go_wp2_with fail
  refine HU.out.mono ?_
  rintro e w1 ⟨V1,k1,k2,k3,k4,-,(⟨f,k5,k6,rfl⟩ | ⟨rfl,k5⟩)⟩
  · obtain ⟨f0,f1,f2,z0,z2,hlt⟩:=k1.pp.fcells k5
    have HP:Hid (PO w1 B D Gp V1 C K pk m):=k1
    have HS1:Hid (St2 w w1 B V V1):=k2
    have HK:Hid (V1.P.pages=V.P.pages∧V1.P.free=V.P.free∧C n=some f.text):=(⟨k3,k4,k6⟩:V1.P.pages=V.P.pages∧V1.P.free=V.P.free∧C n=some f.text)
    clear k1 k2 k3 k4 k5 k6 HU f1 f2 z0 z2
    go_wp2
    go_ret2
    exact ⟨V1,HP.out,HS1.out,HK.out.1,HK.out.2.1,.inl ⟨_,HK.out.2.2,rfl⟩⟩
  · have HP:Hid (PO w1 B D Gp V1 C K pk m):=k1
    have HS1:Hid (St2 w w1 B V V1):=k2
    have HK:Hid (V1.P.pages=V.P.pages∧V1.P.free=V.P.free∧V1.S.down=true):=(⟨k3,k4,k5⟩:V1.P.pages=V.P.pages∧V1.P.free=V.P.free∧V1.S.down=true)
    clear k1 k2 k3 k4 k5 HU
    go_wp2
    go_ret2
    exact ⟨V1,HP.out,HS1.out,HK.out.1,HK.out.2.1,.inr ⟨rfl,HK.out.2.2⟩⟩
set_option maxRecDepth 20000 in
set_option maxHeartbeats 2000000 in
theorem cwriteP {w:World} {B D Gp:Nat} {V:PV} {C K:Pgs} {pk m:Nat} (h:PO w B D Gp V C K pk m) (hm:m≤50000) (n:Int) (n0:0<n) (n1:n<V.P.pages) (s:ByteArray) (hs:s.size=1024) :
    Calls Tryz.prog 74 #[(.pointer (some ⟨Gp,0,none⟩)),.int .i64 n,.string s] w fun e w'=>∃ V',St2 w w' B V V'∧V'.P.pages=V.P.pages∧V'.P.free=V.P.free∧((e=.returned (.int .i64 0)∧PO w' B D Gp V' (wth C n s) K pk (m+1))∨(e=.returned (.int .i64 2)∧V'.S.down=true∧PO w' B D Gp V' C K pk m)):=by
  have HU:=hide (cput h hm n (by omega) n1 s hs)
  have e1:(n == 0)=false:=by simp;omega
  have e2:((s.size:Int) != 1024)=false:=by simp;omega
  have e3:¬ n=0:=by omega
  have e4:(s.size:Int)=1024:=by omega
  clear h hs
  go_enter Tryz.func74,Tryz.ntmps74
  go_wp2_with fail
  refine HU.out.mono ?_
  rintro e w1 ⟨V1,k1,k2,k3,(⟨rfl,k4⟩ | ⟨rfl,k4,k5⟩)⟩
  · have HK:Hid (St2 w w1 B V V1∧V1.P.pages=V.P.pages∧V1.P.free=V.P.free∧PO w1 B D Gp V1 (wth C n s) K pk (m+1)):=(⟨k1,k2,k3,k4⟩:St2 w w1 B V V1∧V1.P.pages=V.P.pages∧V1.P.free=V.P.free∧PO w1 B D Gp V1 (wth C n s) K pk (m+1))
    clear k1 k2 k3 k4 HU
    go_wp2
    go_ret
    exact ⟨V1,HK.out.1,HK.out.2.1,HK.out.2.2.1,.inl ⟨rfl,HK.out.2.2.2⟩⟩
  · have HK:Hid (St2 w w1 B V V1∧V1.P.pages=V.P.pages∧V1.P.free=V.P.free∧V1.S.down=true∧PO w1 B D Gp V1 C K pk m):=(⟨k1,k2,k3,k4,k5⟩:St2 w w1 B V V1∧V1.P.pages=V.P.pages∧V1.P.free=V.P.free∧V1.S.down=true∧PO w1 B D Gp V1 C K pk m)
    clear k1 k2 k3 k4 k5 HU
    go_wp2
    go_ret
    exact ⟨V1,HK.out.1,HK.out.2.1,HK.out.2.2.1,.inr ⟨rfl,HK.out.2.2.2⟩⟩
set_option maxRecDepth 20000 in
set_option maxHeartbeats 2000000 in
theorem copened {w:World} {B D Gp:Nat} {V:PV} {C K:Pgs} {pk m:Nat} (h:PO w B D Gp V C K pk m) (hm:m≤50000) (n:Int) (n0:0≤n) (n1:n<V.P.pages) {kd lk:Nat} (hk:1≤kd∧kd≤5) (hl:lk≤2147483647) (hC:C n=some (pgB kd lk)) :
    Calls Tryz.prog 90 #[(.pointer (some ⟨Gp,0,none⟩)),.int .i64 n] w fun e w'=>∃ V',PO w' B D Gp V' C K pk m∧St2 w w' B V V'∧V'.P.pages=V.P.pages∧V'.P.free=V.P.free∧((∃ a c,e=.returned (.tuple #[.agg #[.int .i64 kd,.int .i64 lk,.slice a 0 c],.int .i64 0]))∨(e=.returned (.tuple #[.agg #[.int .i64 0,.int .i64 0,.slice none 0 0],.int .i64 2])∧V'.S.down=true)):=by
  have hb:Below w.heap.size w (w.alloc (.cells #[.int .i64 0,.int .i64 0,.slice none 0 0] 82)):=((Below.refl _ _).alloc (Nat.le_refl _) _)
  obtain ⟨h1,s1⟩:=h.below hb
  have HU:=hide (cuse h1 hm n n0 n1)
  have HS1:Hid (St2 w (w.alloc (.cells #[.int .i64 0,.int .i64 0,.slice none 0 0] 82)) B V V):=s1
  have HLO:Hid (B≤w.heap.size):=h.lo
  have HX:Hid (Bx3 (w.alloc (.cells #[.int .i64 0,.int .i64 0,.slice none 0 0] 82)) w.heap.size (.int .i64 0) (.int .i64 0) (.slice none 0 0)):=Bx3.new _ _ _ _
  have HH1:Hid (PO (w.alloc (.cells #[.int .i64 0,.int .i64 0,.slice none 0 0] 82)) B D Gp V C K pk m):=h1
  clear h h1 s1 hb
  go_enter Tryz.func90,Tryz.ntmps90
  go_wp2_with fail
  refine HU.out.mono ?_
  rintro e w1 ⟨V1,k1,k2,k3,k4,-,(⟨f,k5,k6,rfl⟩ | ⟨rfl,k5⟩)⟩
  · obtain ⟨f0,f1,f2,z0,z2,hlt⟩:=k1.pp.fcells k5
    rw [hC] at k6
    injection k6 with k6
    rw [← k6] at f0
    have HB1:Hid (Bx3 w1 w.heap.size (.int .i64 0) (.int .i64 0) (.slice none 0 0)):=HH1.out.stay k2 HX.out (by decide)
    have HP:Hid (PO w1 B D Gp V1 C K pk m):=k1
    have HS:Hid (St2 w w1 B V V1):=HS1.out.trans k2
    have HK:Hid (V1.P.pages=V.P.pages∧V1.P.free=V.P.free):=(⟨k3,k4⟩:V1.P.pages=V.P.pages∧V1.P.free=V.P.free)
    clear k1 k2 k3 k4 k5 k6 HU f1 f2 z0 z2
    go_wp2_with fail
    refine (copenB hk hl _).mono ?_
    rintro e w2 ⟨⟨a,c,rfl⟩,hb2⟩
    have hX2:=HB1.out.below hb2
    have x0:=hX2.c0
    have x1:=hX2.c1
    have x2:=hX2.c2
    have y0:=hX2.fz 0
    have y1:=hX2.fz 1
    have y2:=hX2.fz 2
    have hXlt:=hX2.lt
    obtain ⟨p2,s2⟩:=HP.out.below hb2
    have hg:=grown_put w2 w.heap.size (.int .i64 kd) (.int .i64 lk) (.slice a 0 c)
    have HP3:Hid (PO (((w2.setCell ⟨w.heap.size,0,none⟩ (.int .i64 kd)).setCell ⟨w.heap.size,1,none⟩ (.int .i64 lk)).setCell ⟨w.heap.size,2,none⟩ (.slice a 0 c)) B D Gp V1 C K pk m):=p2.other hg ⟨_,hX2⟩ (by decide)
    have HS3:Hid (St2 w (((w2.setCell ⟨w.heap.size,0,none⟩ (.int .i64 kd)).setCell ⟨w.heap.size,1,none⟩ (.int .i64 lk)).setCell ⟨w.heap.size,2,none⟩ (.slice a 0 c)) B V V1):=(HS.out.trans s2).other hg (Nat.le_refl _) HLO.out
    clear hb2 hX2 p2 s2 hg
    go_wp2
    exact bodyPost_ret (v:=.tuple #[.agg #[.int .i64 kd,.int .i64 lk,.slice a 0 c],.int .i64 0]) (by simp [results,Tryz.results90,go_sem, *]) rfl ⟨V1,HP3.out,HS3.out,HK.out.1,HK.out.2,.inl ⟨a,c,rfl⟩⟩
  · have hX2:Bx3 w1 w.heap.size (.int .i64 0) (.int .i64 0) (.slice none 0 0):=HH1.out.stay k2 HX.out (by decide)
    have x0:=hX2.c0
    have x1:=hX2.c1
    have x2:=hX2.c2
    have y0:=hX2.fz 0
    have y1:=hX2.fz 1
    have y2:=hX2.fz 2
    have hXlt:=hX2.lt
    have hg:=grown_put w1 w.heap.size (.int .i64 0) (.int .i64 0) (.slice none 0 0)
    have HP3:Hid (PO (((w1.setCell ⟨w.heap.size,0,none⟩ (.int .i64 0)).setCell ⟨w.heap.size,1,none⟩ (.int .i64 0)).setCell ⟨w.heap.size,2,none⟩ (.slice none 0 0)) B D Gp V1 C K pk m):=k1.other hg ⟨_,hX2⟩ (by decide)
    have HS3:Hid (St2 w (((w1.setCell ⟨w.heap.size,0,none⟩ (.int .i64 0)).setCell ⟨w.heap.size,1,none⟩ (.int .i64 0)).setCell ⟨w.heap.size,2,none⟩ (.slice none 0 0)) B V V1):=(HS1.out.trans k2).other hg (Nat.le_refl _) HLO.out
    have HK:Hid (V1.P.pages=V.P.pages∧V1.P.free=V.P.free∧V1.S.down=true):=(⟨k3,k4,k5⟩:V1.P.pages=V.P.pages∧V1.P.free=V.P.free∧V1.S.down=true)
    clear k1 k2 k3 k4 k5 HU hX2 hg
    go_wp2
    exact bodyPost_ret (v:=.tuple #[.agg #[.int .i64 0,.int .i64 0,.slice none 0 0],.int .i64 2]) (by simp [results,Tryz.results90,go_sem, *]) rfl ⟨V1,HP3.out,HS3.out,HK.out.1,HK.out.2.1,.inr ⟨rfl,HK.out.2.2⟩⟩
end Go.Proofs.YtmgjdjjfeapcdaaGreat
namespace Go.Proofs.YtmgjdjjfeapcdaaGreat
open Go.RowKit Go.Lib Go.Maps Go.Sort
attribute [local go_sem ↓] Go.wp_at_zero Go.wp_at_succ
set_option maxRecDepth 20000 in
set_option maxHeartbeats 2000000 in
theorem csealP {w:World} {B D Gp:Nat} {V:PV} {C K:Pgs} {pk m:Nat} (h:PO w B D Gp V C K pk m) (hm:m≤50000) (n:Int) (n0:0≤n) (n1:n<V.P.pages) {kd lk:Nat} (hk:1≤kd∧kd≤5) (hl:lk≤2147483647) (a:Option Addr) (c:Nat) :
    Calls Tryz.prog 126 #[(.pointer (some ⟨Gp,0,none⟩)),.int .i64 n,.agg #[.int .i64 kd,.int .i64 lk,.slice a 0 c]] w fun e w'=>∃ V',St2 w w' B V V'∧V'.P.pages=V.P.pages∧V'.P.free=V.P.free∧((e=.returned (.int .i64 0)∧PO w' B D Gp V' (wth C n (pgB kd lk)) K pk (m+1))∨(e=.returned (.int .i64 2)∧V'.S.down=true∧PO w' B D Gp V' C K pk m)):=by
  have HP:Hid (PO w B D Gp V C K pk m):=h
  have HN:=hide (show 0≤n∧n<V.P.pages from ⟨n0,n1⟩)
  have HB1:=hide (show Below w.heap.size w (w.alloc (.cells #[.int .i64 kd,.int .i64 lk,.slice a 0 c] 82)) from ((Below.refl _ _).alloc (Nat.le_refl _) _))
  clear h
  go_enter Tryz.func126,Tryz.ntmps126
  go_wp2_with fail
  refine (csealB hk hl a c _).mono ?_
  rintro e w1 ⟨rfl,hb1⟩
  have hb2:Below w.heap.size w w1:=keepBelow HB1.out hb1
  obtain ⟨p1,s1⟩:=HP.out.below hb2
  have HU:=hide (cput p1 hm n HN.out.1 HN.out.2 (pgB kd lk) (pgB_size _ _))
  have HS1:=hide (s1)
  clear hb1 hb2 p1 s1
  go_wp2_with fail
  refine HU.out.mono ?_
  rintro e w2 ⟨V1,k1,k2,k3,(⟨rfl,k4⟩ | ⟨rfl,k4,k5⟩)⟩
  · have HK:=hide (show St2 w1 w2 B V V1∧V1.P.pages=V.P.pages∧V1.P.free=V.P.free∧PO w2 B D Gp V1 (wth C n (pgB kd lk)) K pk (m+1) from ⟨k1,k2,k3,k4⟩)
    clear k1 k2 k3 k4 HU
    go_wp2
    go_ret
    exact ⟨V1,HS1.out.trans HK.out.1,HK.out.2.1,HK.out.2.2.1,.inl ⟨rfl,HK.out.2.2.2⟩⟩
  · have HK:=hide (show St2 w1 w2 B V V1∧V1.P.pages=V.P.pages∧V1.P.free=V.P.free∧V1.S.down=true∧PO w2 B D Gp V1 C K pk m from ⟨k1,k2,k3,k4,k5⟩)
    clear k1 k2 k3 k4 k5 HU
    go_wp2
    go_ret
    exact ⟨V1,HS1.out.trans HK.out.1,HK.out.2.1,HK.out.2.2.1,.inr ⟨rfl,HK.out.2.2.2⟩⟩
set_option maxRecDepth 20000 in
set_option maxHeartbeats 2000000 in
theorem csetFree {w:World} {B D Gp:Nat} {V:PV} {C K:Pgs} {pk m:Nat} (h:PO w B D Gp V C K pk m) (hm:m≤49000) (l:Nat) (hl:l≤2147483647) {fr:Nat} (hf:fr≤2147483647) (hC:C 0=some (pgB 4 fr)) :
    Calls Tryz.prog 125 #[(.pointer (some ⟨Gp,0,none⟩)),.int .i64 (l:Int)] w fun e w'=>∃ V',St2 w w' B V V'∧V'.P.pages=V.P.pages∧((e=.returned (.int .i64 0)∧V'.P.free=l∧PO w' B D Gp V' (wth C 0 (pgB 4 l)) K pk (m+1))∨(e=.returned (.int .i64 2)∧V'.S.down=true∧PO w' B D Gp V' C K pk m)):=by
  have hpg:=h.pi.pg
  have HO:=hide (copened h (by omega) 0 (by omega) (by omega) (kd:=4) (lk:=fr) ⟨by decide,by decide⟩ hf hC)
  have HPG:=hide (show 1≤V.P.pages by omega)
  clear h hpg
  go_enter Tryz.func125,Tryz.ntmps125
  go_wp2_with fail
  refine HO.out.mono ?_
  rintro e w1 ⟨V1,k1,k2,k3,k4,(⟨a,c,rfl⟩ | ⟨rfl,k5⟩)⟩
  · have HS1:=hide (k2)
    have HP1:=hide (k1)
    have HK:=hide (show V1.P.pages=V.P.pages from k3)
    have HU:=hide (fun (W:World) (hW:PO W B D Gp V1 C K pk m)=>csealP hW (by omega) 0 (by omega) (by have:=HPG.out;omega) (kd:=4) (lk:=l) ⟨by decide,by decide⟩ hl a c)
    clear k1 k2 k3 k4 HO
    go_wp2_with fail
    refine (HU.out _ ?hPO).mono ?_
    case hPO=>exact (HP1.out.below (((Below.refl _ _).alloc (Nat.le_refl _) _))).1
    rintro e w2 ⟨V2,j1,j2,j3,(⟨rfl,j4⟩ | ⟨rfl,j4,j5⟩)⟩
    · have HS2:Hid (St2 w w2 B V V2):=(HS1.out.trans (HP1.out.below (((Below.refl _ _).alloc (Nat.le_refl _) _))).2).trans j1
      obtain ⟨c0,c1,c2,c3,c4,c5,c6,c7,c8,c9⟩:=j4.pp.cells
      have z3:=j4.pp.unfrozen 3
      have HP3:Hid (PO (w2.setCell ⟨Gp,3,none⟩ (.int .i64 (l:Int))) B D Gp ⟨V2.b,{ V2.P with free:=l },V2.L,V2.S,V2.N⟩ (wth C 0 (pgB 4 l)) K pk (m+1)):=(⟨j4.pp.own rfl rfl rfl rfl,j4.pi.stat _ _ _ _,Nat.le_trans j4.lo (set_grown w2 Gp 3 _).size⟩:PO _ B D Gp ⟨V2.b,{ V2.P with free:=l },V2.L,V2.S,V2.N⟩ _ K pk (m+1))
      have HS3:Hid (St2 w (w2.setCell ⟨Gp,3,none⟩ (.int .i64 (l:Int))) B V ⟨V2.b,{ V2.P with free:=l },V2.L,V2.S,V2.N⟩):=HS2.out.trans (⟨j4.pp.own_bel 3 _ j4.lo,id⟩:St2 w2 _ B V2 ⟨V2.b,{ V2.P with free:=l },V2.L,V2.S,V2.N⟩)
      have HK2:=hide (show V2.P.pages=V.P.pages by rw [j2];exact HK.out)
      clear j1 j2 j3 j4 HU c0 c1 c2 c4 c5 c6 c7 c8 c9
      go_wp2
      go_ret
      exact ⟨_,HS3.out,HK2.out,.inl ⟨rfl,rfl,HP3.out⟩⟩
    · have HS2:Hid (St2 w w2 B V V2):=(HS1.out.trans (HP1.out.below (((Below.refl _ _).alloc (Nat.le_refl _) _))).2).trans j1
      have HK2:=hide (show V2.P.pages=V.P.pages∧V2.S.down=true∧PO w2 B D Gp V2 C K pk m from ⟨by rw [j2];exact HK.out,j4,j5⟩)
      clear j1 j2 j3 j4 j5 HU
      go_wp2
      go_ret
      exact ⟨_,HS2.out,HK2.out.1,.inr ⟨rfl,HK2.out.2⟩⟩
  · have HS1:=hide (k2)
    have HP1:=hide (k1)
    have HK:=hide (show V1.P.pages=V.P.pages∧V1.S.down=true from ⟨k3,k5⟩)
    clear k1 k2 k3 k4 k5 HO
    go_wp2
    go_ret
    exact ⟨V1,HS1.out.trans (HP1.out.below (((Below.refl _ _).alloc (Nat.le_refl _) _))).2,HK.out.1,.inr ⟨rfl,HK.out.2,(HP1.out.below (((Below.refl _ _).alloc (Nat.le_refl _) _))).1⟩⟩
set_option maxRecDepth 20000 in
set_option maxHeartbeats 2000000 in
theorem cfree {w:World} {B D Gp:Nat} {V:PV} {C K:Pgs} {pk m:Nat} (h:PO w B D Gp V C K pk m) (hm:m≤48000) (n:Nat) (n0:0<n) (n1:n<V.P.pages) (hf:V.P.free≤2147483647) (hC:C 0=some (pgB 4 V.P.free)) :
    Calls Tryz.prog 162 #[(.pointer (some ⟨Gp,0,none⟩)),.int .i64 (n:Int)] w fun e w'=>∃ V' C',St2 w w' B V V'∧V'.P.pages=V.P.pages∧PO w' B D Gp V' C' K pk (m+2)∧((e=.returned (.int .i64 0)∧V'.P.free=n∧C'=wth (wth C n (pgB 3 V.P.free)) 0 (pgB 4 n))∨(e=.returned (.int .i64 2)∧V'.S.down=true)):=by
  have hpg:=h.pi.pg
  have HU:=hide (csealP h (by omega) n (by omega) (by omega) (kd:=3) (lk:=V.P.free) ⟨by decide,by decide⟩ hf none 0)
  obtain ⟨c0,c1,c2,c3,c4,c5,c6,c7,c8,c9⟩:=h.pp.cells
  have hn0:¬ (n:Int)=0:=by omega
  have hn1:((n:Int) == 0)=false:=by simp;omega
  have HN:=hide (show 0<n∧n<V.P.pages∧V.P.pages≤59000 from ⟨n0,n1,hpg.2.2⟩)
  have HC:=hide (hC)
  clear h hpg c0 c1 c2 c4 c5 c6 c7 c8 c9 hC n0 n1
  go_enter Tryz.func162,Tryz.ntmps162
  go_wp2_with fail
  refine HU.out.mono ?_
  rintro e w1 ⟨V1,k1,k2,k3,(⟨rfl,k4⟩ | ⟨rfl,k4,k5⟩)⟩
  · have HS1:=hide (k1)
    have HK:=hide (show V1.P.pages=V.P.pages from k2)
    have hq:=HN.out
    have HF:=hide (csetFree k4 (by omega) n (by omega) (fr:=V.P.free) hf (by rw [wth_ne _ _ (by omega)];exact HC.out))
    clear k1 k2 k3 k4 HU hq c3
    go_wp2_with fail
    refine HF.out.mono ?_
    rintro e w2 ⟨V2,j1,j2,(⟨rfl,j3,j4⟩ | ⟨rfl,j3,j4⟩)⟩
    · have HR:=hide (show St2 w w2 B V V2∧V2.P.pages=V.P.pages∧V2.P.free=n∧PO w2 B D Gp V2 (wth (wth C n (pgB 3 V.P.free)) 0 (pgB 4 n)) K pk (m+2) from ⟨HS1.out.trans j1,by rw [j2];exact HK.out,j3,j4⟩)
      clear j1 j2 j3 j4 HF
      go_wp2
      go_ret
      exact ⟨V2,_,HR.out.1,HR.out.2.1,HR.out.2.2.2,.inl ⟨rfl,HR.out.2.2.1,rfl⟩⟩
    · have HR:=hide (show St2 w w2 B V V2∧V2.P.pages=V.P.pages∧V2.S.down=true∧PO w2 B D Gp V2 (wth C n (pgB 3 V.P.free)) K pk (m+2) from ⟨HS1.out.trans j1,by rw [j2];exact HK.out,j3,j4.mono (by omega)⟩)
      clear j1 j2 j3 j4 HF
      go_wp2
      go_ret
      exact ⟨V2,_,HR.out.1,HR.out.2.1,HR.out.2.2.2,.inr ⟨rfl,HR.out.2.2.1⟩⟩
  · have HR:=hide (show St2 w w1 B V V1∧V1.P.pages=V.P.pages∧V1.S.down=true∧PO w1 B D Gp V1 C K pk (m+2) from ⟨k1,k2,k4,k5.mono (by omega)⟩)
    clear k1 k2 k3 k4 k5 HU
    go_wp2
    go_ret
    exact ⟨V1,_,HR.out.1,HR.out.2.1,HR.out.2.2.2,.inr ⟨rfl,HR.out.2.2.1⟩⟩
end Go.Proofs.YtmgjdjjfeapcdaaGreat
