/- TreeMaps stands: the call of relstorelaw.TreeMaps answers true for every script, and the script reads as it did. -/
import Derived.Test.YtiaibgfhigdgdaaGreatM25
import Derived.Test.YtiaibgfhigdgdaaGreatM26
import Derived.Deep.CutBlock
import Derived.ProofKit
import Derived.OpenShut
import Derived.ChangeSlices
import Derived.Deep.Slices
import Derived.Deep.Strs
import Derived.SizedLaws
import Derived.Test.YtiaibgfhigdgdaaGreatRows
import Derived.Below
import Derived.Lib.SmallJoins
set_option maxRecDepth 100000
set_option maxHeartbeats 8000000
namespace Go.Proofs.YtiaibgfhigdgdaaGreat
open Go.Proofs.Tryz
open Go.RowKit Go.Lib Go.Maps Go.Sort
variable {Y w0 X W:World}{D Gp mg n i:Nat}{v:Value}{H:Type}{P:Program}
attribute [local go_sem ↓] Go.wp_at_zero Go.wp_at_succ
structure ActM where
 k:Int
 f:Int
 a:Int
 n:Int
 s:ByteArray
 t:ByteArray
 kp:Option Addr
 kn:Nat
 kc:Nat
 ca:Option Addr
 cn:Nat
 cc:Nat
def actM (x:ActM):List Value:=[.int .i64 x.k,.int .i64 x.f,.int .i64 x.a,.int .i64 x.n,.string x.s,.string x.t,.slice x.kp x.kn x.kc,.slice x.ca x.cn x.cc]
def okAM (x:ActM):Prop:=(-9223372036854775808<=x.f∧x.f<=9223372036854775807)∧(-9223372036854775808<=x.n∧x.n<=9223372036854775807)∧x.s.size<=140737488355328∧x.t.size<=140737488355328
def liesAM (X:World)(sa:Option Addr)(sl:Nat)(A:Nat->ActM):Prop:=sl=0∨∃b off,sa=some ⟨b,off,none⟩∧b<X.heap.size∧∀i,i<sl->okAM (A i)∧∀j,j<8->X.cell? ⟨b,off+(i*8+j),none⟩=(actM (A i))[j]?
def BxA (Y:World)(ab:Nat)(a:ActM):Prop:=Y.heap[ab]?=some (.cells #[.int .i64 a.k,.int .i64 a.f,.int .i64 a.a,.int .i64 a.n,.string a.s,.string a.t,.slice a.kp a.kn a.kc,.slice a.ca a.cn a.cc] 45 (0,0))
theorem BxA.cells {ab:Nat}{a:ActM}(h:BxA Y ab a):Y.cell? ⟨ab,0,none⟩=some (.int .i64 a.k)∧Y.cell? ⟨ab,1,none⟩=some (.int .i64 a.f)∧Y.cell? ⟨ab,2,none⟩=some (.int .i64 a.a)∧Y.cell? ⟨ab,3,none⟩=some (.int .i64 a.n)∧Y.cell? ⟨ab,4,none⟩=some (.string a.s)∧Y.cell? ⟨ab,5,none⟩=some (.string a.t)∧Y.cell? ⟨ab,6,none⟩=some (.slice a.kp a.kn a.kc)∧Y.cell? ⟨ab,7,none⟩=some (.slice a.ca a.cn a.cc):=by
 unfold BxA at h;simp[World.cell?,h]
theorem newsT (w:World)(v:Value):∀j u,([v]:List Value)[j]?=some u->(w.alloc (.cells #[v] 38)).cell? ((⟨w.heap.size,0,none⟩:Addr).add j)=some u:=by
 intro j u hj;rw[add_none]
 match j,hj with
 | 0,h=>cases h;go_simp
 | j+1,h=>simp at h
theorem len2 {l:List Nat}(h:l.length=2):∃a b,l=[a,b]:=by
 match l,h with
 | [a,b],_=>exact⟨a,b,rfl⟩
theorem LwI.below {tg kg:Nat}{kd:Int}(h:LwI w0 X D Gp tg mg kg kd n i)(hb:Below X.heap.size X Y):LwI w0 Y D Gp tg mg kg kd n i:=by
 obtain⟨V,K,pk,m,A,fl,pages,Ak,flk,s,q,h1,h2⟩:=h;exact⟨V,K,pk,m,A,fl,pages,Ak,flk,s,q,h1.below hb,h2⟩
theorem infoTT:(prog.info? 38).map (λi=>(i.zero,i.size,i.bytes))=some (some (.pointer none),1,8):=by kernel_rfl
theorem OpS.stay2 {Z:World}{b0 b1:Nat}{V V':PV}{m m':Nat}{A A':Nat->PgV}{fl fl':List Nat}{pages pages':Nat}{tbs rts:List Nat}(h:OpS w0 X D Gp mg b0 b1 V m A fl pages i v tbs rts)(_:TS Y w0.heap.size D Gp V' K00 1 m' A' fl' pages')(hs:St2 X Y w0.heap.size V V')(hb:Below Y.heap.size Y Z):Z.ownsRow w0.heap.size 38 1 v i (tbs.map λb=>(.pointer (some ⟨b,0,none⟩))):=row_keepP h.row λg hg=>by
 obtain⟨cs,hcs⟩:=row_isP h.row hg;have h1:=h.ts.stay hs hcs (by decide);exact((hb.block g (gl h1)).trans h1).trans hcs.symm
theorem ltreemaps (sa:Option Addr)(sl sc:Nat)(A:Nat->ActM)(X:World)(hl:liesAM X sa sl A)(hn:sl<=140737488355328)(hc:sl<=sc)(ha:sa=none->sl=0∧sc=0):Calls prog 3 #[.slice sa sl sc] X λe w'=>e=.returned (.bool true)∧Below X.heap.size X w':=by
 have HL:Hid (liesAM X sa sl A):=hl;have HA:Hid (sa=none->sl=0∧sc=0):=ha;clear hl ha;go_enter func3,ntmps3;go_wp2_with fail
 refine(cnewD X).mono ?_;rintro e w1⟨rfl,hP1,hb1⟩;have HB1:=hide hb1;have HO1:=hide (copen_first hP1 hb1.size);clear hP1 hb1;go_wp2_with fail
 refine HO1.out.mono ?_;rintro e w2⟨Gp,V,rfl,hp2,hnf2,hpg2,hfr2,hb2⟩;have HT2:=hide (ts_first hp2 hnf2 hpg2 hfr2);have HB2:=hide (HB1.out.trans hb2);clear hp2 hnf2 hpg2 hfr2 hb2 HO1 HB1;go_wp2_with fail
 refine(cnumL 0 _).mono ?_;rintro e w3⟨rfl,rfl⟩;have H3:Hid (OpS X (((w3.alloc (.cells #[(.slice none 0 0)] 34)).alloc (.cells #[(.slice none 0 0)] 34)).alloc (.cells #[(.pointer (some ⟨w3.heap.size,0,none⟩)),(.pointer (some ⟨(w3.heap.size+1),0,none⟩))] 31)) X.heap.size Gp (w3.heap.size+1+1) w3.heap.size (w3.heap.size+1) V 1 A00 [] 1 0 (.slice none 0 0) [] []):=by
  have b1:Below w3.heap.size w3 (w3.alloc (.cells #[(.slice none 0 0)] 34)):=(Below.refl _ _).alloc (Nat.le_refl _) _;have b2:Below w3.heap.size w3 ((w3.alloc (.cells #[(.slice none 0 0)] 34)).alloc (.cells #[(.slice none 0 0)] 34)):=b1.alloc (by first | (simp;done) | (simp;omega)) _;have b3:Below w3.heap.size w3 (((w3.alloc (.cells #[(.slice none 0 0)] 34)).alloc (.cells #[(.slice none 0 0)] 34)).alloc (.cells #[(.pointer (some ⟨w3.heap.size,0,none⟩)),(.pointer (some ⟨(w3.heap.size+1),0,none⟩))] 31)):=b2.alloc (by first | (simp;done) | (simp;omega)) _;have hsz:=HB2.out.size;refine⟨(HT2.out.below b3).1,⟨rfl,.inl ⟨rfl,rfl⟩⟩,⟨rfl,rfl⟩,λj hj=>absurd hj (Nat.not_lt_zero _),List.Perm.refl _,λr hr=>by simp at hr,by omega,by omega,?_,?_,?_,⟨by omega,by omega,by omega,by omega⟩,HB2.out.trans (b3.mono hsz)⟩
  ·have:=heap_alloc_new ((w3.alloc (.cells #[(.slice none 0 0)] 34)).alloc (.cells #[(.slice none 0 0)] 34)) (.cells #[(.pointer (some ⟨w3.heap.size,0,none⟩)),(.pointer (some ⟨(w3.heap.size+1),0,none⟩))] 31);simpa using this
  ·rw[heap_alloc_old _ _ (by simp;omega),heap_alloc_old _ _ (by simp)];exact heap_alloc_new w3 _
  ·rw[heap_alloc_old _ _ (by simp)];have:=heap_alloc_new (w3.alloc (.cells #[(.slice none 0 0)] 34)) (.cells #[(.slice none 0 0)] 34);simpa using this
 clear HT2 HB2
 go_upto_block 0 with fail
 obtain⟨W3,hW3⟩:∃W,(((w3.alloc (.cells #[(.slice none 0 0)] 34)).alloc (.cells #[(.slice none 0 0)] 34)).alloc (.cells #[(.pointer (some ⟨w3.heap.size,0,none⟩)),(.pointer (some ⟨(w3.heap.size+1),0,none⟩))] 31))=W:=⟨_,rfl⟩;rw[hW3] at H3 ⊢;clear hW3;generalize w3.heap.size+1+1=mg at *;generalize w3.heap.size+1=b1 at *;generalize w3.heap.size=b0 at *
 go_cut [6] (λx6 wx=>∃(V:PV) (m:Nat) (A:Nat->PgV) (fl:List Nat) (pages tg tcap t0 t1 r0 r1:Nat),x6=.slice (some ⟨tg,0,none⟩) 2 tcap∧Hid (OpS X wx X.heap.size Gp mg b0 b1 V m A fl pages 2 (.slice (some ⟨tg,0,none⟩) 2 tcap) [t0,t1] [r0,r1]))
 case first =>
  go_wp2_with fail
  go_loopw [6,41] (λx6 x41 Y=>∃(i:Nat) (V:PV) (m:Nat) (A:Nat->PgV) (fl:List Nat) (pages:Nat) (tbs rts:List Nat),i<=2∧x41=.int .i64 (i:Int)∧Hid (OpS X Y X.heap.size Gp mg b0 b1 V m A fl pages i x6 tbs rts)) (λ_ x41 _=>2-(intOf x41).toNat)
  case atStart=>exact⟨0,V,1,A00,[],1,[],[],Nat.zero_le _,rfl,H3⟩
  case round =>
   clear H3;obtain⟨i,V,m,At,fl,pages,tbs,rts,hi,rfl,H⟩:=hrel;by_cases hlt:i<2
   ·have ki:(0:Int)<=(i:Int):=by omega
    have kn:(i:Int)<2:=by omega
    have h1:=H.out.mm;have h2:=H.out.pg;have HC:=hide (cCreate H.out.ts (by omega) (by omega) H.out.perm);clear h1 h2;go_wp2_with fail
    refine HC.out.mono ?_;rintro e w4⟨n,rfl,V4,A4,fl4,pages4,c1,c2,c3⟩;have HP:=hide (And.intro c1 (And.intro c2 c3));clear c1 c2 c3 HC;go_wp2_with fail
    refine(cOpenT Gp n w4).mono ?_;rintro e w5⟨rfl,k1,k2⟩;have HK:=hide (And.intro k1 k2);clear k1 k2;go_wp2_with fail
    refine(cnumL 0 _).mono ?_;rintro e w6⟨rfl,rfl⟩;have hb6:Below w4.heap.size w4 (w6.alloc (.cells #[(.pointer (some ⟨w4.heap.size,0,none⟩))] 38)):=HK.out.2.alloc (HK.out.2.size) _;have ht6:TB (w6.alloc (.cells #[(.pointer (some ⟨w4.heap.size,0,none⟩))] 38)) w4.heap.size Gp n:=by
     have k1':w6.heap[w4.heap.size]?=_:=HK.out.1;exact(heap_alloc_old w6 _ (gl k1')).trans k1'
    have hr6:=(H.out.stay2 HP.out.1 HP.out.2.1 hb6);have HR:=hide hr6;have HZ:=hide (λ(W:World) (v':Value) ho hg=>H.out.more (W:=W) (v':=v') HP.out.1 HP.out.2.1 HP.out.2.2 hb6 ht6 ho hg);have HS6:=hide (show X.heap.size<=(w6.alloc (.cells #[(.pointer (some ⟨w4.heap.size,0,none⟩))] 38)).heap.size from Nat.le_trans HP.out.1.lo hb6.size);clear hb6 ht6 hr6 HP HK;obtain⟨i0,hi0,hz0,hz1,hz2⟩:=info_parts infoTT;go_wp2_with (at_builtin;refine wpList_append_own_at _ rfl _ _ 30 rfl X.heap.size 38 i0 (.pointer none) 1 8 underlying30 hi0 hz0 hz1 hz2 rfl (by decide) _ i (tbs.map λb=>(.pointer (some ⟨b,0,none⟩))) rfl HR.out ⟨w6.heap.size,0,none⟩ 1 1 [(.pointer (some ⟨w4.heap.size,0,none⟩))] rfl rfl (newsT _ _) (λx hx=>by simp at hx;subst hx;rfl) (by unfold maxLen;omega) (by omega) HS6.out ?_)
    intro v7 w7 ho7 hg7 _ _;have HY:=hide (HZ.out w7 v7 ho7 hg7);clear ho7 hg7 HZ HR HS6;go_wp2_with fail
    refine⟨⟨i+1,_,_,_,_,_,_,_,by omega,by go_num,HY⟩,?_⟩;simp[intOf];omega
   ·have e2:i=2:=by omega
    subst e2;obtain⟨t0,t1,rfl⟩:=len2 H.out.len.1;obtain⟨r0,r1,rfl⟩:=len2 H.out.len.2;obtain⟨tg,tcap,rfl⟩:∃tg tcap,u6=Value.slice (some ⟨tg,0,none⟩) 2 tcap:=by
     rcases H.out.row.2 with⟨_,e⟩|⟨g,cap,cur,e,-⟩
     ·omega
     ·exact⟨g,cap,e⟩
    go_wp2_with fail
    go_meet
    case rel=>exact⟨V,m,At,fl,pages,tg,tcap,t0,t1,r0,r1,rfl,H⟩
 clear H3;clear V;obtain⟨V,m,At,fl,pages,tg,tcap,t0,t1,r0,r1,rfl,H⟩:=hcut;have h1:=H.out.mm;have HC:=hide (ctcommit H.out.ts (by omega));clear h1;go_wp2_with fail
 refine HC.out.mono ?_;rintro e w4⟨rfl,V4,K4,p1,p2,p3⟩;have HP:=hide (And.intro p1 (And.intro p2 p3));clear p1 p2 p3 HC;go_wp2_with fail
 refine(cnumL 0 _).mono ?_;rintro e w5⟨rfl,rfl⟩;have H5:Hid (LwE X (((w5.alloc (.cells #[(.slice none 0 0)] 34)).alloc (.cells #[(.slice none 0 0)] 34)).alloc (.cells #[(.pointer (some ⟨w5.heap.size,0,none⟩)),(.pointer (some ⟨(w5.heap.size+1),0,none⟩))] 31)) X.heap.size Gp tg mg (w5.heap.size+1+1) 0):=by
  have b1:Below w5.heap.size w5 (w5.alloc (.cells #[(.slice none 0 0)] 34)):=(Below.refl _ _).alloc (Nat.le_refl _) _;have b2:Below w5.heap.size w5 ((w5.alloc (.cells #[(.slice none 0 0)] 34)).alloc (.cells #[(.slice none 0 0)] 34)):=b1.alloc (by first | (simp;done) | (simp;omega)) _;have b3:Below w5.heap.size w5 (((w5.alloc (.cells #[(.slice none 0 0)] 34)).alloc (.cells #[(.slice none 0 0)] 34)).alloc (.cells #[(.pointer (some ⟨w5.heap.size,0,none⟩)),(.pointer (some ⟨(w5.heap.size+1),0,none⟩))] 31)):=b2.alloc (by first | (simp;done) | (simp;omega)) _;refine H.out.start (kg:=w5.heap.size+1+1) (k0:=w5.heap.size) (k1:=w5.heap.size+1) HP.out.1 HP.out.2.1 HP.out.2.2 b3 ?_ ?_ ?_ ⟨by omega,by omega,by omega⟩
  ·have:=heap_alloc_new ((w5.alloc (.cells #[(.slice none 0 0)] 34)).alloc (.cells #[(.slice none 0 0)] 34)) (.cells #[(.pointer (some ⟨w5.heap.size,0,none⟩)),(.pointer (some ⟨(w5.heap.size+1),0,none⟩))] 31);simpa using this
  ·rw[heap_alloc_old _ _ (by simp;omega),heap_alloc_old _ _ (by simp)];exact heap_alloc_new w5 _
  ·rw[heap_alloc_old _ _ (by simp)];have:=heap_alloc_new (w5.alloc (.cells #[(.slice none 0 0)] 34)) (.cells #[(.slice none 0 0)] 34);simpa using this
 clear H HP;go_wp2_with fail
 refine(cshortL sa sl sc _ hn hc HA.out).mono ?_;rintro e w6⟨rfl,rfl⟩;clear HA;obtain⟨W5,hW5⟩:∃W,(((w5.alloc (.cells #[(.slice none 0 0)] 34)).alloc (.cells #[(.slice none 0 0)] 34)).alloc (.cells #[(.pointer (some ⟨w5.heap.size,0,none⟩)),(.pointer (some ⟨(w5.heap.size+1),0,none⟩))] 31))=W:=⟨_,rfl⟩;rw[hW5] at H5 ⊢;clear hW5;generalize w5.heap.size+1+1=kg at *
 go_upto_block 2 with fail
 go_cut [] (λwx=>∃i:Nat,i<=250∧Hid (LwE X wx X.heap.size Gp tg mg kg i))
 case first =>
  go_wp2_with fail
  go_loopw [75] (λx75 Y=>∃i:Nat,i<=min sl 250∧x75=.int .i64 (i:Int)∧Hid (LwE X Y X.heap.size Gp tg mg kg i)) (λx75 _=>min sl 250-(intOf x75).toNat)
  case atStart=>exact⟨0,Nat.zero_le _,rfl,H5⟩
  case round =>
   clear H5;obtain⟨i,hi,rfl,HE⟩:=hrel;by_cases hlt:i<min sl 250
   ·have hsl:i<sl:=by omega
    have hi2:i<250:=by omega
    rcases HL.out with h0|⟨b,off,rfl,hbX,hE⟩
    ·omega
    have ki:(0:Int)<=(i:Int):=by omega
    have kn:(i:Int)<((min sl 250:Nat):Int):=by omega
    obtain⟨V,K,pk,m,At,fl,pages,Ak,flk,s,q,hW,hQ⟩:=HE.out;have hbel:=hW.mem.bel;have zb:=hbel.size;have hbw:b<wr.heap.size:=by omega
    have g:∀j,j<8->wr.cell? ⟨b,off+(i*8+j),none⟩=(actM (A i))[j]?:=λj hj=>(hbel.cell (p:=⟨b,off+(i*8+j),none⟩) hbX).trans ((hE i hsl).2 j hj)
    have d0:wr.cell? ⟨b,off+i * 8,none⟩=some (.int .i64 (A i).k):=g 0 (by decide);have d1:wr.cell? ⟨b,off+i * 8+1,none⟩=some (.int .i64 (A i).f):=g 1 (by decide);have d2:wr.cell? ⟨b,off+i * 8+2,none⟩=some (.int .i64 (A i).a):=g 2 (by decide);have d3:wr.cell? ⟨b,off+i * 8+3,none⟩=some (.int .i64 (A i).n):=g 3 (by decide);have d4:wr.cell? ⟨b,off+i * 8+4,none⟩=some (.string (A i).s):=g 4 (by decide);have d5:wr.cell? ⟨b,off+i * 8+5,none⟩=some (.string (A i).t):=g 5 (by decide);have d6:wr.cell? ⟨b,off+i * 8+6,none⟩=some (.slice (A i).kp (A i).kn (A i).kc):=g 6 (by decide);have d7:wr.cell? ⟨b,off+i * 8+7,none⟩=some (.slice (A i).ca (A i).cn (A i).cc):=g 7 (by decide);have OK:Hid (okAM (A i)):=(hE i hsl).1;have HT:=hide (And.intro hW hQ);clear g hE HL hW hQ hbel HE zb;generalize hAi:A i=ai at *;clear hAi;obtain⟨⟨ok1,ok2⟩,ok3,ok5,ok6⟩:=OK.out;have HB1:Hid (Below wr.heap.size wr (wr.alloc (.cells #[.int .i64 ai.k,.int .i64 ai.f,.int .i64 ai.a,.int .i64 ai.n,.string ai.s,.string ai.t,.slice ai.kp ai.kn ai.kc,.slice ai.ca ai.cn ai.cc] 45))):=(Below.refl _ _).alloc (Nat.le_refl _) _;have HAB:Hid (BxA (wr.alloc (.cells #[.int .i64 ai.k,.int .i64 ai.f,.int .i64 ai.a,.int .i64 ai.n,.string ai.s,.string ai.t,.slice ai.kp ai.kn ai.kc,.slice ai.ca ai.cn ai.cc] 45)) wr.heap.size ai):=heap_alloc_new wr _;obtain⟨kx,hkx⟩:∃kx:Nat,pickI ai.f 2=(kx:Int):=⟨(pickI ai.f 2).toNat,by have:=pickI_in ai.f (n:=2) (by decide);omega⟩;have hk2:kx<2:=by have:=pickI_in ai.f (n:=2) (by decide);omega
    have HPK:=hide (λ(Y:World)=>(show Calls prog 12 #[.int .i64 ai.f,.int .i64 2] Y (λe w'=>e=.returned (.int .i64 (kx:Int))∧w'=Y) from hkx ▸ cpickL ai.f 2 Y ⟨ok1,ok2⟩ (by decide)));clear hkx OK;go_wp2_with fail
    refine(HPK.out _).mono ?_;rintro e wp⟨rfl,rfl⟩;have HW1:=hide (HT.out.1.below HB1.out.drew);have HQ1:=hide HT.out.2;obtain⟨ab,hab⟩:∃ab,wr.heap.size=ab:=⟨_,rfl⟩;obtain⟨Wa,hWa⟩:∃Wa,wr.alloc (.cells #[.int .i64 ai.k,.int .i64 ai.f,.int .i64 ai.a,.int .i64 ai.n,.string ai.s,.string ai.t,.slice ai.kp ai.kn ai.kc,.slice ai.ca ai.cn ai.cc] 45)=Wa:=⟨_,rfl⟩;rw[hab] at HAB ⊢;rw[hWa] at HAB HW1 ⊢;clear hWa hab HB1 HT d0 d1 d2 d3 d4 d5 d6 d7 hbw HPK
    go_upto_region 24 with fail
    go_cut [111] (λx111 wx=>x111=.bool false∧Hid (LwI X wx X.heap.size Gp tg mg kg ai.k 0 (i+1))∧Hid (BxA wx ab ai))
    case first =>
     by_cases h7:ai.k=7
     ·refine ty24a Gp tg mg ab kx tcap (λY=>LwI X Y X.heap.size Gp tg mg kg ai.k 0 (i+1)∧BxA Y ab ai) (λY hY=>?_) ?_ (by simp) rfl rfl rfl rfl rfl (by kernel_rfl) (by kernel_rfl) (by kernel_rfl) (by kernel_rfl) ?_
      ·have hb:BxA Y ab ai:=hY.elim (λh=>by rw[h];exact HAB.out) (·.2);have:=hb.cells.1;rw[h7] at this;exact this
      ·refine(kdrop HW1.out HQ1.out hk2 (by omega) tcap 2).mono ?_;rintro e w2⟨rfl,p1,p2⟩;exact⟨rfl,h7 ▸ p1,p2 _ _ HAB.out⟩
      ·intro X9 hX9;have HY:=hide hX9;clear hX9;simp only[vs,Tty24a,List.map_cons,List.map_nil,sets,List.setIfInBounds_toArray,List.set_cons_zero,List.set_cons_succ];go_wp2_with fail
       go_meet
       case rel=>exact⟨rfl,HY.out.1,HY.out.2⟩
     ·obtain⟨c1,a1,a2⟩:=HW1.out.mem.tr;obtain⟨c2,b1,b2⟩:=HW1.out.mem.mr;have t1:Wa.drew.cell? ⟨tg,kx,none⟩=some (.pointer (some ⟨(q kx).tb,0,none⟩)):=by simp[World.cell?,a1,a2 kx hk2]
      have t2:Wa.drew.cell? ⟨mg,kx,none⟩=some (.pointer (some ⟨(q kx).mb,0,none⟩)):=by simp[World.cell?,b1,b2 kx hk2]
      refine ty24b Gp tg mg ab kx tcap (q kx).tb (q kx).mb ai.k ai.f ai.a ai.n ai.s ai.t ai.kp ai.ca ai.kn ai.kc ai.cn ai.cc (λY=>LwI X Y X.heap.size Gp tg mg kg ai.k 0 (i+1)∧BxA Y ab ai) h7 (by omega) (by omega) HAB.out.cells t1 t2 ?_ (by simp) rfl rfl rfl rfl rfl (by kernel_rfl) (by kernel_rfl) (by kernel_rfl) (by kernel_rfl) ?_
      ·refine(kstep ai.k HW1.out HQ1.out hk2 (by omega) h7 ok5 ok6 ok3).mono ?_;rintro e w2⟨rfl,p1,p2⟩;exact⟨rfl,p1,p2 _ _ HAB.out⟩
      ·intro X9 hX9;have HY:=hide hX9;clear hX9 a1 a2 b1 b2 t1 t2;simp only[vs,Tty24b,List.map_cons,List.map_nil,sets,List.setIfInBounds_toArray,List.set_cons_zero,List.set_cons_succ];go_wp2_with fail
       go_meet
       case rel=>exact⟨rfl,HY.out.1,HY.out.2⟩
    obtain⟨rfl,HI,HAB2⟩:=hcut;clear HW1 HQ1 HAB;go_wp2_with fail
    go_loopw [114] (λx114 Y=>∃n:Nat,n<=2∧x114=.int .i64 (n:Int)∧Hid (LwI X Y X.heap.size Gp tg mg kg ai.k n (i+1))∧Hid (BxA Y ab ai)) (λx114 _=>2-(intOf x114).toNat)
    case atStart=>exact⟨0,Nat.zero_le _,rfl,HI,HAB2⟩
    case round =>
     clear HI HAB2;obtain⟨n,hn2,rfl,HI,HAB⟩:=hrel;by_cases hlt2:n<2
     ·have n0:(0:Int)<=(n:Int):=by omega
      have n2:(n:Int)<2:=by omega
      have q0:=HAB.out.cells.1;by_cases h6:ai.k=6∨ai.k=7
      ·obtain⟨V,K,pk,m,At,fl,pages,Ak,flk,s,q,hW,hQ⟩:=HI.out;obtain⟨c2,b1,b2⟩:=hW.mem.mr;obtain⟨c3,e1,e2⟩:=hW.mem.kr;have t2:wr.cell? ⟨mg,n,none⟩=some (.pointer (some ⟨(q n).mb,0,none⟩)):=by simp[World.cell?,b1,b2 n hlt2]
       have t3:wr.cell? ⟨kg,n,none⟩=some (.pointer (some ⟨(q n).kb,0,none⟩)):=by simp[World.cell?,e1,e2 n hlt2]
       have t4:wr.cell? ⟨(q n).mb,0,none⟩=some (q n).v:=by simp[World.cell?,(hW.mem.mp n hlt2).blk]
       have hkl:kg<wr.heap.size:=(gl e1);have t6:wr.frozen? ⟨kg,n,none⟩=false:=by simp[World.frozen?,e1]
       have e1':(wr.alloc (.cells #[(q n).v] 34)).heap[kg]?=some (.cells c3 31 (0,0)):=(heap_alloc_old wr _ hkl).trans e1;have t7:(wr.alloc (.cells #[(q n).v] 34)).frozen? ⟨kg,n,none⟩=false:=by simp[World.frozen?,e1']
       have t8:(wr.alloc (.cells #[(q n).v] 34)).cell? ⟨kg,n,none⟩=some (.pointer (some ⟨(q n).kb,0,none⟩)):=by simp[World.cell?,e1',e2 n hlt2]
       obtain⟨z1,z2⟩:=hW.keep hQ h6 hlt2;have he:(wr.alloc (.cells #[(q n).v] 34)).setCell ⟨kg,n,none⟩ (.pointer (some ⟨wr.heap.size,0,none⟩))=(wr.setCell ⟨kg,n,none⟩ (.pointer (some ⟨wr.heap.size,0,none⟩))).alloc (.cells #[(q n).v] 34):=by go_simp
       rw[he] at z1 z2;clear he;have HZ:=hide (And.intro z1 (show BxA _ ab ai from z2 _ _ HAB.out));obtain⟨av,cv,hv⟩:=(show ∃av cv,(q n).v=.slice av (q n).em.length cv from by obtain⟨a,c,h,-⟩:=row_el (hW.mem.mp n hlt2).row;exact⟨a,c,h⟩);generalize (q n).v=vv at *;generalize (q n).mb=mb at *;generalize (q n).kb=kb at *;subst hv;clear hW hQ b1 b2 e1 e2 z1 z2 HI e1';rcases h6 with h6 | h6
       ·rw[h6] at q0;go_wp2_with fail
        refine⟨⟨n+1,by omega,by go_num,hide HZ.out.1,hide HZ.out.2⟩,?_⟩;simp[intOf];omega
       ·rw[h6] at q0;go_wp2_with fail
        refine⟨⟨n+1,by omega,by go_num,hide HZ.out.1,hide HZ.out.2⟩,?_⟩;simp[intOf];omega
      ·by_cases h8:ai.k=8
       ·obtain⟨V,K,pk,m,At,fl,pages,Ak,flk,s,q,hW,hQ⟩:=HI.out;obtain⟨c2,b1,b2⟩:=hW.mem.mr;obtain⟨c3,e1,e2⟩:=hW.mem.kr;have t2:wr.cell? ⟨mg,n,none⟩=some (.pointer (some ⟨(q n).mb,0,none⟩)):=by simp[World.cell?,b1,b2 n hlt2]
        have t3:wr.cell? ⟨kg,n,none⟩=some (.pointer (some ⟨(q n).kb,0,none⟩)):=by simp[World.cell?,e1,e2 n hlt2]
        have t4:wr.cell? ⟨(q n).mb,0,none⟩=some (q n).v:=by simp[World.cell?,(hW.mem.mp n hlt2).blk]
        have t5:wr.cell? ⟨(q n).kb,0,none⟩=some (q n).vk:=by simp[World.cell?,(hW.mem.kp n hlt2).blk]
        rw[h8] at hQ;have t6:wr.frozen? ⟨(q n).mb,0,none⟩=false:=(hW.mem.mp n hlt2).cells.2.1;obtain⟨z1,z2⟩:=hW.back hQ hlt2;have HZ:=hide (And.intro (z1.below (Y:=((wr.setCell ⟨(q n).mb,0,none⟩ (q n).vk).drew)) (Below.refl _ _).drew) (show BxA ((wr.setCell ⟨(q n).mb,0,none⟩ (q n).vk).drew) ab ai from z2 _ _ HAB.out));obtain⟨av,cv,hv⟩:=(show ∃av cv,(q n).v=.slice av (q n).em.length cv from by obtain⟨a,c,h,-⟩:=row_el (hW.mem.mp n hlt2).row;exact⟨a,c,h⟩);obtain⟨aw,cw,hw⟩:=(show ∃av cv,(q n).vk=.slice av (q n).ekm.length cv from by obtain⟨a,c,h,-⟩:=row_el (hW.mem.kp n hlt2).row;exact⟨a,c,h⟩);generalize (q n).v=vv at *;generalize (q n).vk=vk at *;generalize (q n).mb=mb at *;generalize (q n).kb=kb at *;subst hv hw;clear hW hQ b1 b2 e1 e2 z1 z2 HI;rw[h8] at q0 ⊢
        go_upto_region 34 with fail
        go_region
        all_goals
         go_wp2_with fail
         refine⟨⟨n+1,by omega,by go_num,hide HZ.out.1,hide HZ.out.2⟩,?_⟩;simp[intOf];omega
       ·have h61:¬ai.k=6:=λe=>h6 (.inl e)
        have h71:¬ai.k=7:=λe=>h6 (.inr e)
        have HZ:=hide (HI.out.nothing h61 h71 h8);clear HI;go_wp2_with fail
        refine⟨⟨n+1,by omega,by go_num,HZ,HAB⟩,?_⟩;simp[intOf];omega
     ·have e2:n=2:=by omega
      subst e2;have HZ2:=hide HI.out.done;clear HI HAB;go_wp2_with fail
      refine⟨⟨i+1,by omega,by go_num,HZ2⟩,?_⟩;simp[intOf];omega
   ·go_wp2_with fail
    go_meet
    case rel=>exact⟨i,by omega,HE⟩
 obtain⟨n,hn250,HE⟩:=hcut;clear H5 HL;go_wp2_with fail
 go_loopw [153] (λx153 Y=>∃j:Nat,j<=2∧x153=.int .i64 (j:Int)∧Hid (LwE X Y X.heap.size Gp tg mg kg n)) (λx153 _=>2-(intOf x153).toNat)
 case atStart=>exact⟨0,Nat.zero_le _,rfl,HE⟩
 case round =>
  clear HE;obtain⟨j,hj2,rfl,HE⟩:=hrel;by_cases hlt:j<2
  ·obtain⟨V,K,pk,m,At,fl,pages,Ak,flk,s,q,hW,hQ⟩:=HE.out;have n0:(0:Int)<=(j:Int):=by omega
   have n2:(j:Int)<2:=by omega
   have hs:=hW.sem.small hn250 hlt;obtain⟨c1,a1,a2⟩:=hW.mem.tr;have t1:wr.cell? ⟨tg,j,none⟩=some (.pointer (some ⟨(q j).tb,0,none⟩)):=by simp[World.cell?,a1,a2 j hlt]
   have ht:TB wr (q j).tb Gp (numT (s j).d (s j).t):=by rw[(hW.sem.rt j hlt).1];exact hW.mem.tb j hlt
   have HC:=hide (@cScan wr X.heap.size X.heap.size Gp V K pk m At fl [] pages (q j).tb (s j).es (besT (s (oth j)).d (s (oth j)).t) (s j).d (s j).t hW.sem.ts (by omega) (hW.sem.tr j hlt) ht ⟨#[]⟩ ⟨#[]⟩ (-1) (by omega));have HL2:=hide (show(s j).es.length<=100000 from by omega);have HW:=hide (And.intro hW hQ);clear hW hQ a1 a2 ht hs HE;go_wp2_with fail
   refine HC.out.mono ?_;rintro e w2⟨fv,V2,rfl,p1,p2,p3⟩;rw[scan_full] at p3;have hM:=HW.out.1.mem.stay HW.out.1.sem.ts p2;obtain⟨c2,b1,b2⟩:=hM.mr;have t2:w2.cell? ⟨mg,j,none⟩=some (.pointer (some ⟨(q j).mb,0,none⟩)):=by simp[World.cell?,b1,b2 j hlt]
   have t4:w2.cell? ⟨(q j).mb,0,none⟩=some (q j).v:=by simp[World.cell?,(hM.mp j hlt).blk]
   have hEb:EL w2 (q j).v (s j).es:=by rw[<-(HW.out.2 j hlt).1];exact row_el (hM.mp j hlt).row
   have HS:=hide (csameE (row_el (ownN_mono p3 (Nat.zero_le _))) hEb HL2.out);have HW2:=hide (show LwM X w2 X.heap.size Gp tg mg kg V2 K pk m At fl pages Ak flk s q n from⟨HW.out.1.sem.stay p1,hM⟩);obtain⟨av,cv,hv⟩:=(show ∃av cv,(q j).v=.slice av (s j).es.length cv from by obtain⟨a,c,h,-⟩:=hEb;exact⟨a,c,h⟩);obtain⟨aw,cw,rfl⟩:=own_formN p3;rw[hv] at t4 HS;clear p1 p2 p3 hM b1 b2 hEb HC hv t1;go_wp2_with fail
   refine(cnumL 0 _).mono ?_;rintro e w3⟨rfl,rfl⟩;go_wp2_with fail
   refine HS.out.mono ?_;rintro e w4⟨rfl,hb4⟩;have HW4:=hide (show LwE X w4 X.heap.size Gp tg mg kg n from⟨V2,K,pk,m,At,fl,pages,Ak,flk,s,q,HW2.out.below hb4,HW.out.2⟩);clear hb4 HS HW2 t2 t4;go_wp2_with fail
   refine⟨⟨j+1,by omega,by go_num,HW4⟩,?_⟩;simp[intOf];omega
  ·go_wp2_with fail
   go_ret;exact⟨rfl,HE.out.bel⟩
open Go.ChangeShapes Go.WideShapes Go.ChangeAt Go.Deep
theorem cellsAct:prog.cellsOf 45=8:=by kernel_rfl
theorem bytesAct:prog.bytesOf 45=112:=by kernel_rfl
theorem cIntA:prog.cellsOf 3=1:=by kernel_rfl
theorem cStrA:prog.cellsOf 9=1:=by kernel_rfl
theorem cIntsA:prog.cellsOf 42=1:=by kernel_rfl
theorem cTextsA:prog.cellsOf 43=1:=by kernel_rfl
theorem cell_ltA {b o:Nat}(h:W.cell? ⟨b,o,none⟩=some v):b<W.heap.size:=by
 rcases Nat.lt_or_ge b W.heap.size with h'|h'
 ·exact h'
 ·simp[World.cell?,Array.getElem?_eq_none h'] at h
theorem trod8 {enc:TypeId×Value->H}{w:World}{base:Nat}{spare:Nat->Bool}{held:Bool}{t:TypeId}{f0 f1 f2 f3 f4 f5 f6 f7:Field}{fuel:Nat}{cs:List Value}{x:DataW H×List MemPlace}(ht:P.underlying t=some (.struct #[f0,f1,f2,f3,f4,f5,f6,f7]))(h:DataW.trod enc P w base spare held fuel t cs=some x):∃y0 y1 y2 y3 y4 y5 y6 y7 n,x.1=.agg [y0.1,y1.1,y2.1,y3.1,y4.1,y5.1,y6.1,y7.1]∧cs.length=P.cellsOf t∧DataW.trod enc P w base spare held n f0.type ((cs.drop f0.offset).take (P.cellsOf f0.type))=some y0∧DataW.trod enc P w base spare held n f1.type ((cs.drop f1.offset).take (P.cellsOf f1.type))=some y1∧DataW.trod enc P w base spare held n f2.type ((cs.drop f2.offset).take (P.cellsOf f2.type))=some y2∧DataW.trod enc P w base spare held n f3.type ((cs.drop f3.offset).take (P.cellsOf f3.type))=some y3∧DataW.trod enc P w base spare held n f4.type ((cs.drop f4.offset).take (P.cellsOf f4.type))=some y4∧DataW.trod enc P w base spare held n f5.type ((cs.drop f5.offset).take (P.cellsOf f5.type))=some y5∧DataW.trod enc P w base spare held n f6.type ((cs.drop f6.offset).take (P.cellsOf f6.type))=some y6∧DataW.trod enc P w base spare held n f7.type ((cs.drop f7.offset).take (P.cellsOf f7.type))=some y7:=by
 obtain⟨xs,n,_,rfl,hl,hlen,hf⟩:=DataW.trod_struct ht h
 match xs,hlen with
 | [y0,y1,y2,y3,y4,y5,y6,y7],_=>exact⟨y0,y1,y2,y3,y4,y5,y6,y7,n,by simp,hl,by simpa using hf 0 f0 rfl,by simpa using hf 1 f1 rfl,by simpa using hf 2 f2 rfl,by simpa using hf 3 f3 rfl,by simpa using hf 4 f4 rfl,by simpa using hf 5 f5 rfl,by simpa using hf 6 f6 rfl,by simpa using hf 7 f7 rfl⟩
theorem weights_all {e:TypeId}:∀{l:List (DataW H)} {d:DataW H},d∈l->n∈d.weights P e->n∈DataW.weightsAll P e l
 | x :: l, d, h, hn => by
  simp only[DataW.weightsAll,List.mem_append];rcases List.mem_cons.1 h with rfl | h
  ·exact .inl hn
  ·exact .inr (weights_all h hn)
def act0M:ActM:=⟨0,0,0,0,⟨#[]⟩,⟨#[]⟩,none,0,0,none,0,0⟩
theorem open_actsM {enc:TypeId×Value->H}{a:Option Addr}{len cap:Nat}{d:DataW H}{p:List MemPlace}(h:DataW.Trod enc prog W 0 (λ_=>true) true 22 (.slice a len cap) d p)(hz:∀n∈d.weights prog 22,n<=reachBytes):(∃A,liesAM W a len A)∧len<=cap∧(a=none->len=0∧cap=0)∧len<=reachBytes:=by
 haveI:Inhabited ActM:=⟨act0M⟩;obtain⟨fuel,hf⟩:=h;rcases open_slice underlying22 hf with⟨hcs,hx⟩ | ⟨ad,l,c,m,n,D,Pl,hcs,_,hl,_,hm,hx,hel⟩
 ·simp[Value.cells] at hcs;obtain⟨rfl,rfl,rfl⟩:=hcs;exact⟨⟨λ_=>act0M,.inl rfl⟩,Nat.le_refl _,λ_=>⟨rfl,rfl⟩,Nat.zero_le _⟩
 ·simp[Value.cells] at hcs;obtain⟨rfl,rfl,rfl⟩:=hcs;simp only[if_true] at hm;simp only[Prod.mk.injEq] at hx;have hd:=hx.1;have hw:∀i,i<len->∀q∈(D i).weights prog 45,q<=reachBytes:=λi hi q hq=>by
   refine hz q ?_;rw[hd];simp only[DataW.weights,underlying22];exact List.mem_cons_of_mem _ (List.mem_append.2 (.inl (weights_all (List.mem_map.2 ⟨i,List.mem_range.2 hi,rfl⟩) hq)))
  have hlen0:len<=reachBytes:=by
   have:=hz ((((List.range len).map D).length+((List.range (m-len)).map λj=>D (len+j)).length)*prog.bytesOf 45) (by
    rw[hd];simp only[DataW.weights,underlying22];exact List.mem_cons_self ..)
   rw[bytesAct] at this;simp only[List.length_map,List.length_range] at this;omega
  have each:∀i,i<len->∃x:ActM,okAM x∧∀j,j<8->W.cell? (ad.add (i*8+j))=(actM x)[j]?:=by
   intro i hi;obtain⟨cs',h1,h2⟩:=hel i (by omega);rw[cellsAct] at h1;obtain⟨_,hlen,hcell⟩:=World.cells?_some h1;obtain⟨y0,y1,y2,y3,y4,y5,y6,y7,k,e8,_,g0,g1,g2,g3,g4,g5,g6,g7⟩:=trod8 underlying45 h2;rw[cIntA] at g0 g1 g2 g3;rw[cStrA] at g4 g5;rw[cIntsA] at g6;rw[cTextsA] at g7;obtain⟨x0,e0,_,_⟩:=DataW.trod_int underlying3 g0;obtain⟨x1,e1,_,w1⟩:=DataW.trod_int underlying3 g1;obtain⟨x2,e2,_,_⟩:=DataW.trod_int underlying3 g2;obtain⟨x3,e3,_,w3⟩:=DataW.trod_int underlying3 g3;obtain⟨x4,e4,d4,_⟩:=DataW.trod_string underlying9 g4;obtain⟨x5,e5,d5,_⟩:=DataW.trod_string underlying9 g5;have q:∀j,j<8->W.cell? (ad.add (i*8+j))=cs'[j]?:=λj hj=>by
    have:=hcell j (by omega);rw[add_add] at this;exact this
   obtain⟨ka,kn,kc,e6⟩:∃(ka:Option Addr) (kn kc:Nat),(cs'.drop 6).take 1=[.slice ka kn kc]:=by
    rcases open_ints underlying42 underlying3 cIntA g6 with⟨e6,hx6⟩|⟨ka,kn,kc,zs,e6,_,hkl,_,hzl,hx6,hkc,_⟩
    ·exact⟨none,0,0,e6⟩
    ·exact⟨some ka,kn,kc,e6⟩
   obtain⟨ca,cn,cc,e7⟩:∃(ca:Option Addr) (cn cc:Nat),(cs'.drop 7).take 1=[.slice ca cn cc]:=by
    rcases open_strs underlying43 underlying9 cStrA g7 with⟨e,_⟩|⟨a',l',c',_,_,e,_⟩
    ·exact⟨_,_,_,e⟩
    ·exact⟨_,_,_,e⟩
   match cs',hlen with
   | [v0, v1, v2, v3, v4, v5, v6, v7], _ =>
    simp at e0 e1 e2 e3 e4 e5 e6 e7;subst e0 e1 e2 e3 e4 e5 e6 e7;have s4:x4.size<=reachBytes:=hw i hi _ (by
     have e8':D i=_:=e8;rw[e8'];simp only[DataW.weights,underlying45];refine DataW.weights_mem_each (j:=4) (t:=9) rfl rfl _ ?_;rw[d4];simp only[DataW.weights];exact List.mem_singleton.2 (by rw[Array.length_toList];rfl))
    have s5:x5.size<=reachBytes:=hw i hi _ (by
     have e8':D i=_:=e8;rw[e8'];simp only[DataW.weights,underlying45];refine DataW.weights_mem_each (j:=5) (t:=9) rfl rfl _ ?_;rw[d5];simp only[DataW.weights];exact List.mem_singleton.2 (by rw[Array.length_toList];rfl))
    unfold reachBytes at s4 s5;exact⟨⟨x0,x1,x2,x3,x4,x5,ka,kn,kc,ca,cn,cc⟩,⟨bounds_i64 w1,bounds_i64 w3,by show x4.size<=_;omega,by show x5.size<=_;omega⟩,q⟩
  obtain⟨A,hA⟩:=choose_lt each;refine⟨⟨A,?_⟩,hl,(λe=>by cases e),hlen0⟩;by_cases h0:len=0
  ·exact .inl h0
  ·right;obtain⟨b,off,spot⟩:=ad;have h1:=(hA 0 (by omega)).2 0 (by decide);have h1':W.cell? ((⟨b,off,spot⟩:Addr).add 0)=some (.int .i64 (A 0).k):=h1;have hspot:spot=none:=by simpa[Addr.add] using World.cell?_spot h1'
   subst hspot;rw[Addr.add_lit] at h1';refine⟨b,off,rfl,cell_ltA h1',λi hi=>⟨(hA i hi).1,λj hj=>?_⟩⟩;have:=(hA i hi).2 j hj
   rwa [Addr.add_lit] at this
open Go.Joins
theorem ownTyRow:ownKnob prog.godebug=none:=by kernel_rfl
theorem laidOutTyRow:laidOutB prog=true:=by kernel_rfl
theorem liftedTyRow (os:Os)(started:os.Started)(H:Type)(enc:TypeId×Value->H):ReturnsInHanded {} Tryz.checked os 3 .any (Rows.treeMapsSpec.pre6 enc prog Tryz.f3 Rows.treeMapsRow.domain false) (Rows.treeMapsSpec.post enc prog Tryz.f3 false true false false):=by
 refine returnsInHanded_of_change_sized (C:=Tryz.checked) ownTyRow started (by kernel_rfl) func3
  (ChangeSpec.witness6 (enc:=enc) (C:=Tryz.checked) false ⟨#[],#[.slice none 0 0],[]⟩ 8 (by kernel_rfl) (by kernel_rfl) (by kernel_rfl) (by kernel_rfl)) ?_
 intro W base args ds gs before hval0 hW _ hsz0 _;have hval:∀(j:Nat) t v,Tryz.f3.params[j]?=some t->args[j]?=some v->Value.okWide prog W .any base t v:=hval0;have hW':=hW;obtain⟨p,q,hA0,hV,rfl,_,_⟩:=hW;have hA:DataW.TrodAll enc prog W 0 (λ_=>true) true Tryz.f3.params.toList args.toList ds p:=hA0;have hsz:(DataW.weightsEach prog (Tryz.f3.params.toList++Rows.treeMapsSpec.plain.varTypes prog) (ds++gs)).all (·<=reachBytes)=true:=hsz0;rw[Tryz.params3] at hA hval hsz;obtain⟨v0,vs0,d0,ds0,p0,q0,hargs,rfl,rfl,h0,r0⟩:=trodAll_cons hA;obtain⟨rfl,rfl,rfl⟩:=trodAll_nil r0;obtain rfl:args=#[v0]:=by cases args;simp_all
 obtain⟨rfl,rfl⟩:=trodVars_none hV;have lt0:∀x∈p0,x.block<W.heap.size:=by obtain⟨m,hm⟩:=h0;exact DataW.trod_lt m _ _ _ hm
 obtain⟨a0,len0,cap0,rfl⟩:=okWide_slice underlying22 (hval 0 22 v0 rfl rfl);have hz:∀n∈d0.weights prog 22,n<=reachBytes:=λn hn=>by
  have:=List.all_eq_true.1 hsz _ (DataW.weights_mem_each (j:=0) (t:=22) rfl rfl n hn);simpa using this
 obtain⟨⟨A,hl⟩,hc,ha,hn⟩:=open_actsM h0 hz;clear hA0 hval0;refine(ltreemaps a0 len0 cap0 A W hl (by unfold reachBytes at hn;omega) hc ha).mono λe W' ⟨he,bel⟩=>?_
 subst he;exact⟨_,rfl,_,_,_,[],_,[],hW',trodAll_mk1 (shut_bool underlying4 _),(trodAll_cons_mk (Below.trod laidOutTyRow (by kernel_rfl) (of_decide_eq_true (by kernel_rfl)) h0 bel lt0) trodAll_mk0),rfl,bel.frame _,λh=>by cases h⟩
theorem treeMaps_holds:Rows.TreeMapsSaid:=
 OpenClaim.holds_of_wide 3 Tryz.f3 rfl rfl rfl rfl rfl rfl rfl ⟨rfl,rfl,rfl,rfl,rfl⟩ rfl rfl rfl rfl rfl (by kernel_rfl) func3 (by kernel_rfl)
  (of_decide_eq_true (by kernel_rfl)) (by unfold Func.isWrapper;first | (rw[if_pos (by decide +kernel)];kernel_rfl) | (rw[if_neg (by decide +kernel)];exact⟨rfl,rfl⟩))
  (λos started H enc _=>liftedTyRow os started H enc)
#print axioms treeMaps_holds
end Go.Proofs.YtiaibgfhigdgdaaGreat
