/- PoolKept stands: the call of relstorekeep.PoolKept answers true for every script, every two numbers and every list of numbers, and all of them read as they did. -/
import Derived.Test.YtfjkockcgddgbaaGreatP15
import Derived.Deep.CutBlock
import Derived.ProofKit
import Derived.OpenShut
import Derived.ChangeSlices
import Derived.Deep.Slices
import Derived.Deep.Strs
import Derived.SizedLaws
import Derived.Test.YtfjkockcgddgbaaGreatRows
import Derived.Below
import Derived.Lib.SmallJoins
set_option maxRecDepth 100000
set_option maxHeartbeats 8000000
namespace Go.Proofs.YtfjkockcgddgbaaGreat
open Go.RowKit Go.Lib
variable {m b B c nn Gq pg cap:Nat}{X w v6 W:World}{F T:Pgs}{a:Option Addr}{p:List MemPlace}{H:Type}
attribute [local go_sem ↓] Go.wp_at_zero Go.wp_at_succ
structure ActK where
 k:Int
 f:Int
 a:Int
 n:Int
 s:ByteArray
 t:ByteArray
def actK (x:ActK):List Value:=[.int .i64 x.k,.int .i64 x.f,.int .i64 x.a,.int .i64 x.n,.string x.s,.string x.t]
def okK (x:ActK):Prop:=(-9223372036854775808≤x.k∧x.k≤9223372036854775807)∧(-9223372036854775808≤x.n∧x.n≤9223372036854775807)
def liesK (X:World)(sa:Option Addr)(sl:Nat)(A:Nat→ActK):Prop:=sl=0∨∃b off,sa=some ⟨b,off,none⟩∧b<X.heap.size∧∀i,i<sl→okK (A i)∧∀j,j<6→X.cell? ⟨b,off+(i*6+j),none⟩=(actK (A i))[j]?
theorem crD_ok {S:DS}(h:okS S m)(fa:Nat→Int)(n:Int)(hn:-9223372036854775808≤n∧n≤9223372036854775807):okS { crD fa S with left:=n } m:=⟨hn,h.2.1,h.2.2.1,Nat.zero_le _⟩
theorem keepI {ka:Option Addr}{kl:Nat}{fk:Nat→Int}(h:kl=0∨∃b off,ka=some ⟨b,off,none⟩∧b<X.heap.size∧∀j,j<kl→X.cell? ⟨b,off+j,none⟩=some (.int .i64 (fk j)))(hb:Below X.heap.size X w):liesI tyP w X.heap.size ka kl fk:=by
 rcases h with h|⟨b,off,h1,h2,h3⟩
 ·exact .inl h
 ·exact .inr ⟨b,off,h1,.inl h2,fun j hj=>(hb.cell (p:=⟨b,off+j,none⟩) h2).trans (h3 j hj)⟩
theorem MS.belT {w':World}{n:Nat}{F:Int→Option ByteArray}(h:MS w b n F)(hb:BelT tyP B w w'):MS w' b n F:=h.keep (hb.far b h.lt (h.far tyP))
def actO (x:ActK):Obj:=.cells #[.int .i64 x.k,.int .i64 x.f,.int .i64 x.a,.int .i64 x.n,.string x.s,.string x.t] 69
theorem act_cells {x:ActK}(h:w.heap[c]?=some (actO x)):w.cell? ⟨c,0,none⟩=some (.int .i64 x.k)∧w.cell? ⟨c,2,none⟩=some (.int .i64 x.a)∧w.cell? ⟨c,3,none⟩=some (.int .i64 x.n):=by
 refine⟨?_,?_,?_⟩<;>simp[World.cell?,h,actO]
theorem act_pack {D Gp kb nb mb:Nat}{V:PV}{C K TN TK:Pgs}{pk:Nat}{a b c:Nat×Nat}(h:LWr X w D Gp kb nb mb m V C K TN TK pk nn a b c)(v:Nat×Nat)(x:ActK):LWr X (((w.setCell ⟨mb,0,none⟩ (.int .i64 (v.1:Int))).setCell ⟨mb,1,none⟩ (.map (some v.2))).alloc (actO x)) D Gp kb nb mb m V C K TN TK pk nn a b v∧(((w.setCell ⟨mb,0,none⟩ (.int .i64 (v.1:Int))).setCell ⟨mb,1,none⟩ (.map (some v.2))).alloc (actO x)).heap[w.heap.size]?=some (actO x):=by
 have hs:(set2 w mb v).heap.size=w.heap.size:=by unfold set2;simp
 refine⟨(h.setM v).below (show Below (set2 w mb v).heap.size (set2 w mb v) ((set2 w mb v).alloc (actO x)) from((Below.refl _ _).alloc (Nat.le_refl _) _)),?_⟩;show((set2 w mb v).alloc (actO x)).heap[w.heap.size]?=_;rw[←hs];exact heap_alloc_new _ _
theorem arm_nums {p p2 n2 i:Nat}(q2:1≤n2)(qle:n2≤p)(q3:n2<p2)(q4:p2=max p (n2+1))(hpp:p≤i+1)(hi:i<250):wrap64 ((n2:Int)+1)=(n2:Int)+1∧max (p:Int) ((n2:Int)+1)=(p2:Int)∧1≤n2∧n2<p2∧p2≤i+2∧i64 (n2:Int):=
 ⟨by unfold wrap64;omega,by omega,q2,q3,by omega,i64_in (by omega) (by omega)⟩
def StF (v6:World)(B Gq:Nat)(F:Pgs)(pg:Nat)(w:World):Prop:=∃V,PO w B B Gq V F F pg 1000∧NoF V.S∧V.P.pages=pg∧Below B v6 w
theorem stF_pages (w:World)(h:StF v6 B Gq F pg w):Calls Tryz.prog 44 #[(.pointer (some ⟨Gq,0,none⟩))] w fun e w'=>e=.returned (.int .i64 (pg:Int))∧StF v6 B Gq F pg w':=by
 obtain⟨V,s1,s2,s3,s4⟩:=h;refine(cpagesP s1 s3).mono ?_;rintro e w'⟨h1,rfl⟩;exact⟨h1,V,s1,s2,s3,s4⟩
theorem stF_read {z:Nat×Nat}(r:Bool)(hz:z.2<B)(hM:MS v6 z.2 nn T)(hp:pg=z.1)(hr:r=true↔agree F T pg)(w:World)(h:StF v6 B Gq F pg w):Calls Tryz.prog 42 #[(.pointer (some ⟨Gq,0,none⟩)),.agg #[.int .i64 (z.1:Int),.map (some z.2)]] w fun e w'=>e=.returned (.bool r)∧StF v6 B Gq F pg w':=by
 obtain⟨V,s1,s2,s3,s4⟩:=h;refine(kreadN s1 (by decide) s2 (hM.keep (s4.block _ hz)) hz (s3.trans hp) r (by rw[←hp];exact hr)).mono ?_;rintro e w'⟨h1,V8,t1,t2,t3,t4⟩;exact⟨h1,V8,t1,t2,t3.trans hp.symm,s4.trans t4⟩
theorem stF_blk {o:Obj}(hc:c<B)(ho:v6.heap[c]?=some o)(w:World)(h:StF v6 B Gq F pg w):w.heap[c]?=some o:=by
 obtain⟨V,s1,s2,s3,s4⟩:=h;exact(s4.block _ hc).trans ho
def S1w (w2:World)(nn:Nat)(T:Pgs)(q:Nat)(w:World):Prop:=∃w6,Below w2.heap.size w2 w6∧q=w6.heap.size∧Below w6.heap.size w6 w∧MS w q nn T
theorem S1w.bel {w2:World}{q:Nat}(h:S1w w2 nn T q w):Below w2.heap.size w2 w:=by
 obtain⟨w6,h6,rfl,h7,-⟩:=h;exact h6.trans (h7.mono h6.size)
theorem lpoolkept (sa:Option Addr)(sl sc:Nat)(A:Nat→ActK)(fails again:Int)(ka:Option Addr)(kl kc:Nat)(fk:Nat→Int)(X:World)(hl:liesK X sa sl A)(hn:sl≤140737488355328)(hc:sl≤sc)(ha:sa=none→sl=0∧sc=0)(hfl:-9223372036854775808≤fails∧fails≤9223372036854775807)(hag:-9223372036854775808≤again∧again≤9223372036854775807)(hk:kl=0∨∃b off,ka=some ⟨b,off,none⟩∧b<X.heap.size∧∀j,j<kl→X.cell? ⟨b,off+j,none⟩=some (.int .i64 (fk j)))(hkn:kl≤140737488355328):Calls Tryz.prog 4 #[.slice sa sl sc,.int .i64 fails,.int .i64 again,.slice ka kl kc] X fun e w'=>e=.returned (.bool true)∧Below X.heap.size X w':=by
 have HL:Hid (liesK X sa sl A):=hl;have HA:Hid (sa=none→sl=0∧sc=0):=ha;have HK:Hid (kl=0∨∃b off,ka=some ⟨b,off,none⟩∧b<X.heap.size∧∀j,j<kl→X.cell? ⟨b,off+j,none⟩=some (.int .i64 (fk j))):=hk;have HG:Hid (-9223372036854775808≤again∧again≤9223372036854775807):=hag;have hmm:=@run_makeMap Tryz.prog;clear hl ha hk hag;go_enter Tryz.func4,Tryz.ntmps4;go_wp2_with fail
 refine(cnewD X).mono ?_;rintro e w1⟨rfl,hP1,hb1⟩;have HB1:=hide (hb1);have HO1:=hide (copen_first hP1 hb1.size);clear hP1 hb1;go_wp2_with fail
 refine HO1.out.mono ?_;rintro e w2⟨Gp,V,rfl,hp2,hnf2,hpg2,hfr2,hb2⟩;have HP2:=hide (hp2);have HV2:=hide (show V.P.pages=1∧V.P.free=0 from⟨hpg2,hfr2⟩);have HB2:=hide (HB1.out.trans hb2);clear hp2 hnf2 hpg2 hfr2 hb2 HO1 HB1;go_wp2_with fail
 refine(cpick fails 90 _ hfl ⟨by decide,by decide⟩).mono ?_;rintro e w9⟨rfl,hw⟩;rw[hw];clear hw;go_wp2_with fail
 refine(cfailD (pickI fails 90) w2 X.heap.size X.heap.size V.S HP2.out.pp.log.dsk).mono ?_;rintro e w3⟨rfl,hP3,hb3⟩;have hp9:=pickI_in fails (n:=90) (by decide);have HP3:=hide (HP2.out.fail ⟨hp9.1,by omega⟩ hb3 hP3);have HB3:=hide (HB2.out.trans hb3.toBelow);clear hP3 hb3 hp9 HP2 HB2
 go_upto_region 9 with fail
 go_cut [13,14] (fun x y wx=>∃(nb mb:Nat),x=(.pointer (some ⟨nb,0,none⟩))∧y=(.pointer (some ⟨mb,0,none⟩))∧Hid (LpP X wx X.heap.size Gp (w3.heap.size+1) nb mb 0))
 case first =>
  go_region
  all_goals
   go_wp2_with fail
   go_meet
   case rel =>
    first
    | exact⟨_,_,rfl,rfl,start_pack HP3.out HV2.out.1 HV2.out.2 HB3.out (.inl ⟨rfl,rfl⟩)⟩
    | exact⟨_,_,rfl,rfl,start_pack HP3.out HV2.out.1 HV2.out.2 HB3.out (.inr ⟨rfl,rfl⟩)⟩
 case rest =>
  clear HP3 HB3 HV2;obtain⟨nb,mb,rfl,rfl,HLP⟩:=hcut;generalize w3.heap.size+1=kb at *;go_wp2_with fail
  refine(kshort sa sl sc _ hn hc HA.out).mono ?_;rintro e w8⟨rfl,hw⟩;rw[hw];clear hw
  go_upto_block 0 with fail
  go_cut [15] (fun x wx=>∃r:Bool,x=.bool r∧Hid (∃S,AfL X wx X.heap.size kb mb S∧(r=true∨S.down=true)))
  case first =>
   go_wp2_with fail
   go_loopw [11,15,18,50] (fun x11 x15 _ u w=>∃(i:Nat),u=.int .i64 (i:Int)∧x11=.int .i64 0∧x15=.bool true∧i≤min sl 250∧Hid (LpP X w X.heap.size Gp kb nb mb i)) (fun _ _ _ u _=>min sl 250-(intOf u).toNat)
   case atStart=>exact⟨0,rfl,rfl,rfl,Nat.zero_le _,HLP⟩
   case round =>
    clear HLP;obtain⟨i,rfl,rfl,rfl,hin,HQ⟩:=hrel;obtain⟨V,C,K,TN,TK,pk,frk,mN,mK,hL,hfc,hfk,hpp⟩:=HQ.out;by_cases hlt:i<min sl 250
    ·have hsl:i<sl:=by omega
     have hi2:i<250:=by omega
     rcases HL.out with h0|⟨b,off,rfl,hbX,hE⟩
     ·omega
     have ki:(0:Int)≤(i:Int):=by omega
     have kn:(i:Int)<((min sl 250:Nat):Int):=by omega
     have zb:=hL.bel.size;have hbw:b<wr.heap.size:=by omega
     have g:∀j,j<6→wr.cell? ⟨b,off+(i*6+j),none⟩=(actK (A i))[j]?:=fun j hj=>(hL.bel.cell (p:=⟨b,off+(i*6+j),none⟩) hbX).trans ((hE i hsl).2 j hj)
     have d0:wr.cell? ⟨b,off+i*6,none⟩=some (.int .i64 (A i).k):=g 0 (by decide);have d1:wr.cell? ⟨b,off+i*6+1,none⟩=some (.int .i64 (A i).f):=g 1 (by decide);have d2:wr.cell? ⟨b,off+i*6+2,none⟩=some (.int .i64 (A i).a):=g 2 (by decide);have d3:wr.cell? ⟨b,off+i*6+3,none⟩=some (.int .i64 (A i).n):=g 3 (by decide);have d4:wr.cell? ⟨b,off+i*6+4,none⟩=some (.string (A i).s):=g 4 (by decide);have d5:wr.cell? ⟨b,off+i*6+5,none⟩=some (.string (A i).t):=g 5 (by decide);have OK:Hid (okK (A i)):=(hE i hsl).1;obtain⟨k0,k1,kz0,kz1,klt⟩:=sh_cells hL.sh.k;obtain⟨j0,j1,jz0,jz1,jlt⟩:=sh_cells hL.sh.m;obtain⟨hA1,hB1⟩:=act_pack hL (pk,mK) (A i)
     dsimp only[actO] at hA1 hB1
     have HA1:=hide (hA1);have HX1:=hide (hB1);have HFC:=hide (hfc);have HFK:=hide (hfk);clear g hE HL hL hfc hfk HQ hA1 hB1;generalize hAi:A i=ai at *;clear hAi;go_wp2_with fail
     generalize hW1:((wr.setCell ⟨mb,0,none⟩ (.int .i64 (pk:Int))).setCell ⟨mb,1,none⟩ (.map (some mK))).alloc (.cells #[.int .i64 ai.k,.int .i64 ai.f,.int .i64 ai.a,.int .i64 ai.n,.string ai.s,.string ai.t] 69)=w1 at *;generalize wr.heap.size=ab at *;clear hW1 d0 d1 d2 d3 d4 d5 k0 k1 kz0 kz1 klt j0 j1 jz0 jz1 jlt hbw zb hbX;refine(cpick ai.n 20 _ OK.out.2 ⟨by decide,by decide⟩).mono ?_;rintro e w7⟨rfl,hw⟩;rw[hw];clear hw;have hp20:=pickI_in ai.n (n:=20) (by decide);obtain⟨pn,hpn⟩:∃pn:Nat,pickI ai.n 20=pn:=⟨(pickI ai.n 20).toNat,by omega⟩;rw[hpn] at hp20 ⊢;have hw20:wrap64 (1+(pn:Int))=1+(pn:Int):=by unfold wrap64;omega
     obtain⟨x0,x2,x3⟩:=act_cells (x:=ai) HX1.out;go_wp2_with fail
     refine(cpick ai.k 8 _ OK.out.1 ⟨by decide,by decide⟩).mono ?_;rintro e w6⟨rfl,hw⟩;rw[hw];clear hw;have hp8:=pickI_in ai.k (n:=8) (by decide);generalize pickI ai.k 8=kk at *;clear x0 x3 hpn OK;obtain⟨n,hnn⟩:∃n:Nat,(n:Int)=1+(pn:Int):=⟨1+pn,by omega⟩;rw[←hnn];have hn1:1≤n∧n≤20:=by omega
     clear hnn hw20 hp20
     go_upto_block 2 with fail
     go_cut [11,18] (fun x _ wx=>∃ev:Int,x=.int .i64 ev∧Hid (MidP X wx X.heap.size Gp kb nb mb (i+1) ev))
     case first =>
      rcases(show kk=0∨kk=1∨kk=2∨kk=3∨kk=4∨kk=5∨kk=6∨kk=7 by omega) with rfl | rfl | rfl | rfl | rfl | rfl | rfl | rfl<;>clear hp8
      ·as_aux_lemma =>
        have HAL:=hide (kalloc HA1.out HFC.out (by omega) (by omega));go_wp2_with fail
        refine HAL.out.mono ?_;rintro e w2 (⟨n2,V2,C2,rfl,q1,q2,qle,q3,q4,q6,q5⟩ | ⟨V2,C2,rfl,q1,q2⟩)
        ·have HQ1:=hide (q1);have HQ5:=hide (q5);have HX2:=hide (show w2.heap[ab]?=some (actO ai) from q6 ab _ _ HX1.out (by decide));obtain⟨s0,s1,sz0,sz1,slt⟩:=sh_cells q1.sh.n;obtain⟨y0,y2,y3⟩:=act_cells HX2.out;have hab:ab<w2.heap.size:=(Array.getElem?_eq_some_iff.1 HX2.out).1;obtain⟨hw2,hmx,hN2⟩:=arm_nums q2 qle q3 q4 hpp hi2;have HTS:=hide (show ∀x v,TN x=some v→v.size≤1048576 from fun x v hv=>by rw[(HFC.out.tx x v hv).2.2.2];decide);have hne:¬ab=nb:=fun e=>by have h1:=HX2.out;rw[e,q1.sh.n] at h1;injection h1 with h1;injection h1 with _ h1 _;exact absurd h1 (by decide)
         have HN2:=hide (hN2);clear q1 q5 q6 q2 qle q3 q4 y0 y3 HAL hN2
         go_upto_region 21 with fail
         go_cut [18] (fun x wx=>x=.int .i64 (n2:Int)∧Hid (∃mN2,LWr X wx X.heap.size Gp kb nb mb (3*i+1+2) V2 C2 K (wth TN n2 (shB ai.a)) TK pk (i+1+1) (pk,mK) (V2.P.pages,mN2) (pk,mK))∧Hid (wx.heap[ab]?=some (actO ai)))
         case first =>
          refine r21 nb ab mN n2 V.P.pages V2.P.pages ai.a (shB ai.a) (fun w=>Below w2.heap.size w2 w) (S1w w2 (i+1+1) (wth TN n2 (shB ai.a))) ?h0 ?hn0 ?hn1 ?hS ?hW hmx hw2 (by simp) rfl rfl rfl rfl (by kernel_rfl) (by kernel_rfl) (by kernel_rfl) (by kernel_rfl) (by kernel_rfl) (by kernel_rfl) (by kernel_rfl) (by kernel_rfl) (by kernel_rfl) (by kernel_rfl) (by kernel_rfl) ?_
          case h0=>exact(Below.refl _ _).drew
          case hn0 =>
           intro w h;exact⟨(h.block nb slt).trans HQ1.out.sh.n,(act_cells ((h.block ab hab).trans HX2.out)).2.1⟩
          case hn1 =>
           intro q w h1;have h:=h1.bel;exact⟨(h.block nb slt).trans HQ1.out.sh.n,(act_cells ((h.block ab hab).trans HX2.out)).2.1⟩
          case hS =>
           intro w h;refine(csheet ai.a w).mono ?_;rintro e w'⟨h1,h2⟩;exact⟨h1,h.trans (h2.mono h.size)⟩
          case hW =>
           intro w h;refine(cwith mN (i+1) TN n2 (shB ai.a) w (HQ1.out.below h).tn (by omega) HN2.out.2.2.2 (by rw[shB_size];decide) HTS.out).mono ?_;rintro e w'⟨h1,h2,h3⟩;exact⟨_,h1,w,h,rfl,h3,h2⟩
          intro u72 u73 u74 u75 u76 u77 u78 u79 u80 u81 u82 u83 u84 q w7 hS1;simp only[sets,List.setIfInBounds_toArray,List.set_cons_zero,List.set_cons_succ];have HR1:=hide (show(∃mN2,LWr X (set2 w7 nb (V2.P.pages,q)) X.heap.size Gp kb nb mb (3*i+1+2) V2 C2 K (wth TN n2 (shB ai.a)) TK pk (i+1+1) (pk,mK) (V2.P.pages,mN2) (pk,mK))∧(set2 w7 nb (V2.P.pages,q)).heap[ab]?=some (actO ai) by
           have hb:=hS1.bel;obtain⟨w6,h6,rfl,h7,hM⟩:=hS1;exact⟨⟨_,HQ1.out.with2 h6 h7 hM V2.P.pages⟩,other_blk (set2_grown w7 nb (V2.P.pages,w6.heap.size)) ((hb.block ab hab).trans HX2.out) hne⟩)
          clear hS1 HQ1 HX2 s0 s1 sz0 sz1 slt y2 hmx hw2;generalize set2 w7 nb (V2.P.pages,q)=w8 at *;go_wp2_with fail
          go_meet
          case rel=>exact⟨rfl,HR1.out.1,HR1.out.2⟩
         case rest =>
          obtain⟨rfl,HLW,HX3⟩:=hcut;obtain⟨mN2,hLW⟩:=HLW.out;have HQ3:=hide (hLW);obtain⟨y0,y2',y3⟩:=act_cells HX3.out;clear hLW HLW HQ1 y0 y3 s0 s1 sz0 sz1 slt hw2 hmx y2;go_wp2_with fail
          refine(csheet ai.a _).mono ?_;rintro e w9⟨rfl,hb9⟩;have hQ9:=HQ3.out.below hb9;have hN2:=HN2.out;have HU:=hide (kwrite hQ9 (by omega) n2 hN2.1 hN2.2.1 (shB ai.a) (shB_size _));clear hb9 hQ9 hN2;go_wp2_with fail
          refine HU.out.mono ?_;rintro e w10 (⟨V4,rfl,r1,r2,r3⟩ | ⟨V4,rfl,r1,r2⟩)
          ·have HR:=hide (show LpP X w10 X.heap.size Gp kb nb mb (i+1) from⟨V4,_,K,_,TK,pk,frk,mN2,mK,by rw[r2];exact r1,by rw[r2,r3];exact HQ5.out _ (shB_size _),HFK.out,by rw[r2];exact HN2.out.2.2.1⟩);clear r1 r2 r3 HU;go_wp2_with fail
           go_meet
           case rel=>exact⟨0,rfl,.inl ⟨rfl,HR.out⟩⟩
          ·have HR:=hide (show AfL X w10 X.heap.size kb mb V4.S∧V4.S.down=true from⟨r2.after HFK.out (by omega),r1⟩);clear r1 r2 HU;go_wp2_with fail
           go_meet
           case rel=>exact⟨2,rfl,.inr ⟨rfl,V4.S,HR.out⟩⟩
        ·have HR:=hide (show AfL X w2 X.heap.size kb mb V2.S∧V2.S.down=true from⟨q2.after HFK.out (by omega),q1⟩);clear q1 q2 HAL;go_wp2_with fail
         go_meet
         case rel=>exact⟨2,rfl,.inr ⟨rfl,V2.S,HR.out⟩⟩
      ·as_aux_lemma =>
        have HAL:=hide (kalloc HA1.out HFC.out (by omega) (by omega));go_wp2_with fail
        refine HAL.out.mono ?_;rintro e w2 (⟨n2,V2,C2,rfl,q1,q2,qle,q3,q4,q6,q5⟩ | ⟨V2,C2,rfl,q1,q2⟩)
        ·have HQ1:=hide (q1);have HQ5:=hide (q5);have HX2:=hide (show w2.heap[ab]?=some (actO ai) from q6 ab _ _ HX1.out (by decide));obtain⟨s0,s1,sz0,sz1,slt⟩:=sh_cells q1.sh.n;obtain⟨y0,y2,y3⟩:=act_cells HX2.out;have hab:ab<w2.heap.size:=(Array.getElem?_eq_some_iff.1 HX2.out).1;obtain⟨hw2,hmx,hN2⟩:=arm_nums q2 qle q3 q4 hpp hi2;have HTS:=hide (show ∀x v,TN x=some v→v.size≤1048576 from fun x v hv=>by rw[(HFC.out.tx x v hv).2.2.2];decide);have hne:¬ab=nb:=fun e=>by have h1:=HX2.out;rw[e,q1.sh.n] at h1;injection h1 with h1;injection h1 with _ h1 _;exact absurd h1 (by decide)
         have HN2:=hide (hN2);clear q1 q5 q6 q2 qle q3 q4 y0 y3 HAL hN2
         go_upto_region 21 with fail
         go_cut [18] (fun x wx=>x=.int .i64 (n2:Int)∧Hid (∃mN2,LWr X wx X.heap.size Gp kb nb mb (3*i+1+2) V2 C2 K (wth TN n2 (shB ai.a)) TK pk (i+1+1) (pk,mK) (V2.P.pages,mN2) (pk,mK))∧Hid (wx.heap[ab]?=some (actO ai)))
         case first =>
          refine r21 nb ab mN n2 V.P.pages V2.P.pages ai.a (shB ai.a) (fun w=>Below w2.heap.size w2 w) (S1w w2 (i+1+1) (wth TN n2 (shB ai.a))) ?h0 ?hn0 ?hn1 ?hS ?hW hmx hw2 (by simp) rfl rfl rfl rfl (by kernel_rfl) (by kernel_rfl) (by kernel_rfl) (by kernel_rfl) (by kernel_rfl) (by kernel_rfl) (by kernel_rfl) (by kernel_rfl) (by kernel_rfl) (by kernel_rfl) (by kernel_rfl) ?_
          case h0=>exact(Below.refl _ _).drew
          case hn0 =>
           intro w h;exact⟨(h.block nb slt).trans HQ1.out.sh.n,(act_cells ((h.block ab hab).trans HX2.out)).2.1⟩
          case hn1 =>
           intro q w h1;have h:=h1.bel;exact⟨(h.block nb slt).trans HQ1.out.sh.n,(act_cells ((h.block ab hab).trans HX2.out)).2.1⟩
          case hS =>
           intro w h;refine(csheet ai.a w).mono ?_;rintro e w'⟨h1,h2⟩;exact⟨h1,h.trans (h2.mono h.size)⟩
          case hW =>
           intro w h;refine(cwith mN (i+1) TN n2 (shB ai.a) w (HQ1.out.below h).tn (by omega) HN2.out.2.2.2 (by rw[shB_size];decide) HTS.out).mono ?_;rintro e w'⟨h1,h2,h3⟩;exact⟨_,h1,w,h,rfl,h3,h2⟩
          intro u72 u73 u74 u75 u76 u77 u78 u79 u80 u81 u82 u83 u84 q w7 hS1;simp only[sets,List.setIfInBounds_toArray,List.set_cons_zero,List.set_cons_succ];have HR1:=hide (show(∃mN2,LWr X (set2 w7 nb (V2.P.pages,q)) X.heap.size Gp kb nb mb (3*i+1+2) V2 C2 K (wth TN n2 (shB ai.a)) TK pk (i+1+1) (pk,mK) (V2.P.pages,mN2) (pk,mK))∧(set2 w7 nb (V2.P.pages,q)).heap[ab]?=some (actO ai) by
           have hb:=hS1.bel;obtain⟨w6,h6,rfl,h7,hM⟩:=hS1;exact⟨⟨_,HQ1.out.with2 h6 h7 hM V2.P.pages⟩,other_blk (set2_grown w7 nb (V2.P.pages,w6.heap.size)) ((hb.block ab hab).trans HX2.out) hne⟩)
          clear hS1 HQ1 HX2 s0 s1 sz0 sz1 slt y2 hmx hw2;generalize set2 w7 nb (V2.P.pages,q)=w8 at *;go_wp2_with fail
          go_meet
          case rel=>exact⟨rfl,HR1.out.1,HR1.out.2⟩
         case rest =>
          obtain⟨rfl,HLW,HX3⟩:=hcut;obtain⟨mN2,hLW⟩:=HLW.out;have HQ3:=hide (hLW);obtain⟨y0,y2',y3⟩:=act_cells HX3.out;clear hLW HLW HQ1 y0 y3 s0 s1 sz0 sz1 slt hw2 hmx y2;go_wp2_with fail
          refine(csheet ai.a _).mono ?_;rintro e w9⟨rfl,hb9⟩;have hQ9:=HQ3.out.below hb9;have hN2:=HN2.out;have HU:=hide (kwrite hQ9 (by omega) n2 hN2.1 hN2.2.1 (shB ai.a) (shB_size _));clear hb9 hQ9 hN2;go_wp2_with fail
          refine HU.out.mono ?_;rintro e w10 (⟨V4,rfl,r1,r2,r3⟩ | ⟨V4,rfl,r1,r2⟩)
          ·have HR:=hide (show LpP X w10 X.heap.size Gp kb nb mb (i+1) from⟨V4,_,K,_,TK,pk,frk,mN2,mK,by rw[r2];exact r1,by rw[r2,r3];exact HQ5.out _ (shB_size _),HFK.out,by rw[r2];exact HN2.out.2.2.1⟩);clear r1 r2 r3 HU;go_wp2_with fail
           go_meet
           case rel=>exact⟨0,rfl,.inl ⟨rfl,HR.out⟩⟩
          ·have HR:=hide (show AfL X w10 X.heap.size kb mb V4.S∧V4.S.down=true from⟨r2.after HFK.out (by omega),r1⟩);clear r1 r2 HU;go_wp2_with fail
           go_meet
           case rel=>exact⟨2,rfl,.inr ⟨rfl,V4.S,HR.out⟩⟩
        ·have HR:=hide (show AfL X w2 X.heap.size kb mb V2.S∧V2.S.down=true from⟨q2.after HFK.out (by omega),q1⟩);clear q1 q2 HAL;go_wp2_with fail
         go_meet
         case rel=>exact⟨2,rfl,.inr ⟨rfl,V2.S,HR.out⟩⟩
      ·as_aux_lemma =>
        have hn64:i64 (n:Int):=i64_in (by omega) (by omega);have hlk:=HA1.out.tn.look hn64;obtain⟨s0,s1,sz0,sz1,slt⟩:=sh_cells HA1.out.sh.n;cases hT:TN (n:Int) with
        | none =>
         simp only[hT,Option.getD_none,Option.isSome_none] at hlk;have HR:=hide (show LpP X w1 X.heap.size Gp kb nb mb (i+1) from⟨V,C,K,TN,TK,pk,frk,mN,mK,HA1.out.up (by omega) (by omega),HFC.out,HFK.out,by omega⟩);clear hT;go_wp2_with fail
         go_meet
         case rel=>exact⟨0,rfl,.inl ⟨rfl,HR.out⟩⟩
        | some u =>
         simp only[hT,Option.getD_some,Option.isSome_some] at hlk;have HT:=hide (hT);clear hT;obtain⟨y0,y2,y3⟩:=act_cells HX1.out;have hab:ab<w1.heap.size:=(Array.getElem?_eq_some_iff.1 HX1.out).1;have HTS:=hide (show ∀x v,TN x=some v→v.size≤1048576 from fun x v hv=>by rw[(HFC.out.tx x v hv).2.2.2];decide);have hne:¬ab=nb:=fun e=>by have h1:=HX1.out;rw[e,HA1.out.sh.n] at h1;injection h1 with h1;injection h1 with _ h1 _;exact absurd h1 (by decide)
         have HN2:=hide (hn64);clear y0 y3 hn64
         go_upto_region 28 with fail
         go_cut [18] (fun x wx=>x=.int .i64 (n:Int)∧Hid (∃mN2,LWr X wx X.heap.size Gp kb nb mb (3*i+1) V C K (wth TN n (shB ai.a)) TK pk (i+1+1) (pk,mK) (V.P.pages,mN2) (pk,mK))∧Hid (wx.heap[ab]?=some (actO ai)))
         case first =>
          go_region_with (first | (go_at_call 36;refine(csheet ai.a _).mono ?_;rintro e w6⟨rfl,hb6⟩;obtain⟨hc6,hf6⟩:=bcell hb6;obtain⟨p0,p1,pz0,pz1,plt⟩:=sh_cells (HA1.out.below (undrewB hb6)).sh.n) | (go_at_call 35;refine(cwith mN (i+1) TN n (shB ai.a) _ ((HA1.out.below (undrewB hb6)).tn) (by omega) HN2.out (by rw[shB_size];decide) HTS.out).mono ?_;rintro e w7⟨rfl,hM7,hb7⟩;obtain⟨hc7,hf7⟩:=bcell hb7;obtain⟨v0,v1,vz0,vz1,vlt⟩:=sh_cells ((HA1.out.below (undrewB hb6)).below hb7).sh.n))
          all_goals
           go_wp2_with fail
           go_meet
           case rel=>exact⟨rfl,⟨_,HA1.out.with1 (undrewB hb6) hb7 hM7 (Nat.le_refl _)⟩,other_blk (set_grown w7 nb 1 (.map (some w6.heap.size))) ((hb7.block ab (Nat.lt_of_lt_of_le hab (undrewB hb6).size)).trans (((undrewB hb6).block ab hab).trans HX1.out)) hne⟩
         case rest =>
          obtain⟨rfl,HLW,HX3⟩:=hcut;obtain⟨mN2,hLW⟩:=HLW.out;have HQ3:=hide (hLW);obtain⟨y0,y2',y3⟩:=act_cells HX3.out;clear hLW HLW HA1 y0 y3 s0 s1 sz0 sz1 slt y2 hlk;go_wp2_with fail
          refine(csheet ai.a _).mono ?_;rintro e w9⟨rfl,hb9⟩;have hQ9:=HQ3.out.below hb9;have htx:=HFC.out.tx n u HT.out;have HU:=hide (kwrite hQ9 (by omega) n hn1.1 (by omega) (shB ai.a) (shB_size _));clear hb9 hQ9 htx;go_wp2_with fail
          refine HU.out.mono ?_;rintro e w10 (⟨V4,rfl,r1,r2,r3⟩ | ⟨V4,rfl,r1,r2⟩)
          ·have HR:=hide (show LpP X w10 X.heap.size Gp kb nb mb (i+1) from⟨V4,_,K,_,TK,pk,frk,mN2,mK,by rw[r2];exact r1.up (by omega) (by omega),by rw[r2,r3];exact HFC.out.write HT.out (shB_size _),HFK.out,by rw[r2];omega⟩);clear r1 r2 r3 HU;go_wp2_with fail
           go_meet
           case rel=>exact⟨0,rfl,.inl ⟨rfl,HR.out⟩⟩
          ·have HR:=hide (show AfL X w10 X.heap.size kb mb V4.S∧V4.S.down=true from⟨r2.after HFK.out (by omega),r1⟩);clear r1 r2 HU;go_wp2_with fail
           go_meet
           case rel=>exact⟨2,rfl,.inr ⟨rfl,V4.S,HR.out⟩⟩
      ·as_aux_lemma =>
        have hn64:i64 (n:Int):=i64_in (by omega) (by omega);have hlk:=HA1.out.tn.look hn64;obtain⟨s0,s1,sz0,sz1,slt⟩:=sh_cells HA1.out.sh.n;cases hT:TN (n:Int) with
        | none =>
         simp only[hT,Option.getD_none,Option.isSome_none] at hlk;have HR:=hide (show LpP X w1 X.heap.size Gp kb nb mb (i+1) from⟨V,C,K,TN,TK,pk,frk,mN,mK,HA1.out.up (by omega) (by omega),HFC.out,HFK.out,by omega⟩);clear hT;go_wp2_with fail
         go_meet
         case rel=>exact⟨0,rfl,.inl ⟨rfl,HR.out⟩⟩
        | some u =>
         simp only[hT,Option.getD_some,Option.isSome_some] at hlk;have HT:=hide (hT);clear hT;obtain⟨y0,y2,y3⟩:=act_cells HX1.out;have hab:ab<w1.heap.size:=(Array.getElem?_eq_some_iff.1 HX1.out).1;have HTS:=hide (show ∀x v,TN x=some v→v.size≤1048576 from fun x v hv=>by rw[(HFC.out.tx x v hv).2.2.2];decide);have hne:¬ab=nb:=fun e=>by have h1:=HX1.out;rw[e,HA1.out.sh.n] at h1;injection h1 with h1;injection h1 with _ h1 _;exact absurd h1 (by decide)
         have HN2:=hide (hn64);clear y0 y3 hn64
         go_upto_region 28 with fail
         go_cut [18] (fun x wx=>x=.int .i64 (n:Int)∧Hid (∃mN2,LWr X wx X.heap.size Gp kb nb mb (3*i+1) V C K (wth TN n (shB ai.a)) TK pk (i+1+1) (pk,mK) (V.P.pages,mN2) (pk,mK))∧Hid (wx.heap[ab]?=some (actO ai)))
         case first =>
          go_region_with (first | (go_at_call 36;refine(csheet ai.a _).mono ?_;rintro e w6⟨rfl,hb6⟩;obtain⟨hc6,hf6⟩:=bcell hb6;obtain⟨p0,p1,pz0,pz1,plt⟩:=sh_cells (HA1.out.below (undrewB hb6)).sh.n) | (go_at_call 35;refine(cwith mN (i+1) TN n (shB ai.a) _ ((HA1.out.below (undrewB hb6)).tn) (by omega) HN2.out (by rw[shB_size];decide) HTS.out).mono ?_;rintro e w7⟨rfl,hM7,hb7⟩;obtain⟨hc7,hf7⟩:=bcell hb7;obtain⟨v0,v1,vz0,vz1,vlt⟩:=sh_cells ((HA1.out.below (undrewB hb6)).below hb7).sh.n))
          all_goals
           go_wp2_with fail
           go_meet
           case rel=>exact⟨rfl,⟨_,HA1.out.with1 (undrewB hb6) hb7 hM7 (Nat.le_refl _)⟩,other_blk (set_grown w7 nb 1 (.map (some w6.heap.size))) ((hb7.block ab (Nat.lt_of_lt_of_le hab (undrewB hb6).size)).trans (((undrewB hb6).block ab hab).trans HX1.out)) hne⟩
         case rest =>
          obtain⟨rfl,HLW,HX3⟩:=hcut;obtain⟨mN2,hLW⟩:=HLW.out;have HQ3:=hide (hLW);obtain⟨y0,y2',y3⟩:=act_cells HX3.out;clear hLW HLW HA1 y0 y3 s0 s1 sz0 sz1 slt y2 hlk;go_wp2_with fail
          refine(csheet ai.a _).mono ?_;rintro e w9⟨rfl,hb9⟩;have hQ9:=HQ3.out.below hb9;have htx:=HFC.out.tx n u HT.out;have HU:=hide (kwrite hQ9 (by omega) n hn1.1 (by omega) (shB ai.a) (shB_size _));clear hb9 hQ9 htx;go_wp2_with fail
          refine HU.out.mono ?_;rintro e w10 (⟨V4,rfl,r1,r2,r3⟩ | ⟨V4,rfl,r1,r2⟩)
          ·have HR:=hide (show LpP X w10 X.heap.size Gp kb nb mb (i+1) from⟨V4,_,K,_,TK,pk,frk,mN2,mK,by rw[r2];exact r1.up (by omega) (by omega),by rw[r2,r3];exact HFC.out.write HT.out (shB_size _),HFK.out,by rw[r2];omega⟩);clear r1 r2 r3 HU;go_wp2_with fail
           go_meet
           case rel=>exact⟨0,rfl,.inl ⟨rfl,HR.out⟩⟩
          ·have HR:=hide (show AfL X w10 X.heap.size kb mb V4.S∧V4.S.down=true from⟨r2.after HFK.out (by omega),r1⟩);clear r1 r2 HU;go_wp2_with fail
           go_meet
           case rel=>exact⟨2,rfl,.inr ⟨rfl,V4.S,HR.out⟩⟩
      ·as_aux_lemma =>
        have hn64:i64 (n:Int):=i64_in (by omega) (by omega);have hlk:=HA1.out.tn.look hn64;obtain⟨s0,s1,sz0,sz1,slt⟩:=sh_cells HA1.out.sh.n;cases hT:TN (n:Int) with
        | none =>
         simp only[hT,Option.getD_none,Option.isSome_none] at hlk;have HR:=hide (show LpP X w1 X.heap.size Gp kb nb mb (i+1) from⟨V,C,K,TN,TK,pk,frk,mN,mK,HA1.out.up (by omega) (by omega),HFC.out,HFK.out,by omega⟩);clear hT;go_wp2_with fail
         go_meet
         case rel=>exact⟨0,rfl,.inl ⟨rfl,HR.out⟩⟩
        | some u =>
         simp only[hT,Option.getD_some,Option.isSome_some] at hlk;have HT:=hide (hT);clear hT;obtain⟨y0,y2,y3⟩:=act_cells HX1.out;have hab:ab<w1.heap.size:=(Array.getElem?_eq_some_iff.1 HX1.out).1;have HTS:=hide (show ∀x v,TN x=some v→v.size≤1048576 from fun x v hv=>by rw[(HFC.out.tx x v hv).2.2.2];decide);have hne:¬ab=nb:=fun e=>by have h1:=HX1.out;rw[e,HA1.out.sh.n] at h1;injection h1 with h1;injection h1 with _ h1 _;exact absurd h1 (by decide)
         have HN2:=hide (hn64);clear y0 y3 hn64
         go_upto_region 28 with fail
         go_cut [18] (fun x wx=>x=.int .i64 (n:Int)∧Hid (∃mN2,LWr X wx X.heap.size Gp kb nb mb (3*i+1) V C K (wth TN n (shB ai.a)) TK pk (i+1+1) (pk,mK) (V.P.pages,mN2) (pk,mK))∧Hid (wx.heap[ab]?=some (actO ai)))
         case first =>
          go_region_with (first | (go_at_call 36;refine(csheet ai.a _).mono ?_;rintro e w6⟨rfl,hb6⟩;obtain⟨hc6,hf6⟩:=bcell hb6;obtain⟨p0,p1,pz0,pz1,plt⟩:=sh_cells (HA1.out.below (undrewB hb6)).sh.n) | (go_at_call 35;refine(cwith mN (i+1) TN n (shB ai.a) _ ((HA1.out.below (undrewB hb6)).tn) (by omega) HN2.out (by rw[shB_size];decide) HTS.out).mono ?_;rintro e w7⟨rfl,hM7,hb7⟩;obtain⟨hc7,hf7⟩:=bcell hb7;obtain⟨v0,v1,vz0,vz1,vlt⟩:=sh_cells ((HA1.out.below (undrewB hb6)).below hb7).sh.n))
          all_goals
           go_wp2_with fail
           go_meet
           case rel=>exact⟨rfl,⟨_,HA1.out.with1 (undrewB hb6) hb7 hM7 (Nat.le_refl _)⟩,other_blk (set_grown w7 nb 1 (.map (some w6.heap.size))) ((hb7.block ab (Nat.lt_of_lt_of_le hab (undrewB hb6).size)).trans (((undrewB hb6).block ab hab).trans HX1.out)) hne⟩
         case rest =>
          obtain⟨rfl,HLW,HX3⟩:=hcut;obtain⟨mN2,hLW⟩:=HLW.out;have HQ3:=hide (hLW);obtain⟨y0,y2',y3⟩:=act_cells HX3.out;clear hLW HLW HA1 y0 y3 s0 s1 sz0 sz1 slt y2 hlk;go_wp2_with fail
          refine(csheet ai.a _).mono ?_;rintro e w9⟨rfl,hb9⟩;have hQ9:=HQ3.out.below hb9;have htx:=HFC.out.tx n u HT.out;have HU:=hide (kwrite hQ9 (by omega) n hn1.1 (by omega) (shB ai.a) (shB_size _));clear hb9 hQ9 htx;go_wp2_with fail
          refine HU.out.mono ?_;rintro e w10 (⟨V4,rfl,r1,r2,r3⟩ | ⟨V4,rfl,r1,r2⟩)
          ·have HR:=hide (show LpP X w10 X.heap.size Gp kb nb mb (i+1) from⟨V4,_,K,_,TK,pk,frk,mN2,mK,by rw[r2];exact r1.up (by omega) (by omega),by rw[r2,r3];exact HFC.out.write HT.out (shB_size _),HFK.out,by rw[r2];omega⟩);clear r1 r2 r3 HU;go_wp2_with fail
           go_meet
           case rel=>exact⟨0,rfl,.inl ⟨rfl,HR.out⟩⟩
          ·have HR:=hide (show AfL X w10 X.heap.size kb mb V4.S∧V4.S.down=true from⟨r2.after HFK.out (by omega),r1⟩);clear r1 r2 HU;go_wp2_with fail
           go_meet
           case rel=>exact⟨2,rfl,.inr ⟨rfl,V4.S,HR.out⟩⟩
      ·as_aux_lemma =>
        have hn64:i64 (n:Int):=i64_in (by omega) (by omega);have hlk:=HA1.out.tn.look hn64;obtain⟨s0,s1,sz0,sz1,slt⟩:=sh_cells HA1.out.sh.n;cases hT:TN (n:Int) with
        | none =>
         simp only[hT,Option.getD_none,Option.isSome_none] at hlk;have HR:=hide (show LpP X w1 X.heap.size Gp kb nb mb (i+1) from⟨V,C,K,TN,TK,pk,frk,mN,mK,HA1.out.up (by omega) (by omega),HFC.out,HFK.out,by omega⟩);clear hT;go_wp2_with fail
         go_meet
         case rel=>exact⟨0,rfl,.inl ⟨rfl,HR.out⟩⟩
        | some u =>
         simp only[hT,Option.getD_some,Option.isSome_some] at hlk;have HT:=hide (hT);clear hT;have HTS:=hide (show ∀x v,TN x=some v→v.size≤1048576 from fun x v hv=>by rw[(HFC.out.tx x v hv).2.2.2];decide);have HWO:=hide (cwithoutK mN (i+1) TN (n:Int) w1 HA1.out.tn (by omega) HTS.out);clear hn64;go_wp2_with fail
         refine HWO.out.mono ?_;rintro e w7⟨rfl,hM7,hb7⟩;have hL7:=HA1.out.with1 (Below.refl _ _) hb7 hM7 (by omega);have HL7:=hide (hL7);obtain⟨t0,t1,tz0,tz1,tlt⟩:=sh_cells (HA1.out.below hb7).sh.n;have htx:=HFC.out.tx n u HT.out;have HU:=hide (fun(W:World) (hW:LWr X W X.heap.size Gp kb nb mb (3*i+1) V C K (wout TN n) TK pk (i+1+1) (pk,mK) (V.P.pages,w1.heap.size) (pk,mK))=>kfree hW HFC.out (by omega) n hn1.1 (by omega));clear hL7 hM7 hb7 htx HWO s0 s1 sz0 sz1 slt hlk HTS;go_wp2_with fail
         refine(HU.out _ ?hPO).mono ?_
         case hPO=>exact HL7.out
         rintro e w10 (⟨V4,rfl,r1,r2,r3⟩|⟨V4,C4,rfl,r1,r2⟩)
         ·have HR:=hide (show LpP X w10 X.heap.size Gp kb nb mb (i+1) from⟨V4,_,K,_,TK,pk,frk,w1.heap.size,mK,by rw[r2];exact r1.up (by omega) (by omega),by rw[r2,r3];exact HFC.out.free HT.out,HFK.out,by rw[r2];omega⟩);clear r1 r2 r3 HU;go_wp2_with fail
          go_meet
          case rel=>exact⟨0,rfl,.inl ⟨rfl,HR.out⟩⟩
         ·have HR:=hide (show AfL X w10 X.heap.size kb mb V4.S∧V4.S.down=true from⟨r2.after HFK.out (by omega),r1⟩);clear r1 r2 HU;go_wp2_with fail
          go_meet
          case rel=>exact⟨2,rfl,.inr ⟨rfl,V4.S,HR.out⟩⟩
      ·as_aux_lemma =>
        obtain⟨s0,s1,sz0,sz1,slt⟩:=sh_cells HA1.out.sh.n;obtain⟨u0,u1,uz0,uz1,ult⟩:=sh_cells HA1.out.sh.m;have HL2:=hide (HA1.out.setM (V.P.pages,mN));have HU:=hide (fun(W:World) (hW:LWr X W X.heap.size Gp kb nb mb (3*i+1) V C K TN TK pk (i+1) (pk,mK) (V.P.pages,mN) (V.P.pages,mN))=>(kcommitP hW (by omega)).mono (fun e w' hr=>(show(∃V' K',e=.returned (.int .i64 0)∧LWr X w' X.heap.size Gp kb nb mb (3*i+1+1) V' C K' TN TK V.P.pages (i+1) (pk,mK) (V.P.pages,mN) (V.P.pages,mN)∧V'.P.pages=V.P.pages∧V'.P.free=V.P.free∧FL K' V.P.pages V.P.free TN)∨(∃S',e=.returned (.int .i64 2)∧AfL X w' X.heap.size kb mb S'∧S'.down=true) from by
         rcases hr with⟨V',K',k1,k2,k3,k4,k5⟩|⟨S',k1,k2⟩
         ·exact .inl ⟨V',K',k1,k2,k3,k4,HFC.out.congr (by have:=hW.po.pi.pg;omega) k5⟩
         ·exact .inr ⟨S',k1,hW.lost HFK.out HFC.out k2,k2.down⟩)))
        go_wp2_with fail
        refine(HU.out _ ?hPO).mono ?_
        case hPO=>exact HL2.out
        rintro e w2 (⟨V2,K2,rfl,q1,q2,q3,q4⟩|⟨S2,rfl,q1,q2⟩)
        ·obtain⟨a0,a1,az0,az1,alt⟩:=sh_cells q1.sh.k;obtain⟨b0,b1,bz0,bz1,blt⟩:=sh_cells q1.sh.n;have hR:=q1.setK;have HR:=hide (show LpP X (set2 w2 kb (V.P.pages,mN)) X.heap.size Gp kb nb mb (i+1) from⟨V2,C,K2,TN,TN,V.P.pages,V.P.free,mN,mN,by rw[q2];exact hR.up (by omega) (by omega),by rw[q2,q3];exact HFC.out,q4,by rw[q2];omega⟩);clear q1 q2 q3 q4 hR HU s0 s1 sz0 sz1 slt u0 u1 uz0 uz1 ult;go_wp2_with fail
         go_meet
         case rel=>exact⟨0,rfl,.inl ⟨rfl,HR.out⟩⟩
        ·have HR:=hide (show AfL X w2 X.heap.size kb mb S2∧S2.down=true from⟨q1,q2⟩);clear q1 q2 HU;go_wp2_with fail
         go_meet
         case rel=>exact⟨2,rfl,.inr ⟨rfl,S2,HR.out⟩⟩
      ·as_aux_lemma =>
        have HU:=hide (krollback HA1.out HFK.out (by omega));go_wp2_with fail
        refine HU.out.mono ?_;rintro e w2⟨V2,q1,q2,(⟨rfl,q3⟩ | ⟨rfl,q3⟩)⟩
        ·obtain⟨a0,a1,az0,az1,alt⟩:=sh_cells q1.sh.k;obtain⟨b0,b1,bz0,bz1,blt⟩:=sh_cells q1.sh.n;have hR:=q1.setN (pk,mK) q1.tk q1.dk;have HR:=hide (show LpP X (set2 w2 nb (pk,mK)) X.heap.size Gp kb nb mb (i+1) from⟨V2,K,K,TK,TK,pk,frk,mK,mK,by rw[q2];exact hR.up (by omega) (by omega),by rw[q2,q3];exact HFK.out,HFK.out,by have:=q1.po.pi.pg;have:=HA1.out.po.pi.pg;omega⟩);clear q1 q2 q3 hR HU;go_wp2_with fail
         go_meet
         case rel=>exact⟨0,rfl,.inl ⟨rfl,HR.out⟩⟩
        ·obtain⟨a0,a1,az0,az1,alt⟩:=sh_cells q1.sh.k;obtain⟨b0,b1,bz0,bz1,blt⟩:=sh_cells q1.sh.n;have hR:=q1.setN (pk,mK) q1.tk q1.dk;have HR:=hide (show AfL X (set2 w2 nb (pk,mK)) X.heap.size kb mb V2.S∧V2.S.down=true from⟨hR.after HFK.out (by omega),q3⟩);clear q1 q2 q3 hR HU;go_wp2_with fail
         go_meet
         case rel=>exact⟨2,rfl,.inr ⟨rfl,V2.S,HR.out⟩⟩
     case rest =>
      clear HA1 HX1 HFC HFK hp8 hn1 hpp;obtain⟨ev,rfl,HM⟩:=hcut
      as_aux_lemma =>
      rcases HM.out with⟨rfl,hLp⟩|⟨rfl,S,hAf,hdn⟩
      ·obtain⟨V,C,K,TN,TK,pk,frk,mN,mK,hL,hfc,hfk,hpp⟩:=hLp;have HL8:=hide (hL);have HFC:=hide (hfc);have HFK:=hide (hfk);have HRD:=hide (kread hL.po (by omega) hL.tn hL.dn);obtain⟨s0,s1,sz0,sz1,slt⟩:=sh_cells hL.sh.n;clear hL hfc hfk HM;go_wp2_with fail
       refine HRD.out.mono ?_;rintro e w8 hpost;unfold readPost at hpost;obtain⟨V8,r,rfl,p1,p2,p3,p4,p5,p6⟩:=hpost;have HS8:=hide (HL8.out.step p2 p1);have HK8:=hide (show V8.P.pages=V.P.pages∧V8.P.free=V.P.free∧(r=false→V8.S.down=true) from⟨p3,p4,p5 (HFC.out.agree _)⟩);clear p1 p2 p3 p4 p5 p6 HRD s0 s1 sz0 sz1 slt;cases r with
       | false =>
        have HR:=hide (show AfL X w8 X.heap.size kb mb V8.S∧V8.S.down=true from⟨HS8.out.after HFK.out (by omega),HK8.out.2.2 rfl⟩);clear HS8 HK8 HL8;go_wp2_with fail
        go_meet
        case rel=>exact⟨false,rfl,⟨V8.S,HR.out.1,.inr HR.out.2⟩⟩
       | true =>
        obtain⟨a0,a1,az0,az1,alt⟩:=sh_cells HS8.out.sh.k;obtain⟨b0,b1,bz0,bz1,blt⟩:=sh_cells HS8.out.sh.m;have hR:=HS8.out.setM (pk,mK);have HR:=hide (show LpP X (set2 w8 mb (pk,mK)) X.heap.size Gp kb nb mb (i+1) from⟨V8,C,K,TN,TK,pk,frk,mN,mK,by rw[HK8.out.1];exact hR,by rw[HK8.out.1,HK8.out.2.1];exact HFC.out,HFK.out,by rw[HK8.out.1];exact hpp⟩);clear hR HS8 HK8 HL8;go_wp2_with fail
        go_roundw
        case rel=>exact⟨i+1,by go_num,rfl,rfl,by omega,HR⟩
        case measure=>simp[intOf];omega
      ·have HR:=hide (show AfL X wc X.heap.size kb mb S∧S.down=true from⟨hAf,hdn⟩);clear hAf hdn HM;go_wp2_with fail
       go_meet
       case rel=>exact⟨false,rfl,⟨S,HR.out.1,.inr HR.out.2⟩⟩
    ·obtain rfl:i=min sl 250:=by omega
     have HR:=hide (hL.after hfk (by omega));clear hL hfc hfk HQ;go_wp2_with fail
     go_meet
     case rel=>exact⟨true,rfl,⟨V.S,HR.out,.inl rfl⟩⟩
  case rest =>
   clear HLP HL HA;obtain⟨r,rfl,HAf⟩:=hcut;obtain⟨S,hAf,hr⟩:=HAf.out;obtain⟨K,M,TK,TM,frk,frm,nn,a,c,h1,h2,h3,h4,h5,h6,h7,h8⟩:=hAf;have HDS:=hide (h1);have HOK:=hide (h2);have HCR:=hide (h3);have HFK:=hide (h4);have HFM:=hide (h5);have HSH:=hide (h6);have HMS:=hide (h7);have HB:=hide (h8);have HRR:=hide (hr);clear HAf h1 h2 h3 h4 h5 h6 h7 h8 hr
   go_upto_region 47 with fail
   go_cut [165] (fun x wx=>x=.bool false∧wc=wx)
   case first =>
    cases r with
    | true =>
     go_wp2_with fail
     go_meet
     case rel=>exact⟨rfl,rfl⟩
    | false =>
     have hdn:S.down=true:=HRR.out.resolve_left (fun k=>by cases k);go_wp2_with fail
     refine(cdownD _ X.heap.size X.heap.size S HDS.out).mono ?_;rw[hdn];rintro e w8⟨rfl,hw⟩;rw[hw];clear hw;go_wp2_with fail
     go_meet
     case rel=>exact⟨rfl,rfl⟩
   case rest =>
    obtain⟨rfl,rfl⟩:=hcut;obtain⟨c0,F,frF,TF,hG,hc0,hFF,hFL⟩:∃c0 F frF TF,GoodS (crD (fateI kl fk) S) F c0∧c0.frames≤1000∧((c0.pages=a.1∧TF=TK)∨(c0.pages=c.1∧TF=TM))∧FL F c0.pages frF TF∧kdP F c0.pages∧1≤c0.pages∧c0.pages≤59000:=by
     rcases HCR.out (fateI kl fk) with⟨c0,⟨e1,e2⟩,g⟩|⟨c0,⟨e1,e2⟩,g⟩
     ·exact⟨c0,K,frk,TK,g,e2,.inl ⟨e1,rfl⟩,by rw[e1];exact HFK.out⟩
     ·exact⟨c0,M,frm,TM,g,e2,.inr ⟨e1,rfl⟩,by rw[e1];exact HFM.out⟩
    have HG1:=hide (hG);have HC0:=hide (hc0);have HFF:=hide (hFF);have HFL:=hide (hFL);clear hG hc0 hFF hFL HCR HRR HFK HFM;go_wp2_with fail
    refine(ccrashD ka kl kc fk wc X.heap.size X.heap.size 100000 S HDS.out HB.out.size HOK.out (by decide) hkn (keepI HK.out HB.out)).mono ?_;rintro e v1⟨rfl,hP1,hb1⟩;have HP1:=hide (hP1);have HB1:=hide (HB.out.trans hb1.toBelow);have HM1:=hide (show MS v1 a.2 nn TK∧MS v1 c.2 nn TM from⟨HMS.out.1.belT hb1,HMS.out.2.belT hb1⟩);have HS1:=hide (show v1.heap[kb]?=some (.cells (shC a) 66 (0,0))∧v1.heap[mb]?=some (.cells (shC c) 66 (0,0)) from⟨(hb1.far _ (Array.getElem?_eq_some_iff.1 HSH.out.1).1 (far_of HSH.out.1 (by decide))).trans HSH.out.1,(hb1.far _ (Array.getElem?_eq_some_iff.1 HSH.out.2).1 (far_of HSH.out.2 (by decide))).trans HSH.out.2⟩);clear hP1 hb1 HB HMS HSH HDS;go_wp2_with fail
    refine(cpick again 8 _ HG.out ⟨by decide,by decide⟩).mono ?_;rintro e w8⟨rfl,hw⟩;rw[hw];clear hw;go_wp2_with fail
    refine(cfailD (pickI again 8) v1 X.heap.size X.heap.size _ HP1.out).mono ?_;rintro e v2⟨rfl,hP2,hb2⟩;have hp8:=pickI_in again (n:=8) (by decide);have HP2:=hide (hP2);have HB2:=hide (HB1.out.trans hb2.toBelow);have HM2:=hide (show MS v2 a.2 nn TK∧MS v2 c.2 nn TM from⟨HM1.out.1.belT hb2,HM1.out.2.belT hb2⟩);have HS2:=hide (show v2.heap[kb]?=some (.cells (shC a) 66 (0,0))∧v2.heap[mb]?=some (.cells (shC c) 66 (0,0)) from⟨(hb2.far _ (Array.getElem?_eq_some_iff.1 HS1.out.1).1 (far_of HS1.out.1 (by decide))).trans HS1.out.1,(hb2.far _ (Array.getElem?_eq_some_iff.1 HS1.out.2).1 (far_of HS1.out.2 (by decide))).trans HS1.out.2⟩);have HO2:=hide (show okS { crD (fateI kl fk) S with left:=pickI again 8 } 100000 from crD_ok HOK.out _ _ ⟨by omega,by omega⟩);have hfl2:=HFL.out;have HOP:=hide (copen_again (m:=30000) HP2.out HB2.out.size (show GoodS { ({ crD (fateI kl fk) S with left:=pickI again 8 }:DS) with left:=-1 } F c0 from HG1.out) rfl (by have:=HC0.out;omega) (by decide) HO2.out (by decide) hfl2.2.2 hfl2.2.1 (hfl2.1.small hfl2.2.2.2) hfl2.1.zero);clear hP2 hb2 HB1 HM1 HS1 HP1 HOK hp8 hfl2;go_wp2_with fail
    refine HOP.out.mono ?_;rintro e v3⟨G3,V3,rfl,hp3,hv3,-,-,hb3⟩;have HP3:=hide (show PDs v3 X.heap.size X.heap.size { crD (fateI kl fk) S with left:=pickI again 8 } by rw[←hv3];exact hp3.pp.log.dsk);have HB3:=hide (HB2.out.trans (hb3.mono HB2.out.size));have HM3:=hide (show MS v3 a.2 nn TK∧MS v3 c.2 nn TM from⟨HM2.out.1.keep (hb3.block _ HM2.out.1.lt),HM2.out.2.keep (hb3.block _ HM2.out.2.lt)⟩);have HS3:=hide (show v3.heap[kb]?=some (.cells (shC a) 66 (0,0))∧v3.heap[mb]?=some (.cells (shC c) 66 (0,0)) from⟨(hb3.block _ (Array.getElem?_eq_some_iff.1 HS2.out.1).1).trans HS2.out.1,(hb3.block _ (Array.getElem?_eq_some_iff.1 HS2.out.2).1).trans HS2.out.2⟩);clear hp3 hv3 hb3 HB2 HM2 HS2 HP2 HOP;go_wp2_with fail
    refine(ccrashD ka kl kc fk v3 X.heap.size X.heap.size 100000 _ HP3.out HB3.out.size HO2.out (by decide) hkn (keepI HK.out HB3.out)).mono ?_;rintro e v4⟨rfl,hP4,hb4⟩;have hG2:GoodS (crD (fateI kl fk) { crD (fateI kl fk) S with left:=pickI again 8 }) F c0:=HG1.out.again rfl rfl _;obtain⟨S4,hS4⟩:∃S4,S4=crD (fateI kl fk) { crD (fateI kl fk) S with left:=pickI again 8 }:=⟨_,rfl⟩;rw[←hS4] at hP4 hG2;have HG2:=hide (hG2);have HP4:=hide (hP4);have HB4:=hide (HB3.out.trans hb4.toBelow);have HM4:=hide (show MS v4 a.2 nn TK∧MS v4 c.2 nn TM from⟨HM3.out.1.belT hb4,HM3.out.2.belT hb4⟩);have HS4:=hide (show v4.heap[kb]?=some (.cells (shC a) 66 (0,0))∧v4.heap[mb]?=some (.cells (shC c) 66 (0,0)) from⟨(hb4.far _ (Array.getElem?_eq_some_iff.1 HS3.out.1).1 (far_of HS3.out.1 (by decide))).trans HS3.out.1,(hb4.far _ (Array.getElem?_eq_some_iff.1 HS3.out.2).1 (far_of HS3.out.2 (by decide))).trans HS3.out.2⟩);clear hP4 hb4 HB3 HM3 HS3 HP3 HO2 HG1 hG2 hS4;have HN4:=hide (HP4.out.len);go_wp2_with fail
    refine(cmoved v4 X.heap.size X.heap.size S4 HP4.out HG2.out.down).mono ?_;rintro e v5⟨rfl,hP5,hb5⟩;have hmv:=HG2.out.moved HN4.out;have hmo:=(mv_ok S4 HN4.out 2 (Nat.le_refl _)).ok;have hfl5:=HFL.out;have HOP:=hide (copen_again (m:=1000) hP5 hb5.size (show GoodS { mv S4 2 with left:=-1 } F c0 by
     have e:({ mv S4 2 with left:=-1 }:DS)=mv S4 2:=by rw[←hmv.2.1]
     rw[e];exact hmv.1) hmv.2.2 HC0.out (by decide) hmo (by decide) hfl5.2.2 hfl5.2.1 (hfl5.1.small hfl5.2.2.2) hfl5.1.zero)
    have HNF:=hide (hmv.2);have HB5:=hide (HB4.out.trans (hb5.mono HB4.out.size));have HV5:=hide (show Below v4.heap.size v4 v5 from hb5);have HX4:=hide (show X.heap.size≤v4.heap.size from HB4.out.size);clear hP5 hb5 HP4 hmv hmo hfl5 HB4;go_wp2_with fail
    refine HOP.out.mono ?_;rintro e v6⟨Gq,V6,rfl,hp6,hv6,hpg6,-,hb6⟩;have HV6:=hide (show Below v4.heap.size v4 v6 from HV5.out.trans (hb6.mono HV5.out.size));have HB6:=hide (HB5.out.trans (hb6.mono HB5.out.size));have HP6:=hide (hp6);have HN6:=hide (show NoF V6.S by rw[hv6];exact HNF.out);have HG6:=hide (hpg6);clear hp6 hv6 hpg6 hb6 HOP HB5 HV5 HNF HG2 HN4;have hkl:kb<v4.heap.size:=(Array.getElem?_eq_some_iff.1 HS4.out.1).1;have hml:mb<v4.heap.size:=(Array.getElem?_eq_some_iff.1 HS4.out.2).1;have HLT:=hide (show kb<v4.heap.size∧mb<v4.heap.size∧a.2<v4.heap.size∧c.2<v4.heap.size from⟨hkl,hml,HM4.out.1.lt,HM4.out.2.lt⟩);have HS6:=hide (show v6.heap[kb]?=some (.cells (shC a) 66 (0,0))∧v6.heap[mb]?=some (.cells (shC c) 66 (0,0)) from⟨(HV6.out.block _ hkl).trans HS4.out.1,(HV6.out.block _ hml).trans HS4.out.2⟩);have HM6:=hide (show MS v6 a.2 nn TK∧MS v6 c.2 nn TM from⟨HM4.out.1.keep (HV6.out.block _ HM4.out.1.lt),HM4.out.2.keep (HV6.out.block _ HM4.out.2.lt)⟩);have H0:=hide (show StF v6 v4.heap.size Gq F c0.pages v6.drew from⟨V6,(HP6.out.below ((Below.refl _ _).drew)).1,HN6.out,HG6.out,(Below.refl _ _).drew⟩);clear HS4 HM4 HV6 HK HG hkl hml;go_wp2_with fail
    by_cases hA:c0.pages=a.1∧agree F TK c0.pages
    ·refine r57A Gq kb mb c0.pages a c (StF v6 v4.heap.size Gq F c0.pages) H0.out (stF_blk HLT.out.1 HS6.out.1) (stF_blk HLT.out.2.1 HS6.out.2) (by rw[hA.1]) stF_pages (stF_read true HLT.out.2.2.1 HM6.out.1 hA.1 ⟨fun _=>hA.2,fun _=>rfl⟩) (by simp) rfl rfl rfl rfl rfl (by kernel_rfl) (by kernel_rfl) (by kernel_rfl) (by kernel_rfl) (by kernel_rfl) (by kernel_rfl) (by kernel_rfl) (by kernel_rfl) (by kernel_rfl) (by kernel_rfl) (by kernel_rfl) (by kernel_rfl) (by kernel_rfl) (by kernel_rfl) (by kernel_rfl) (by kernel_rfl) (by kernel_rfl) (by kernel_rfl) (by kernel_rfl) (by kernel_rfl) (by kernel_rfl) (by kernel_rfl) (by kernel_rfl) (by kernel_rfl) (by kernel_rfl) (by kernel_rfl) (by kernel_rfl) (by kernel_rfl) (by kernel_rfl) (by kernel_rfl) (by kernel_rfl) (by kernel_rfl) ?_;intro u187 u188 u189 u190 u191 u192 u193 u194 u195 u196 u197 u198 u199 u200 u201 u202 u203 u204 u205 u206 u207 u208 u209 u210 u211 u212 u213 u214 u215 u216 w7 hS7;simp only[sets,List.setIfInBounds_toArray,List.set_cons_zero,List.set_cons_succ];have HB7:=hide (show Below X.heap.size X w7 by
      obtain⟨V7,s1,s2,s3,s4⟩:=hS7;exact HB6.out.trans (s4.mono HX4.out))
     clear hS7 H0;go_wp2_with fail
     go_ret;exact⟨rfl,HB7.out⟩
    ·obtain⟨hc1,hag⟩:c0.pages=c.1∧agree F TM c0.pages:=by
      rcases HFF.out with⟨e1,rfl⟩|⟨e1,rfl⟩
      ·exact absurd ⟨e1,HFL.out.1.agree _⟩ hA
      ·exact⟨e1,HFL.out.1.agree _⟩
     by_cases hB:c0.pages=a.1
     ·refine r57C Gq kb mb c0.pages a c (StF v6 v4.heap.size Gq F c0.pages) H0.out (stF_blk HLT.out.1 HS6.out.1) (stF_blk HLT.out.2.1 HS6.out.2) (by rw[hB]) (by rw[hc1]) stF_pages (stF_read false HLT.out.2.2.1 HM6.out.1 hB ⟨fun k=>(by cases k),fun k=>absurd ⟨hB,k⟩ hA⟩) (stF_read true HLT.out.2.2.2 HM6.out.2 hc1 ⟨fun _=>hag,fun _=>rfl⟩) (by simp) rfl rfl rfl rfl rfl (by kernel_rfl) (by kernel_rfl) (by kernel_rfl) (by kernel_rfl) (by kernel_rfl) (by kernel_rfl) (by kernel_rfl) (by kernel_rfl) (by kernel_rfl) (by kernel_rfl) (by kernel_rfl) (by kernel_rfl) (by kernel_rfl) (by kernel_rfl) (by kernel_rfl) (by kernel_rfl) (by kernel_rfl) (by kernel_rfl) (by kernel_rfl) (by kernel_rfl) (by kernel_rfl) (by kernel_rfl) (by kernel_rfl) (by kernel_rfl) (by kernel_rfl) (by kernel_rfl) (by kernel_rfl) (by kernel_rfl) (by kernel_rfl) (by kernel_rfl) (by kernel_rfl) (by kernel_rfl) ?_;intro u187 u188 u189 u190 u191 u192 u193 u194 u195 u196 u197 u198 u199 u200 u201 u202 u203 u204 u205 u206 u207 u208 u209 u210 u211 u212 u213 u214 u215 u216 w7 hS7;simp only[sets,List.setIfInBounds_toArray,List.set_cons_zero,List.set_cons_succ];have HB7:=hide (show Below X.heap.size X w7 by
       obtain⟨V7,s1,s2,s3,s4⟩:=hS7;exact HB6.out.trans (s4.mono HX4.out))
      clear hS7 H0;go_wp2_with fail
      go_ret;exact⟨rfl,HB7.out⟩
     ·refine r57B Gq kb mb c0.pages a c (StF v6 v4.heap.size Gq F c0.pages) H0.out (stF_blk HLT.out.1 HS6.out.1) (stF_blk HLT.out.2.1 HS6.out.2) (fun k=>hB (by omega)) (by rw[hc1]) stF_pages (stF_read true HLT.out.2.2.2 HM6.out.2 hc1 ⟨fun _=>hag,fun _=>rfl⟩) (by simp) rfl rfl rfl rfl rfl (by kernel_rfl) (by kernel_rfl) (by kernel_rfl) (by kernel_rfl) (by kernel_rfl) (by kernel_rfl) (by kernel_rfl) (by kernel_rfl) (by kernel_rfl) (by kernel_rfl) (by kernel_rfl) (by kernel_rfl) (by kernel_rfl) (by kernel_rfl) (by kernel_rfl) (by kernel_rfl) (by kernel_rfl) (by kernel_rfl) (by kernel_rfl) (by kernel_rfl) (by kernel_rfl) (by kernel_rfl) (by kernel_rfl) (by kernel_rfl) (by kernel_rfl) (by kernel_rfl) (by kernel_rfl) (by kernel_rfl) (by kernel_rfl) (by kernel_rfl) (by kernel_rfl) (by kernel_rfl) ?_;intro u187 u188 u189 u190 u191 u192 u193 u194 u195 u196 u197 u198 u199 u200 u201 u202 u203 u204 u205 u206 u207 u208 u209 u210 u211 u212 u213 u214 u215 u216 w7 hS7;simp only[sets,List.setIfInBounds_toArray,List.set_cons_zero,List.set_cons_succ];have HB7:=hide (show Below X.heap.size X w7 by
       obtain⟨V7,s1,s2,s3,s4⟩:=hS7;exact HB6.out.trans (s4.mono HX4.out))
      clear hS7 H0;go_wp2_with fail
      go_ret;exact⟨rfl,HB7.out⟩
open Go.ChangeShapes Go.WideShapes Go.ChangeAt Go.Deep
theorem cellsK:Tryz.prog.cellsOf 69=6:=by kernel_rfl
theorem bytesK:Tryz.prog.bytesOf 69=64:=by kernel_rfl
theorem bytesIntK:Tryz.prog.bytesOf 3=8:=by kernel_rfl
theorem cIntK:Tryz.prog.cellsOf 3=1:=by kernel_rfl
theorem cStrK:Tryz.prog.cellsOf 9=1:=by kernel_rfl
theorem cell_ltA {o:Nat}{v:Value}(h:W.cell? ⟨b,o,none⟩=some v):b<W.heap.size:=by
 rcases Nat.lt_or_ge b W.heap.size with h'|h'
 ·exact h'
 ·simp[World.cell?,Array.getElem?_eq_none h'] at h
theorem trod6 {enc:TypeId×Value→H}{P:Program}{base:Nat}{spare:Nat→Bool}{held:Bool}{t:TypeId}{f0 f1 f2 f3 f4 f5:Field}{fuel:Nat}{cs:List Value}{x:DataW H×List MemPlace}(ht:P.underlying t=some (.struct #[f0,f1,f2,f3,f4,f5]))(h:DataW.trod enc P w base spare held fuel t cs=some x):∃y0 y1 y2 y3 y4 y5 n,x.1=.agg [y0.1,y1.1,y2.1,y3.1,y4.1,y5.1]∧cs.length=P.cellsOf t∧DataW.trod enc P w base spare held n f0.type ((cs.drop f0.offset).take (P.cellsOf f0.type))=some y0∧DataW.trod enc P w base spare held n f1.type ((cs.drop f1.offset).take (P.cellsOf f1.type))=some y1∧DataW.trod enc P w base spare held n f2.type ((cs.drop f2.offset).take (P.cellsOf f2.type))=some y2∧DataW.trod enc P w base spare held n f3.type ((cs.drop f3.offset).take (P.cellsOf f3.type))=some y3∧DataW.trod enc P w base spare held n f4.type ((cs.drop f4.offset).take (P.cellsOf f4.type))=some y4∧DataW.trod enc P w base spare held n f5.type ((cs.drop f5.offset).take (P.cellsOf f5.type))=some y5:=by
 obtain⟨xs,n,_,rfl,hl,hlen,hf⟩:=DataW.trod_struct ht h
 match xs,hlen with
 | [y0,y1,y2,y3,y4,y5],_=>exact⟨y0,y1,y2,y3,y4,y5,n,by simp,hl,by simpa using hf 0 f0 rfl,by simpa using hf 1 f1 rfl,by simpa using hf 2 f2 rfl,by simpa using hf 3 f3 rfl,by simpa using hf 4 f4 rfl,by simpa using hf 5 f5 rfl⟩
def act0K:ActK:=⟨0,0,0,0,⟨#[]⟩,⟨#[]⟩⟩
theorem open_actsK {enc:TypeId×Value→H}{len:Nat}{d:DataW H}(h:DataW.Trod enc Tryz.prog W 0 (fun _=>true) true 59 (.slice a len cap) d p)(hz:∀n∈d.weights Tryz.prog 59,n≤reachBytes):(∃A,liesK W a len A)∧len≤cap∧(a=none→len=0∧cap=0)∧len≤reachBytes:=by
 haveI:Inhabited ActK:=⟨act0K⟩;obtain⟨fuel,hf⟩:=h;rcases open_slice Tryz.underlying59 hf with⟨hcs,hx⟩ | ⟨ad,l,c,m,n,D,Pl,hcs,_,hl,_,hm,hx,hel⟩
 ·simp[Value.cells] at hcs;obtain⟨rfl,rfl,rfl⟩:=hcs;exact⟨⟨fun _=>act0K,.inl rfl⟩,Nat.le_refl _,fun _=>⟨rfl,rfl⟩,Nat.zero_le _⟩
 ·simp[Value.cells] at hcs;obtain⟨rfl,rfl,rfl⟩:=hcs;simp only[if_true] at hm;simp only[Prod.mk.injEq] at hx;have hd:=hx.1;have hlen0:len≤reachBytes:=by
   have:=hz ((((List.range len).map D).length+((List.range (m-len)).map fun j=>D (len+j)).length)*Tryz.prog.bytesOf 69) (by
    rw[hd];simp only[DataW.weights,Tryz.underlying59];exact List.mem_cons_self ..)
   rw[bytesK] at this;simp only[List.length_map,List.length_range] at this;omega
  have each:∀i,i<len→∃x:ActK,okK x∧∀j,j<6→W.cell? (ad.add (i*6+j))=(actK x)[j]?:=by
   intro i hi;obtain⟨cs',h1,h2⟩:=hel i (by omega);rw[cellsK] at h1;obtain⟨_,hlen,hcell⟩:=World.cells?_some h1;obtain⟨y0,y1,y2,y3,y4,y5,k,e8,_,g0,g1,g2,g3,g4,g5⟩:=trod6 Tryz.underlying69 h2;rw[cIntK] at g0 g1 g2 g3;rw[cStrK] at g4 g5;obtain⟨x0,e0,_,w0⟩:=DataW.trod_int Tryz.underlying3 g0;obtain⟨x1,e1,_,_⟩:=DataW.trod_int Tryz.underlying3 g1;obtain⟨x2,e2,_,_⟩:=DataW.trod_int Tryz.underlying3 g2;obtain⟨x3,e3,_,w3⟩:=DataW.trod_int Tryz.underlying3 g3;obtain⟨x4,e4,_,_⟩:=DataW.trod_string Tryz.underlying9 g4;obtain⟨x5,e5,_,_⟩:=DataW.trod_string Tryz.underlying9 g5;have q:∀j,j<6→W.cell? (ad.add (i*6+j))=cs'[j]?:=fun j hj=>by
    have:=hcell j (by omega);rw[add_add] at this;exact this
   match cs',hlen with
   | [v0, v1, v2, v3, v4, v5], _ =>
    simp at e0 e1 e2 e3 e4 e5;subst e0 e1 e2 e3 e4 e5;exact⟨⟨x0,x1,x2,x3,x4,x5⟩,⟨bounds_i64 w0,bounds_i64 w3⟩,q⟩
  obtain⟨A,hA⟩:=choose_lt each;refine⟨⟨A,?_⟩,hl,(fun e=>by cases e),hlen0⟩;by_cases h0:len=0
  ·exact .inl h0
  ·right;obtain⟨b,off,spot⟩:=ad;have h1:=(hA 0 (by omega)).2 0 (by decide);have h1':W.cell? ((⟨b,off,spot⟩:Addr).add 0)=some (.int .i64 (A 0).k):=h1;have hspot:spot=none:=by simpa[Addr.add] using World.cell?_spot h1'
   subst hspot;rw[Addr.add_lit] at h1';refine⟨b,off,rfl,cell_ltA h1',fun i hi=>⟨(hA i hi).1,fun j hj=>?_⟩⟩;have:=(hA i hi).2 j hj
   rwa [Addr.add_lit] at this
theorem open_keep {enc:TypeId×Value→H}{len:Nat}{d:DataW H}(h:DataW.Trod enc Tryz.prog W 0 (fun _=>true) true 36 (.slice a len cap) d p)(hz:∀n∈d.weights Tryz.prog 36,n≤reachBytes):(∃fk:Nat→Int,len=0∨∃b off,a=some ⟨b,off,none⟩∧b<W.heap.size∧∀j,j<len→W.cell? ⟨b,off+j,none⟩=some (.int .i64 (fk j)))∧len≤140737488355328:=by
 obtain⟨fuel,hf⟩:=h;rcases open_ints Tryz.underlying36 Tryz.underlying3 cIntK hf with⟨e6,hx6⟩|⟨ka,kn,kc,zs,e6,_,hkl,_,hzl,hx6,hkc,_⟩
 ·simp[Value.cells] at e6;obtain⟨rfl,rfl,rfl⟩:=e6;exact⟨⟨fun _=>0,.inl rfl⟩,by omega⟩
 ·simp[Value.cells] at e6;obtain⟨rfl,rfl,rfl⟩:=e6;simp only[if_true] at hzl;refine⟨⟨fun j=>zs.getD j 0,?_⟩,?_⟩
  ·by_cases h0:len=0
   ·exact .inl h0
   ·obtain⟨b,off,spot⟩:=ka;have h1:=hkc 0 (by omega);have hspot:spot=none:=by simpa[Addr.add] using World.cell?_spot h1
    subst hspot;rw[Addr.add_lit] at h1;exact .inr ⟨b,off,rfl,cell_ltA h1,fun j hj=>by
     have:=hkc j (by omega)
     rwa [Addr.add_lit] at this⟩
  ·have:=hz (((lits .i64 (zs.take len):List (DataW H)).length+(lits .i64 (zs.drop len):List (DataW H)).length)*Tryz.prog.bytesOf 3) (by
    simp only[Prod.mk.injEq] at hx6;rw[hx6.1];simp only[DataW.weights,Tryz.underlying36];exact List.mem_cons_self ..)
   rw[bytesIntK] at this;simp[lits] at this;unfold reachBytes at this;omega
open Go.Joins
theorem ownPoRow:ownKnob Tryz.prog.godebug=none:=by kernel_rfl
theorem laidOutPoRow:laidOutB Tryz.prog=true:=by kernel_rfl
theorem liftedPoRow (os:Os)(started:os.Started)(H:Type)(enc:TypeId×Value→H):ReturnsInHanded {} Tryz.checked os 4 .any (Rows.poolKeptSpec.pre6 enc Tryz.prog Tryz.f4 Rows.poolKeptRow.domain false) (Rows.poolKeptSpec.post enc Tryz.prog Tryz.f4 false true false false):=by
 refine returnsInHanded_of_change_sized (C:=Tryz.checked) ownPoRow started (by kernel_rfl) Tryz.func4
  (ChangeSpec.witness6 (enc:=enc) (C:=Tryz.checked) false ⟨#[],#[.slice none 0 0,.int .i64 0,.int .i64 0,.slice none 0 0],[]⟩ 8 (by kernel_rfl) (by kernel_rfl) (by kernel_rfl) (by kernel_rfl)) ?_
 intro W base args ds gs before hval0 hW _ hsz0 _;have hval:∀(j:Nat) t v,Tryz.f4.params[j]?=some t→args[j]?=some v→Value.okWide Tryz.prog W .any base t v:=hval0;have hW':=hW;obtain⟨p,q,hA0,hV,rfl,_,_⟩:=hW;have hA:DataW.TrodAll enc Tryz.prog W 0 (fun _=>true) true Tryz.f4.params.toList args.toList ds p:=hA0;have hsz:(DataW.weightsEach Tryz.prog (Tryz.f4.params.toList++Rows.poolKeptSpec.plain.varTypes Tryz.prog) (ds++gs)).all (·≤reachBytes)=true:=hsz0;rw[Tryz.params4] at hA hval hsz;obtain⟨v0,vs0,d0,ds0,p0,q0,hargs,rfl,rfl,h0,r0⟩:=trodAll_cons hA;obtain⟨v1,vs1,d1,ds1,p1,q1,rfl,rfl,rfl,h1,r1⟩:=trodAll_cons r0;obtain⟨v2,vs2,d2,ds2,p2,q2,rfl,rfl,rfl,h2,r2⟩:=trodAll_cons r1;obtain⟨v3,vs3,d3,ds3,p3,q3,rfl,rfl,rfl,h3,r3⟩:=trodAll_cons r2;obtain⟨rfl,rfl,rfl⟩:=trodAll_nil r3;obtain rfl:args=#[v0,v1,v2,v3]:=by cases args;simp_all
 obtain⟨rfl,rfl⟩:=trodVars_none hV;have lt0:∀x∈p0,x.block<W.heap.size:=by obtain⟨m,hm⟩:=h0;exact DataW.trod_lt m _ _ _ hm
 have lt1:∀x∈p1,x.block<W.heap.size:=by obtain⟨m,hm⟩:=h1;exact DataW.trod_lt m _ _ _ hm
 have lt2:∀x∈p2,x.block<W.heap.size:=by obtain⟨m,hm⟩:=h2;exact DataW.trod_lt m _ _ _ hm
 have lt3:∀x∈p3,x.block<W.heap.size:=by obtain⟨m,hm⟩:=h3;exact DataW.trod_lt m _ _ _ hm
 obtain⟨a0,len0,cap0,rfl⟩:=okWide_slice Tryz.underlying59 (hval 0 59 v0 rfl rfl);obtain⟨x1,rfl,wx1⟩:∃x,v1=.int .i64 x∧(Lit.int .i64 x).wf=true:=by
  obtain⟨x,rfl,-,-,wx⟩:=open_int Tryz.underlying3 (hval 1 3 v1 rfl rfl) h1;exact⟨x,rfl,wx⟩
 obtain⟨x2,rfl,wx2⟩:∃x,v2=.int .i64 x∧(Lit.int .i64 x).wf=true:=by
  obtain⟨x,rfl,-,-,wx⟩:=open_int Tryz.underlying3 (hval 2 3 v2 rfl rfl) h2;exact⟨x,rfl,wx⟩
 obtain⟨a3,len3,cap3,rfl⟩:=okWide_slice Tryz.underlying36 (hval 3 36 v3 rfl rfl);have hz:∀n∈d0.weights Tryz.prog 59,n≤reachBytes:=fun n hn=>by
  have:=List.all_eq_true.1 hsz _ (DataW.weights_mem_each (j:=0) (t:=59) rfl rfl n hn);simpa using this
 have hz3:∀n∈d3.weights Tryz.prog 36,n≤reachBytes:=fun n hn=>by
  have:=List.all_eq_true.1 hsz _ (DataW.weights_mem_each (j:=3) (t:=36) rfl rfl n hn);simpa using this
 obtain⟨⟨A,hl⟩,hc,ha,hn⟩:=open_actsK h0 hz;obtain⟨⟨fk,hk⟩,hkn⟩:=open_keep h3 hz3;clear hA0 hval0;refine(lpoolkept a0 len0 cap0 A x1 x2 a3 len3 cap3 fk W hl (by unfold reachBytes at hn;omega) hc ha (bounds_i64 wx1) (bounds_i64 wx2) hk hkn).mono fun e W' ⟨he,bel⟩=>?_
 subst he;exact⟨_,rfl,_,_,_,[],_,[],hW',trodAll_mk1 (shut_bool Tryz.underlying4 _),(trodAll_cons_mk (Below.trod laidOutPoRow (by kernel_rfl) (of_decide_eq_true (by kernel_rfl)) h0 bel lt0) (trodAll_cons_mk (Below.trod laidOutPoRow (by kernel_rfl) (of_decide_eq_true (by kernel_rfl)) h1 bel lt1) (trodAll_cons_mk (Below.trod laidOutPoRow (by kernel_rfl) (of_decide_eq_true (by kernel_rfl)) h2 bel lt2) (trodAll_cons_mk (Below.trod laidOutPoRow (by kernel_rfl) (of_decide_eq_true (by kernel_rfl)) h3 bel lt3) trodAll_mk0)))),rfl,bel.frame _,fun h=>by cases h⟩
theorem poolKept_holds:Rows.PoolKeptSaid:=
 OpenClaim.holds_of_wide 4 Tryz.f4 rfl rfl rfl rfl rfl rfl rfl ⟨rfl,rfl,rfl,rfl,rfl⟩ rfl rfl rfl rfl rfl (by kernel_rfl) Tryz.func4 (by kernel_rfl)
  (of_decide_eq_true (by kernel_rfl)) (by unfold Func.isWrapper;first | (rw[if_pos (by decide +kernel)];kernel_rfl) | (rw[if_neg (by decide +kernel)];exact⟨rfl,rfl⟩))
  (fun os started H enc _=>liftedPoRow os started H enc)
#print axioms poolKept_holds
end Go.Proofs.YtfjkockcgddgbaaGreat
