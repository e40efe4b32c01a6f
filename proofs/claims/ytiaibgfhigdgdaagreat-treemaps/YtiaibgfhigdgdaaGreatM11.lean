/- a part -/
import Derived.Test.YtiaibgfhigdgdaaGreatM10
import Derived.Test.YtiaibgfhigdgdaaGreatM6
set_option maxRecDepth 100000
set_option maxHeartbeats 8000000
namespace Go.Proofs.YtiaibgfhigdgdaaGreat
open Tryz
open Go.RowKit Go.Lib Go.Maps Go.Sort Go.Shelf
variable {X Y w W:World}{B D Gp r n pk m fr G bp bf bF bC most pages free j d num:Nat}{b k a c lo hi ka kb:ByteArray}{P:PS}{L:LS}{S:DS}{left:Lit->Bool}{V:PV}{C K F:Pgs}{α:Type}{fl os:List Nat}
attribute [local go_sem ↓] Go.wp_at_zero Go.wp_at_succ
section
variable {b:Bk}
theorem PP.iter (h:PP X B D Gp b P L S)(hg:X.grownBy Y (some r))(h1:∀cs t f,¬X.heap[r]?=some (.cells cs t f))(h2:∀es k,¬X.heap[r]?=some (.map es k)):PP Y B D Gp b P L S:=by
 obtain⟨k1,k2,k3,k4,k5,k6,k7,k8⟩:=h.kinds;have nC:∀{c:Nat} {t:TypeId},isC X c t->¬c=r:=λhc e=>by obtain⟨cs,hc⟩:=hc;subst e;exact h1 _ _ _ hc
 have nM:∀{c:Nat},isM X c->¬c=r:=λhc e=>by obtain⟨es,q,hc⟩:=hc;subst e;exact h2 _ _ hc
 have st:∀d,¬d=r->d<X.heap.size->Y.heap[d]?=X.heap[d]?:=λd hd hl=>hg.block d hl (λe=>by injection e with e;exact hd e)
 exact⟨(st _ (nC k1) h.lt).trans h.blk,h.log.other hg (λcur e fz he=>absurd he (h1 _ _ _)) (nC k2) (nM k3) (nM k4),h.fmap.keep (st _ (nM k5) h.fmap.lt),h.chm.keep (st _ (nM k6) h.chm.lt),λn f hf=>⟨(st _ (nC (k7 n f hf)) (h.fcells hf).2.2.2.2.2).trans (h.frs n f hf).1,(h.frs n f hf).2⟩,h.inj,row_keep h.ord λg hg'=>st _ (nC (k8 g hg')) (h.rowblk hg').2.2,h.low,h.dif⟩
theorem ranges_iter {P':Program}{kt:TypeId}{R:Value->Option (DataW Unit×List MemPlace)}{bb cnt:Nat}{D':DataW Unit}(h:X.ranges P' kt R bb r n D' left cnt):(∀cs t f,¬X.heap[r]?=some (.cells cs t f))∧∀es k,¬X.heap[r]?=some (.map es k):=by
 obtain⟨es,clock,since,seen,c0,-,-,-,-,hr,-⟩:=h;exact⟨(λcs t f e=>by rw[hr] at e;cases e),(λes k e=>by rw[hr] at e;cases e)⟩
theorem cdelP (h:PP X B D Gp b P L S)(hl:P.order.length<=64)(hi:∀x∈P.order,i64 x):Calls prog 141 #[b.vo,.func (.func 142) #[(.pointer (some ⟨Gp,0,none⟩))] #[]] X λe w'=>∃a c,e=.returned (.slice a (P.order.filter λx=>(P.fs x).isSome).length c)∧w'.ownsRow B 3 1 (.slice a (P.order.filter λx=>(P.fs x).isSome).length c) (P.order.filter λx=>(P.fs x).isSome).length ((P.order.filter λx=>(P.fs x).isSome).map (Value.int .i64))∧X.grownBy w' b.vo.ownBlock∧(Value.slice a (P.order.filter λx=>(P.fs x).isSome).length c).ownBlock=b.vo.ownBlock:=by
 by_cases he:P.order=[]
 ·obtain⟨a,c,hv⟩:=h.vo;have ho:=h.ord;rw[he] at hv ho ⊢;rw[hv] at ho ⊢;go_enter func141,ntmps141;go_wp2_with fail
  refine(cindexG0 _ a c X).mono ?_;rintro e w1⟨rfl,hw⟩;rw[hw];clear hw;go_wp2;go_ret;exact⟨a,c,rfl,ho,But.refl _ _,rfl⟩
 ·obtain⟨g,cap,e,h1,h2,h3,h4,h5⟩:=h.row he;have hg:b.vo.ownBlock=some g:=by rw[e];rfl
  have ho:=h.ord;rw[e] at ho;obtain⟨k1,k2,k3,k4,k5,k6,k7,k8⟩:=h.kinds;have:=cdelG (Gp:=Gp) (bF:=b.bF) (k:=65) (F:=λn=>(P.fs n).map (·.blk)) (cap:=cap) P.order.toArray (λW hW=>⟨by
    have hb:=(hW.block Gp h.lt (λe=>by injection e with e;exact ne_CC (k8 g hg) k1 (by decide) e)).trans h.blk;simp[World.cell?,hb,poolC],h.fmap.keep (hW.block _ h.fmap.lt (λe=>by injection e with e;exact ne_CM (k8 g hg) k5 e))⟩) h5 (by simp;omega) (by simpa using h3) (by simpa using hi)
  have hF:∀x,((P.fs x).map (·.blk)).isSome=(P.fs x).isSome:=λx=>by cases P.fs x<;>rfl
  simp only[hF,List.size_toArray] at this;rw[e];refine this.mono ?_;rintro r w'⟨rfl,rfl⟩;generalize hll:(P.order.filter λx=>(P.fs x).isSome)=l at *;have hlen:l.length<=P.order.length:=by rw[<-hll];exact List.length_filter_le ..
  have hrow:=ownsRow_putRow (q:=0) (k:=l.length) (ys:=l++List.replicate (P.order.length-l.length) 0) ho (by simp;omega) hlen;rw[List.take_left' rfl,ahead_zero] at hrow;exact⟨_,cap,rfl,hrow,grownBy_put _,rfl⟩
end
def fsL (P:PS)(left:Lit->Bool):Int->Option FrP:=λn=>if P.chg n=true∧left (.int .i64 n)=false then none else P.fs n
theorem fsL_next {x:Int}(hx:P.chg x=true):fsL P (λz=>left z && !z.sameKey (.int .i64 x))=delR (fsL P left) x:=by
 funext n;unfold fsL delR;by_cases e:n=x
 ·subst e;simp[hx,Lit.sameKey]
 ·have:(Lit.int .i64 n).sameKey (.int .i64 x)=false:=sameKey_ne (λh=>by injection h with _ h;exact e h);simp[this,e]
def fgP (P:PS):PS:={ P with fs:=λn=>if P.chg n=true then none else P.fs n,order:=P.order.filter (λn=>!P.chg n),chg:=λ_=>false }
theorem cforget {b:Bk}(h:PP X B D Gp b P L S)(hB:B<=X.heap.size)(hl:P.order.length<=64)(hi:∀x∈P.order,i64 x∧(P.fs x).isSome=true)(hc:∀x,P.chg x=true->i64 x):Calls prog 89 #[(.pointer (some ⟨Gp,0,none⟩))] X λe w'=>∃b',e=.returned (.tuple #[])∧PP w' B D Gp b' (fgP P) L S∧BelP b.M b'.M B X w'∧b'.G=b.G∧b'.bp=b.bp∧b'.bf=b.bf:=by
 obtain⟨DU,hown,HKU⟩:=h.chm;have hbl:=hown.lt;have HKK:=hide (HKU);have HP:=hide (h);have HB0:=hide (hB);have HI:=hide (hi);have HCH:=hide (hc);have hmm:=@run_makeMap prog;obtain⟨c0,c1,c2,c3,c4,c5,c6,c7,c8,c9⟩:=h.cells;clear h HKU c0 c1 c2 c3 c4 c5 c7 c8 c9 hi hc hB;go_enter func89,ntmps89;go_wp2_with (first
  | (at_range;refine wpList_range_own _ rfl _ 86 rfl 3 224 lawI underlying86 _ b.bC 60000 _ rfl hown ?_;intro w0 hrg0 hg0 hs0)
  | go_in)
 try go_frame
 have hb0:Below X.heap.size X w0:=⟨hg0.os,hg0.tape,hg0.output,hg0.size,λi hi=>hg0.block i hi (by simp)⟩;have HP0:=hide (show PP w0 B D Gp b { P with fs:=fsL P (Maps.has DU)} L S from by
  have hfs:fsL P (Maps.has DU)=P.fs:=by
   funext n;unfold fsL;rw[if_neg];rintro⟨k1,k2⟩;have:=HKK.out n (HCH.out n k1);rw[k2,k1] at this;cases this
  rw[hfs];exact HP.out.below hb0)
 have HBL0:=hide (show BelP b.M b.M B X w0 from below_belP hb0 HB0.out _);clear hg0 hb0
 go_loopw [2] (λ_ wr=>∃(left:Lit->Bool) (cnt:Nat),wr.ranges prog 3 unitElem b.bC X.heap.size 60000 DU left cnt∧Hid (∀x,i64 x->left (.int .i64 x)=true->Maps.has DU (.int .i64 x)=true)∧Hid (PP wr B D Gp b { P with fs:=fsL P left } L S)∧Hid (BelP b.M b.M B X wr)) (λ_ wr=>wr.rangeLeft b.bC X.heap.size)
 case atStart=>exact⟨_,_,hrg0,hide (λx _ h=>h),HP0,HBL0⟩
 case round =>
  obtain⟨left,cnt,hrg,HLF,HPr,HBr⟩:=hrel;clear hrg0 hs0 HP0 HBL0;go_wp2_with (first
   | (at_next;refine wpList_next_unit _ rfl _ rfl b.bC X.heap.size 60000 DU left cnt rfl hrg ?_ ?_)
   | go_in)
  ·intro hc0 hl0;have hPF:PP wr B D Gp b { P with fs:=λn=>if P.chg n=true then none else P.fs n } L S:=by
    have:fsL P left=λn=>if P.chg n=true then none else P.fs n:=by
     funext n;unfold fsL;rw[hl0];simp
    have h1:=HPr.out;rw[this] at h1;exact h1
   have HPF:=hide (hPF);have HDP:=hide (cdelP hPF hl (λx hx=>(HI.out x hx).1));have hfil:(P.order.filter λx=>(if P.chg x=true then none else P.fs x:Option FrP).isSome)=P.order.filter (λn=>!P.chg n):=List.filter_congr λx hx=>by
    have:=(HI.out x hx).2;cases hq:P.chg x<;>simp[this]
   dsimp only at HDP
   rw[hfil] at HDP;generalize hll:(P.order.filter λn=>!P.chg n)=l at *;have HLL:=hide (hll);clear hll;obtain⟨d0,d1,d2,d3,d4,d5,d6,d7,d8,d9⟩:=hPF.cells;obtain⟨oa,oc,hvo⟩:=hPF.vo
   dsimp only at hvo
   rw[hvo] at d5;have HVO:=hide (hvo);rw[hvo] at HDP;have HLB:=hide (show B<=wr.heap.size from Nat.le_trans HB0.out HBr.out.size);clear hPF hfil d0 d1 d2 d3 d4 d7 d8 d9 hvo hrg HLF HPr;go_wp2_with fail
   refine HDP.out.mono ?_;rintro e w6⟨a6,c6,rfl,q1,q2,q3⟩;have hr:=HPF.out.reord (l:=l) HLB.out (by rw[HVO.out];exact q2) q1 (.inl (by rw[HVO.out];exact q3));have hbG:w6.heap[Gp]?=some (.cells (poolC b { P with fs:=λn=>if P.chg n=true then none else P.fs n }) 90 (0,0)):=by
    refine(q2.block Gp HPF.out.lt (λe=>?_)).trans HPF.out.blk;exact ne_CC (HPF.out.kinds.2.2.2.2.2.2.2 Gp (by rw[HVO.out];exact e.symm)) HPF.out.kinds.1 (by decide) rfl
   have x5:=hr.2.2.1;rw[HVO.out] at x5;have y5:=hr.2.2.2.1;have hGp:=hr.2.2.2.2;have x6:w6.cell? ⟨Gp,6,none⟩=some (.map (some b.bC)):=by simp[World.cell?,hbG,poolC]
   have y6:w6.frozen? ⟨Gp,6,none⟩=false:=by simp[World.frozen?,hbG]
   obtain⟨hp7,hb7⟩:=hr.1.newset (Nat.le_trans HLB.out hr.2.1.size);have hz5:(w6.setCell ⟨Gp,5,none⟩ (.slice a6 l.length c6)).heap.size=w6.heap.size:=by simp
   rw[World.setCell_alloc_past _ _ _ _ (by rw[hz5];exact hGp),hz5] at hp7 hb7;have HP7:=hide (hp7);have HB7:=hide (HBr.out.trans (hr.2.1.trans hb7));clear hr hp7 hb7 hz5 hbG q1 q2 q3 HDP d5 d6;go_wp2;go_end0;exact⟨_,rfl,by unfold fgP;rw[HLL.out];exact HP7.out,HB7.out,rfl,rfl,rfl⟩
  ·intro x w5 cnt1 hwx hlx hrg1 hlt hg1 hs1 hen;have HCX:=hide (show P.chg x=true by rw[<-HKK.out x hwx];exact HLF.out x hwx hlx);have hP5:=HPr.out.iter hg1 (ranges_iter hrg).1 (ranges_iter hrg).2;obtain⟨Y,hrun,hM,hgY⟩:=hP5.fmap.drop (x:=x) hwx 0;have HPY:=hide (show PP Y B D Gp b { P with fs:=fsL P (λz=>left z && !z.sameKey (.int .i64 x))} L S from by
    rw[fsL_next HCX.out];exact hP5.drop hgY hM)
   have HB5:=hide (show BelP b.M b.M B X Y from(HBr.out.other hg1 (Nat.le_refl _) HB0.out).trans (hP5.fmaps_bel hgY (Nat.le_trans HB0.out (Nat.le_trans HBr.out.size hg1.size))));have hrg2:=hrg1.kept hgY (λe=>by injection e with e;exact hP5.dif.1 e.symm) (λe=>by injection e with e;have:=HP.out.fmap.lt;omega);have HLF2:=hide (show ∀y,i64 y->(left (.int .i64 y) && !(Lit.int .i64 y).sameKey (.int .i64 x))=true->Maps.has DU (.int .i64 y)=true from λy hy k=>HLF.out y hy (by simp at k;exact k.1));obtain⟨d0,d1,d2,d3,d4,d5,d6,d7,d8,d9⟩:=hP5.cells;clear hP5 hM hgY d0 d1 d2 d3 d5 d6 d7 d8 d9 hs1;go_wp2_with fail
   go_roundw
   case rel=>exact⟨_,cnt1,hrg2,HLF2,HPY,HB5⟩
   case measure=>rw[hrg2.left_eq,hrg.left_eq];exact hlt
theorem crollback (h:PO w B D Gp V C K pk m)(hm:m<=49000){frk:Nat}(hf:frk<=2147483647)(hK:K 0=some (pgB 4 frk)):Calls prog 48 #[(.pointer (some ⟨Gp,0,none⟩))] w λe w'=>∃V',PO w' B D Gp V' K K pk m∧St2 w w' B V V'∧V'.P.pages=pk∧((e=.returned (.int .i64 0)∧V'.P.free=frk)∨(e=.returned (.int .i64 2)∧V'.S.down=true)):=by
 obtain⟨c0,c1,c2,c3,c4,c5,c6,c7,c8,c9⟩:=h.pp.cells;obtain⟨oa,oc,hvo⟩:=h.pp.vo;rw[hvo] at c5;have HCN:=hide (ccontains h);rw[hvo] at HCN;have HP:=hide (h);have hpg:=h.pi.pg;have hmo:=h.pi.most;have HBK:=hide (cback w B D V.b.G V.b.bp V.b.bf 60000 V.L V.S h.pp.log h.lo);have HKK:=hide (hK);clear h c1 c2 c3 c4 c6 c7 c8 c9 hvo hK;go_enter func48,ntmps48;go_wp2_with fail
 refine HCN.out.mono ?_;rintro e w1⟨rfl,hw⟩;rw[hw];clear hw;go_wp2_with fail
 refine HBK.out.mono ?_;rintro e w2⟨rfl,hp2,hb2⟩;have hP2:PP w2 B D Gp V.b V.P (bkL V.L) V.S:=HP.out.pp.logs hb2 hp2;have HB2:=hide (HP.out.pp.belL hb2);have hr:=HP.out.pi.rng;have HFG:=hide (cforget hP2 (Nat.le_trans HP.out.lo HB2.out.size) (by omega) (λx hx=>⟨by have:=hr x hx;exact i64_in (by omega) (by omega),(HP.out.pi.keys x).1 hx⟩) (λx hx=>by have:=HP.out.pi.chr x hx;exact i64_in (by omega) (by omega)));clear hp2 hb2 hP2 HBK HCN hr;go_wp2_with fail
 refine HFG.out.mono ?_;rintro e w3⟨b',rfl,q1,q2,q3,q4,q5⟩;obtain⟨d0,d1,d2,d3,d4,d5,d6,d7,d8,d9⟩:=q1.cells;have z2:=q1.unfrozen 2;have hlst:(bkL V.L).last.pages=pk:=HP.out.pi.last;have HPG:=hide (cpages w3 B D b'.G b'.bp b'.bf 60000 (bkL V.L) V.S q1.log);rw[hlst] at HPG;have HQ1:=hide (q1);have HQ2:=hide (HB2.out.trans q2);have h4:PP (w3.setCell ⟨Gp,2,none⟩ (.int .i64 (pk:Int))) B D Gp b' { fgP V.P with pages:=pk } (bkL V.L) V.S:=q1.own rfl rfl rfl rfl;have hO4:PO (w3.setCell ⟨Gp,2,none⟩ (.int .i64 (pk:Int))) B D Gp ⟨b',{ fgP V.P with pages:=pk },bkL V.L,V.S,K⟩ K K pk m:=⟨h4,HP.out.pi.back,Nat.le_trans HP.out.lo (Nat.le_trans HQ2.out.size (set_grown w3 Gp 2 _).size)⟩;have HO4:=hide (hO4);have HS4:=hide (show St2 w (w3.setCell ⟨Gp,2,none⟩ (.int .i64 (pk:Int))) B V ⟨b',{ fgP V.P with pages:=pk },bkL V.L,V.S,K⟩ from⟨HQ2.out.trans (q1.own_bel 2 _ (Nat.le_trans HP.out.lo HQ2.out.size)),id⟩);have HOP:=hide (copened hO4 (by omega) 0 (by omega) (by show(0:Int)<(pk:Int);omega) (kd:=4) (lk:=frk) ⟨by decide,by decide⟩ hf HKK.out);clear q1 q2 q3 q4 q5 h4 hO4 HFG d1 d3 d4 d5 d6 d7 d8 d9 hlst c0 c5;generalize hW4:w3.setCell ⟨Gp,2,none⟩ (.int .i64 (pk:Int))=w4 at *;go_wp2_with fail
 refine HPG.out.mono ?_;rintro e w3⟨rfl,hw⟩;rw[hw];clear hw;go_wp2_with fail
 refine HOP.out.mono ?_;rintro e w5⟨V5,k1,k2,k3,k4,(⟨a,c,rfl⟩ | ⟨rfl,k5⟩)⟩
 ·have hp6:=(k1.below (show Below w5.heap.size w5 (w5.alloc (.cells #[.int .i64 4,.int .i64 frk,.slice a 0 c] 82)) from((Below.refl _ _).alloc (Nat.le_refl _) _)));obtain⟨e0,e1,e2,e3,e4,e5,e6,e7,e8,e9⟩:=k1.pp.cells;have z3:=k1.pp.unfrozen 3;have hG5:=k1.pp.lt;have hp7:PO ((w5.alloc (.cells #[.int .i64 4,.int .i64 frk,.slice a 0 c] 82)).setCell ⟨Gp,3,none⟩ (.int .i64 (frk:Int))) B D Gp ⟨V5.b,{ V5.P with free:=frk },V5.L,V5.S,V5.N⟩ K K pk m:=⟨hp6.1.pp.own rfl rfl rfl rfl,hp6.1.pi.stat _ _ _ _,Nat.le_trans hp6.1.lo (set_grown _ Gp 3 _).size⟩;have hs7:St2 w ((w5.alloc (.cells #[.int .i64 4,.int .i64 frk,.slice a 0 c] 82)).setCell ⟨Gp,3,none⟩ (.int .i64 (frk:Int))) B V ⟨V5.b,{ V5.P with free:=frk },V5.L,V5.S,V5.N⟩:=(HS4.out.trans (k2.trans hp6.2)).trans (⟨hp6.1.pp.own_bel 3 _ hp6.1.lo,id⟩:St2 _ _ B V5 ⟨V5.b,{ V5.P with free:=frk },V5.L,V5.S,V5.N⟩);rw[World.setCell_alloc_past _ _ _ _ hG5] at hp7 hs7;have HP7:=hide (hp7);have HS7:=hide (hs7);have HK:=hide (show V5.P.pages=pk from k3);clear k1 k2 k3 k4 hp6 hp7 hs7 HOP e0 e1 e2 e4 e5 e6 e7 e8 e9;go_wp2;go_ret;exact⟨_,HP7.out,HS7.out,HK.out,.inl ⟨rfl,rfl⟩⟩
 ·have HP5:=hide (k1);have HK:=hide (show St2 w w5 B V V5∧V5.P.pages=pk∧V5.S.down=true from⟨HS4.out.trans k2,k3,k5⟩);clear k1 k2 k3 k4 k5 HOP;go_wp2;go_ret;exact⟨V5,(HP5.out.below (((Below.refl _ _).alloc (Nat.le_refl _) _))).1,HK.out.1.trans (HP5.out.below (((Below.refl _ _).alloc (Nat.le_refl _) _))).2,HK.out.2.1,.inr ⟨rfl,HK.out.2.2⟩⟩
theorem tl_fr {pg:Nat}(h:(tlL L S fr pg).1=0):(tlL L S fr pg).2.1.fr=(tlL L S fr pg).2.1.last.frames:=by
 unfold tlL at h ⊢;split
 ·rename_i h1
  rw[if_pos h1] at h;split
  ·rfl
  ·rename_i h2
   rw[if_neg h2] at h;exact absurd h h2
 ·rename_i h1
  rw[if_neg h1] at h;exact absurd h h1
theorem cm_fr {L':LS}{S':DS}{n:Int}{t:ByteArray}{pg:Int}(h:cmL L S n t pg=(0,L',S')):L'.fr=L'.last.frames:=by
 unfold cmL at h;split at h
 ·exact absurd (show(1:Int)=0 from congrArg Prod.fst h) (by decide)
 ·split at h
  ·rename_i h2
   exact absurd (congrArg Prod.fst h) h2
  ·split at h
   ·rename_i h3
    exact absurd (congrArg Prod.fst h) h3
   ·split at h
    ·rename_i h4
     exact absurd (congrArg Prod.fst h) h4
    ·rename_i h4
     have e:_=L':=congrArg (λx=>x.2.1) h;rw[<-e];exact tl_fr (Decidable.not_not.1 h4)
theorem ckL_okN {k:Nat}(h:okS S k)(ks:List Int):okS (ckL L S ks).2.2 (k+ks.length+4):=by
 have a1:=stlL_ok (L:=L) ks h;have a2:=tlL_ok (L:=L) a1 0 L.last.pages;unfold ckL;split
 ·exact h.mono (by omega)
 ·split
  ·exact h.mono (by omega)
  ·split
   ·exact a1.mono (by omega)
   ·split
    ·exact a2.mono (by omega)
    ·exact a2.mono (by omega)
theorem ccommitN (h:PO w B D Gp V C K pk m)(hm:m<=40000)(hno:NoF V.S):Calls prog 10 #[(.pointer (some ⟨Gp,0,none⟩))] w λe w'=>∃V' K',e=.returned (.int .i64 0)∧PO w' B D Gp V' C K' V.P.pages (m+2)∧St2 w w' B V V'∧V'.P.pages=V.P.pages∧V'.P.free=V.P.free∧∀n:Int,0<=n->n<V.P.pages->K' n=C n:=by
 obtain⟨c0,c1,c2,c3,c4,c5,c6,c7,c8,c9⟩:=h.pp.cells;obtain⟨kl,hlen,hl1,hl2⟩:=h.pp.chm.len 3;have HP:=hide (h);by_cases hz:kl=0
 ·subst hz;have hs:=h.pi.same (hl2.1 rfl);have HR:=hide (show PO w B D Gp V C K V.P.pages (m+2)∧∀n:Int,0<=n->n<V.P.pages->K n=C n from⟨hs.1 ▸ h.mono (by omega),hs.2⟩);clear h c0 c1 c2 c3 c4 c5 c7 c8 c9 hs hl2;go_enter func10,ntmps10;go_wp2;go_ret;exact⟨V,K,rfl,HR.out.1,St2.refl _ _ _,rfl,rfl,HR.out.2⟩
 ·have hz1:((kl:Int) == 0)=false:=by simp;omega
  have HA:=hide (cappendDirty h (by omega));have hmm:=@run_makeMap prog;clear h c0 c1 c2 c3 c4 c5 c7 c8 c9 hl2;go_enter func10,ntmps10;go_wp2_with fail
  refine HA.out.mono ?_;rintro e w1⟨V1,k1,k2,k3,k4,(⟨n,f,rfl,k5,k6⟩ | ⟨rfl,k5⟩)⟩
  ·obtain⟨g1,g2,g3,g4,g5⟩:=k1.pi.held k5;have hpg:=k1.pi.pg;obtain⟨n,rfl⟩:∃k:Nat,n=k:=⟨n.toNat,by omega⟩;have hn:i64 (n:Int):=i64_in (by omega) (by omega);have hlk:=k1.pp.fmap.look1 hn;simp only[k5,Option.map_some,ptrO] at hlk;obtain⟨d0,d1,d2,d3,d4,d5,d6,d7,d8,d9⟩:=k1.pp.cells;obtain⟨f0,f1,f2,z0,z2,hlt⟩:=k1.pp.fcells k5;obtain⟨j,kk,i1,i2,i3,i4⟩:=k1.pi.inv;have hfr:=i1.fr;have HC:=hide (λ(W:World) (hW:Below w1.heap.size w1 W)=>ccommit (n:Int) f.text (V1.P.pages:Int) W B D V1.b.G V1.b.bp V1.b.bf 60000 kk V1.L V1.S (k1.pp.log.below hW) (Nat.le_trans k1.lo hW.size) (by decide) i3 (by omega) (by omega) i1.pre.tp.ok);have hok:=cmL_ok (L:=V1.L) i3 n f.text V1.P.pages;have hnf:NoF (cmL V1.L V1.S n f.text V1.P.pages).2.2:=cmL_nf (k2.nf hno) _ _ _;have HP1:=hide (k1);have HS1:=hide (k2);have HK1:=hide (show V1.P.pages=V.P.pages∧V1.P.free=V.P.free∧V1.P.fs n=some f∧∀x,isDr V1.P x=true->x=(n:Int) from⟨k3,k4,k5,k6⟩);rcases cm_out i1 (by omega) (by omega:n<60000) g5 (by omega:1<=V1.P.pages) (by omega) with⟨L2,S2,e2,v2,cr2⟩ | ⟨L2,S2,e2,v2,lp2,I2⟩
   ·rw[e2] at hnf;have:=hnf.2;rw[v2] at this;cases this
   ·have hL2:=cm_fr e2;rw[e2] at HC hok hnf;have hfs:∀x,((updR V1.P.fs n { f with dirty:=false }) x).isSome=(V1.P.fs x).isSome:=λx=>by
     by_cases e:x=(n:Int)
     ·rw[e,updR_at,k5];rfl
     ·rw[updR_ne _ _ e]
    have hft:∀x g,(updR V1.P.fs n { f with dirty:=false }) x=some g->g.dirty=false∧∃g',V1.P.fs x=some g'∧g'.text=g.text:=λx g hx=>by
     by_cases e:x=(n:Int)
     ·rw[e,updR_at] at hx;injection hx with hx;rw[<-hx];exact⟨rfl,f,by rw[e];exact k5,rfl⟩
     ·rw[updR_ne _ _ e] at hx;refine⟨?_,g,hx,rfl⟩;cases hz:g.dirty with
      | false=>rfl
      | true=>exact absurd (k6 x (isD_mk hx hz)) e
    have htold:∀x:Int,0<=x->x<V1.P.pages->wth V1.N n f.text x=C x:=k1.pi.told k5 k6;have HI:=hide (show PI { V1.P with fs:=updR V1.P.fs n { f with dirty:=false },chg:=λ_=>false } L2 S2 C (wth V1.N n f.text) (wth V1.N n f.text) V1.P.pages (m+2)∧(∀x:Int,0<=x->x<V.P.pages->wth V1.N n f.text x=C x)∧NoF S2 from⟨(k1.pi.commit (updR V1.P.fs n { f with dirty:=false }) hfs hft htold I2 (by omega) hok (by omega) lp2).mono (by omega),by rw[<-k3];exact htold,hnf⟩);have HSM:=hide (show(∀x,(L2.pl x).isSome=true->0<=x∧x<((60000:Nat):Int))∧∀x,(L2.fh x).isSome=true->0<=x∧x<((60000:Nat):Int) from⟨I2.pos,I2.posF⟩);have HCP:=hide (λ(W:World) (b:Bk) (P:PS) (hW:PP W B D Gp b P L2 S2) (hB:B<=W.heap.size)=>ccheckpoint W B D b.G b.bp b.bf 60000 (kk+4) L2 S2 hW.log hB (by decide) hok (by omega) (I2.okp (by omega)) (λx hx=>(I2.pos x hx).1) I2.pre.tp.ok);have HCK:=hide (λ(W:World) (b:Bk) (P:PS) (hW:PP W B D Gp b P L2 S2) (h1000:1000<=L2.fr) (ks:List Int) (hks:KeysOf L2.pl ks)=>(show ∃L3 S3,ckL L2 S2 ks=(0,L3,S3)∧NoF S3∧(∀x,(L3.pl x).isSome=true->0<=x∧x<((60000:Nat):Int))∧(∀x,(L3.fh x).isSome=true->0<=x∧x<((60000:Nat):Int))∧PI { V1.P with fs:=updR V1.P.fs n { f with dirty:=false },chg:=λ_=>false } L3 S3 C (cutK (wth V1.N n f.text) V1.P.pages) (cutK (wth V1.N n f.text) V1.P.pages) V1.P.pages (m+2) from by
     obtain⟨L3,S3,e3,n3,p3,I3⟩:=ck_nf I2 hnf hL2 (by omega) (hW.log.dsk.len 2 (by decide)) (by rw[lp2];omega) ks hks;have ho3:=ckL_okN (L:=L2) hok ks;rw[e3] at ho3;have hkf:ks.length<=L2.last.frames:=keys_few (log:=S2.lb 3) (hks.sorted.imp (λhab=>by omega)) (λx hx=>by rw[<-I2.pl];exact((hks.mem x).1 hx).2);have hfr2:=I2.fr;rw[lp2] at I3;exact⟨L3,S3,e3,n3,I3.pos,I3.posF,(k1.pi.mono (Nat.le_succ m)).commit (updR V1.P.fs n { f with dirty:=false }) hfs hft (λx x0 x1=>by
      have e:cutK (wth V1.N n f.text) V1.P.pages x=wth V1.N n f.text x:=if_pos x1;rw[e];exact htold x x0 x1) I3 (by omega) ho3 (by omega) (p3.trans lp2)⟩))
    have HCU:=hide (show ∀x:Int,0<=x->x<V.P.pages->cutK (wth V1.N n f.text) V1.P.pages x=C x from λx x0 x1=>by
     have e:cutK (wth V1.N n f.text) V1.P.pages x=wth V1.N n f.text x:=if_pos (by rw[k3];exact x1);rw[e];exact htold x x0 (by rw[k3];exact x1))
    have HL2:=hide hL2;by_cases hb1:L2.fr<1000
    ·have hfr3:(L2.fr:Int)<1000:=by omega
     clear k1 k2 k3 k4 k5 k6 hok hnf e2 v2 lp2 I2 i1 i2 i3 i4 d1 d3 d5 d6 d7 d8 d9 f1 f2 z0 z2 hfr HA c6 hlen HCP HCK HCU hfs hft htold hL2 hb1;go_wp2_with fail
     go_region_with (go_at_call 35;refine(HC.out _ ((Below.refl _ _).drew)).mono ?_;rintro e w5⟨rfl,hp5,hb5⟩)
     all_goals
      have HF5:=hide (show BelL V1.b.G V1.b.bp V1.b.bf B w1 w5 from(below_log ((Below.refl _ _).drew) HP1.out.lo _ _ _).trans hb5);have HP5:=hide (show PP w5 B D Gp V1.b V1.P L2 S2 from HP1.out.pp.logs HF5.out (hp5.small HSM.out.1 HSM.out.2));have hg:=set_grown w5 f.blk 2 (.bool false);have hp6:PP (w5.setCell ⟨f.blk,2,none⟩ (.bool false)) B D Gp V1.b { V1.P with fs:=updR V1.P.fs n { f with dirty:=false }} L2 S2:=HP5.out.frame HK1.out.2.2.1 rfl hg (by rw[set_blk (HP5.out.frs n f HK1.out.2.2.1).1];rfl);have hb6:=(HP1.out.pp.belL HF5.out).trans (HP5.out.frame_bel HK1.out.2.2.1 hg (Nat.le_trans HP1.out.lo HF5.out.size));obtain⟨hp7,hb7⟩:=hp6.newset (Nat.le_trans HP1.out.lo hb6.size);have hGp:=HP5.out.lt;have hz5:(w5.setCell ⟨f.blk,2,none⟩ (.bool false)).heap.size=w5.heap.size:=by simp
      rw[World.setCell_alloc_past _ _ _ _ (by rw[hz5];exact hGp),hz5] at hp7 hb7;have HP7:=hide (hp7);have HB7:=hide (hb6.trans hb7);have HFR:=hide (λ(W:World) (hW:PP W B D Gp { V1.b with bC:=w5.heap.size } { V1.P with fs:=updR V1.P.fs n { f with dirty:=false },chg:=λ_=>false } L2 S2)=>cframes W B D V1.b.G V1.b.bp V1.b.bf 60000 L2 S2 hW.log);obtain⟨q0,q1,q2,y0,y2,hlt5⟩:=HP5.out.fcells HK1.out.2.2.1;obtain⟨p0,p1,p2,p3,p4,p5,p6,p7,p8,p9⟩:=HP5.out.cells;have z6:=HP5.out.unfrozen 6;have hne:¬Gp=f.blk:=λe=>ne_CC ⟨_,(HP5.out.frs n f HK1.out.2.2.1).1⟩ ⟨_,HP5.out.blk⟩ (by decide) e
      clear hp5 hb5 hg hp6 hb6 hp7 hb7 hz5 q0 q1 y0 p1 p2 p3 p4 p5 p7 p8 p9;go_wp2_with fail
      refine(HFR.out _ ?hPP).mono ?_
      case hPP=>exact HP7.out
      rintro e w9⟨rfl,hw⟩;rw[hw];clear hw;go_wp2;go_ret;have hk:=HK1.out;exact⟨⟨{ V1.b with bC:=w5.heap.size },{ V1.P with fs:=updR V1.P.fs n { f with dirty:=false },chg:=λ_=>false },L2,S2,wth V1.N n f.text⟩,_,rfl,⟨HP7.out,by rw[<-hk.1];exact HI.out.1,Nat.le_trans HP1.out.lo HB7.out.size⟩,HS1.out.trans ⟨HB7.out,λ_=>HI.out.2.2⟩,hk.1,hk.2.1,HI.out.2.1⟩
    ·have hfr3:¬(L2.fr:Int)<1000:=by omega
     have HB1:=hide (show 1000<=L2.fr by omega);clear k1 k2 k3 k4 k5 k6 hok hnf e2 v2 lp2 I2 i1 i2 i3 i4 d1 d3 d5 d6 d7 d8 d9 f1 f2 z0 z2 hfr HA c6 hlen hfs hft htold hL2 hb1;go_wp2_with fail
     go_region_with (go_at_call 35;refine(HC.out _ ((Below.refl _ _).drew)).mono ?_;rintro e w5⟨rfl,hp5,hb5⟩)
     all_goals
      have HF5:=hide (show BelL V1.b.G V1.b.bp V1.b.bf B w1 w5 from(below_log ((Below.refl _ _).drew) HP1.out.lo _ _ _).trans hb5);have HP5:=hide (show PP w5 B D Gp V1.b V1.P L2 S2 from HP1.out.pp.logs HF5.out (hp5.small HSM.out.1 HSM.out.2));have hg:=set_grown w5 f.blk 2 (.bool false);have hp6:PP (w5.setCell ⟨f.blk,2,none⟩ (.bool false)) B D Gp V1.b { V1.P with fs:=updR V1.P.fs n { f with dirty:=false }} L2 S2:=HP5.out.frame HK1.out.2.2.1 rfl hg (by rw[set_blk (HP5.out.frs n f HK1.out.2.2.1).1];rfl);have hb6:=(HP1.out.pp.belL HF5.out).trans (HP5.out.frame_bel HK1.out.2.2.1 hg (Nat.le_trans HP1.out.lo HF5.out.size));obtain⟨hp7,hb7⟩:=hp6.newset (Nat.le_trans HP1.out.lo hb6.size);have hGp:=HP5.out.lt;have hz5:(w5.setCell ⟨f.blk,2,none⟩ (.bool false)).heap.size=w5.heap.size:=by simp
      rw[World.setCell_alloc_past _ _ _ _ (by rw[hz5];exact hGp),hz5] at hp7 hb7;have HP7:=hide (hp7);have HB7:=hide (hb6.trans hb7);have HFR:=hide (λ(W:World) (hW:PP W B D Gp { V1.b with bC:=w5.heap.size } { V1.P with fs:=updR V1.P.fs n { f with dirty:=false },chg:=λ_=>false } L2 S2)=>cframes W B D V1.b.G V1.b.bp V1.b.bf 60000 L2 S2 hW.log);have HQ:=hide (λ(W:World) (hW:PP W B D Gp { V1.b with bC:=w5.heap.size } { V1.P with fs:=updR V1.P.fs n { f with dirty:=false },chg:=λ_=>false } L2 S2) (hB:B<=W.heap.size)=>HCP.out W _ _ hW hB);obtain⟨q0,q1,q2,y0,y2,hlt5⟩:=HP5.out.fcells HK1.out.2.2.1;obtain⟨p0,p1,p2,p3,p4,p5,p6,p7,p8,p9⟩:=HP5.out.cells;have z6:=HP5.out.unfrozen 6;have hne:¬Gp=f.blk:=λe=>ne_CC ⟨_,(HP5.out.frs n f HK1.out.2.2.1).1⟩ ⟨_,HP5.out.blk⟩ (by decide) e
      have HLO7:=hide (Nat.le_trans HP1.out.lo HB7.out.size);clear hp5 hb5 hg hp6 hb6 hp7 hb7 hz5 q0 q1 y0 p1 p2 p3 p4 p5 p7 p8 p9;go_wp2_with fail
      refine(HFR.out _ ?hPP).mono ?_
      case hPP=>exact HP7.out
      rintro e w9⟨rfl,hw⟩;rw[hw];clear hw;go_wp2_with fail
      refine(HQ.out _ ?hP1 ?hP2).mono ?_
      case hP1=>exact HP7.out
      case hP2=>exact HLO7.out
      rintro e w9⟨ks,hks,rfl,hpl9,hbl9⟩;obtain⟨L3,S3,e3,n3,u1,u2,pi3⟩:=HCK.out _ _ _ HP7.out HB1.out ks (hks HL2.out (by have:=HB1.out;omega)).1;rw[e3] at hpl9 ⊢;have HE:=hide (show PP w9 B D Gp { V1.b with bC:=w5.heap.size } { V1.P with fs:=updR V1.P.fs n { f with dirty:=false },chg:=λ_=>false } L3 S3∧BelP V1.b.M _ B w1 w9 from⟨HP7.out.logs hbl9 (hpl9.small u1 u2),HB7.out.trans (HP7.out.belL hbl9)⟩);have HE2:=hide (And.intro n3 pi3);clear hks hpl9 hbl9 e3 n3 u1 u2 pi3 HQ HCP HCK;go_wp2;go_ret;have hk:=HK1.out;exact⟨⟨{ V1.b with bC:=w5.heap.size },{ V1.P with fs:=updR V1.P.fs n { f with dirty:=false },chg:=λ_=>false },L3,S3,cutK (wth V1.N n f.text) V1.P.pages⟩,_,rfl,⟨HE.out.1,by rw[<-hk.1];exact HE2.out.2,Nat.le_trans HP1.out.lo HE.out.2.size⟩,HS1.out.trans ⟨HE.out.2,λ_=>HE2.out.1⟩,hk.1,hk.2.1,HCU.out⟩
  ·have:=(k2.nf hno).2;rw[k5] at this;cases this
def newP (most pages free:Nat):PS:=⟨most,pages,free,λ_=>none,[],λ_=>false,0,0,0⟩
theorem PP.fresh (h:PL W B D G bp bf 60000 L S)(hB:B<=W.heap.size)(hY:Below W.heap.size W Y)(h1:W.heap.size<=Gp)(h2:W.heap.size<=bF)(h3:W.heap.size<=bC)(hne:¬bF=bC)(m1:Y.heap[bF]?=some (.map #[] 0))(m2:Y.heap[bC]?=some (.map #[] 0))(hb:Y.heap[Gp]?=some (.cells (poolC ⟨G,bp,bf,bF,bC,.slice none 0 0⟩ (newP most pages free)) 90 (0,0))):PP Y B D Gp ⟨G,bp,bf,bF,bC,.slice none 0 0⟩ (newP most pages free) L S:=by
 have a1:=h.mp.lt;have a2:=h.mf.lt;refine⟨hb,h.below hY,?_,?_,(λn f hf=>by cases hf),(λn n' f f' hf=>by cases hf),World.ownsRow_nil _ _ _ _,⟨by omega,by show B<=bF;omega,by show B<=bC;omega⟩,⟨hne,by show ¬bF=bp;omega,by show ¬bF=bf;omega,by show ¬bC=bp;omega,by show ¬bC=bf;omega⟩⟩
 ·exact⟨.map [],⟨#[],0,m1,⟨by simp,MapKept.stamped_empty 0,by simp⟩,Nat.zero_le _,rfl⟩,λ_ _=>⟨rfl,λv h=>by cases h⟩⟩
 ·exact⟨.map [],⟨#[],0,m2,⟨by simp,MapKept.stamped_empty 0,by simp⟩,Nat.zero_le _,rfl⟩,λ_ _=>rfl⟩
theorem open_pack (h:PL w B D G bp bf 60000 L S)(hB:B<=w.heap.size)(o:Obj)(most pages free:Nat)(hbb:(bF=w.heap.size+1∧bC=w.heap.size+1+1)∨(bF=w.heap.size+1+1∧bC=w.heap.size+1)):PP ((((w.alloc o).alloc (.map #[] 0)).alloc (.map #[] 0)).alloc (.cells #[(.pointer (some ⟨G,0,none⟩)),.int .i64 (most:Int),.int .i64 (pages:Int),.int .i64 (free:Int),.map (some bF),.slice none 0 0,.map (some bC),.int .i64 0,.int .i64 0,.int .i64 0] 90)).drew B D (w.heap.size+1+1+1) ⟨G,bp,bf,bF,bC,.slice none 0 0⟩ (newP most pages free) L S∧Below w.heap.size w ((((w.alloc o).alloc (.map #[] 0)).alloc (.map #[] 0)).alloc (.cells #[(.pointer (some ⟨G,0,none⟩)),.int .i64 (most:Int),.int .i64 (pages:Int),.int .i64 (free:Int),.map (some bF),.slice none 0 0,.map (some bC),.int .i64 0,.int .i64 0,.int .i64 0] 90)).drew:=by
 generalize hpc:(Obj.cells #[(.pointer (some ⟨G,0,none⟩)),.int .i64 (most:Int),.int .i64 (pages:Int),.int .i64 (free:Int),.map (some bF),.slice none 0 0,.map (some bC),.int .i64 0,.int .i64 0,.int .i64 0] 90)=pc;have s1:(w.alloc o).heap.size=w.heap.size+1:=by simp
 have s2:((w.alloc o).alloc (.map #[] 0)).heap.size=w.heap.size+1+1:=by simp
 have s3:(((w.alloc o).alloc (.map #[] 0)).alloc (.map #[] 0)).heap.size=w.heap.size+1+1+1:=by simp
 have hb:Below w.heap.size w ((((w.alloc o).alloc (.map #[] 0)).alloc (.map #[] 0)).alloc pc).drew:=(((((Below.refl _ _).alloc (Nat.le_refl _) _).alloc (by omega) _).alloc (by omega) _).alloc (by omega) _).drew;have e1:((((w.alloc o).alloc (.map #[] 0)).alloc (.map #[] 0)).alloc pc).drew.heap[w.heap.size+1]?=some (.map #[] 0):=by
  show((((w.alloc o).alloc (.map #[] 0)).alloc (.map #[] 0)).alloc pc).heap[w.heap.size+1]?=_;rw[heap_alloc_old _ _ (by omega),heap_alloc_old _ _ (by omega),<-s1];exact heap_alloc_new _ _
 have e2:((((w.alloc o).alloc (.map #[] 0)).alloc (.map #[] 0)).alloc pc).drew.heap[w.heap.size+1+1]?=some (.map #[] 0):=by
  show((((w.alloc o).alloc (.map #[] 0)).alloc (.map #[] 0)).alloc pc).heap[w.heap.size+1+1]?=_;rw[heap_alloc_old _ _ (by omega),<-s2];exact heap_alloc_new _ _
 have e3:((((w.alloc o).alloc (.map #[] 0)).alloc (.map #[] 0)).alloc pc).drew.heap[w.heap.size+1+1+1]?=some pc:=by
  show((((w.alloc o).alloc (.map #[] 0)).alloc (.map #[] 0)).alloc pc).heap[w.heap.size+1+1+1]?=_;rw[<-s3];exact heap_alloc_new _ _
 refine⟨PP.fresh h hB hb (by omega) (by omega) (by omega) (by omega) ?_ ?_ (by rw[e3,<-hpc];rfl),hb⟩
 ·rcases hbb with⟨rfl,rfl⟩|⟨rfl,rfl⟩
  ·exact e1
  ·exact e2
 ·rcases hbb with⟨rfl,rfl⟩|⟨rfl,rfl⟩
  ·exact e2
  ·exact e1
theorem PI.fresh {k:Nat}(hI:Inv L S F F j)(hj:j<=m)(hk:okS S k)(hk':k+j<=5*m+20)(hmo:8<=most∧most<=64)(hpg:1<=L.last.pages∧L.last.pages<=59000)(hkd:∀n:Int,0<=n->n<L.last.pages->∃t,F n=some t∧t.size=1024):PI (newP most L.last.pages free) L S F F F L.last.pages m:=by
 have hd:dct (newP most L.last.pages free)=0:=rfl;refine⟨⟨j,k,hI,by rw[hd];omega,hk,by rw[hd];omega⟩,List.nodup_nil,λn=>?_,(λn hn=>by cases hn),⟨Nat.zero_le _,hmo.1,hmo.2⟩,⟨hpg.1,Nat.le_refl _,hpg.2⟩,rfl,λn n0 n1=>?_,(λn f hf=>by cases hf),λn _ n0 n1=>⟨n1,rfl,(λf hf=>by cases hf)⟩,(λn hn=>by cases hn),hkd⟩
 ·constructor
  ·intro k;cases k
  ·intro k;cases k
 ·obtain⟨t,h1,h2⟩:=hkd n n0 n1;exact⟨t,h1,h2,(λf hf=>by cases hf),λ_=>h1⟩
theorem copenP {Z:Nat}{L0:LS}{S0:DS}{k:Nat}(most:Nat)(hmo:8<=most∧most<=64)(hO:Calls prog 25 #[(.pointer (some ⟨D,0,none⟩))] X λe w'=>∃G bp bf,e=.returned (.tuple #[(.pointer (some ⟨G,0,none⟩)),.int .i64 0])∧PL w' B D G bp bf 60000 L0 S0∧Below Z X w')(hG:∀G bp bf W,PL W B D G bp bf 60000 L0 S0->B<=W.heap.size->Calls prog 26 #[(.pointer (some ⟨G,0,none⟩))] W λe w'=>e=.returned (.int .i64 0)∧PL w' B D G bp bf 60000 L S∧Below B W w'∧Below (min Z W.heap.size) W w')(hB:B<=X.heap.size)(hZ:Z<=X.heap.size)(hI:Inv L S F F j)(hj:j<=m)(hm:m<=60000)(hk:okS S k)(hk':k+j<=5*m+20)(hpg:1<=L.last.pages∧L.last.pages<=59000)(hkd:∀n:Int,0<=n->n<L.last.pages->∃t,F n=some t∧t.size=1024)(hf:fr<=2147483647)(hF:F 0=some (pgB 4 fr))(hd:S.down=false):Calls prog 6 #[(.pointer (some ⟨D,0,none⟩)),.int .i64 (most:Int)] X λe w'=>∃Gp V,e=.returned (.tuple #[(.pointer (some ⟨Gp,0,none⟩)),.int .i64 0])∧PO w' B D Gp V F F L.last.pages m∧V.S=S∧V.P.pages=L.last.pages∧V.P.free=fr∧Below Z X w':=by
 have HO:=hide (hO);have HG:=hide (hG);have HB:=hide (hB);have HZ:=hide (hZ);have HI:=hide (hI);have HPI:=hide (PI.fresh (most:=most) (free:=fr) hI hj hk hk' hmo hpg hkd);have HD:=hide (hd);have HF:=hide (hF);have m1:¬(most:Int)<8:=by omega
 have m2:¬(64:Int)<(most:Int):=by omega
 have hmm:=@run_makeMap prog;clear hO hG hB hZ hI hk hkd hd hF;go_enter func6,ntmps6;go_wp2_with fail
 refine HO.out.mono ?_;rintro e w1⟨G,bp,bf,rfl,p1,b1⟩;have HB1:=hide (b1);have hB1:B<=w1.heap.size:=Nat.le_trans HB.out b1.size;have HBG:=hide (HG.out G bp bf w1 p1 hB1);clear p1 b1 HO HG;go_wp2_with fail
 refine HBG.out.mono ?_;rintro e w2⟨rfl,p2,b2,b3⟩;have HB2:=hide (show Below Z X w2 from HB1.out.trans (b3.mono (by have:=HB1.out.size;have:=HZ.out;omega)));have hB2:=hide (show B<=w2.heap.size from Nat.le_trans hB1 b2.size);have hrd:=rd_out HI.out (by omega) (by omega:0<60000) HF.out (p2.dsk.len 0 (by decide)) (p2.dsk.len 2 (by decide));have hrd:rdL L S 0=(pgB 4 fr,0):=hrd.resolve_right (λk=>by rw[HD.out] at k;cases k.1);have HRD:=hide (creadL 0 w2 B D G bp bf 60000 L S p2 (HI.out.okp (by omega)) (HI.out.okf (by omega)));rw[hrd] at HRD;have HP2:=hide (p2);clear p2 b2 b3 hrd HBG HB1 hB1;go_wp2_with fail
 refine HRD.out.mono ?_;rintro e w3⟨rfl,b3⟩;have HP3:=hide (HP2.out.below b3);have HB3:=hide (HB2.out.trans (b3.mono (Nat.le_trans HZ.out (Nat.le_trans (Nat.le_refl _) (by have:=HB2.out.size;exact this)))));have hB3:=hide (show B<=w3.heap.size from Nat.le_trans hB2.out b3.size);clear b3 HRD HP2;go_wp2_with fail
 refine(copenB (K:=4) (Lk:=fr) ⟨by decide,by decide⟩ hf _).mono ?_;rintro e w4⟨⟨a,c,rfl⟩,b4⟩;have HP4:=hide (HP3.out.below b4);have HB4:=hide (HB3.out.trans (b4.mono (Nat.le_trans HZ.out (by have:=HB3.out.size;exact this))));have hB4:=hide (show B<=w4.heap.size from Nat.le_trans hB3.out b4.size);have HPG:=hide (λ(W:World) (hW:Below w4.heap.size w4 W)=>cpages W B D G bp bf 60000 L S (HP4.out.below hW));clear b4 HP3;go_wp2_with fail
 go_region_with (go_at_call 29;refine(HPG.out _ ?hb).mono ?_;(case hb=>first | exact(((Below.refl _ _).alloc (Nat.le_refl _) _)).drew | exact((((Below.refl _ _).alloc (Nat.le_refl _) _).alloc (by simp) _)).drew | exact(((((Below.refl _ _).alloc (Nat.le_refl _) _).alloc (by simp) _).alloc (by simp;omega) _)).drew | exact((Below.refl _ _).alloc (Nat.le_refl _) _) | exact(((Below.refl _ _).alloc (Nat.le_refl _) _).alloc (by simp) _) | exact((((Below.refl _ _).alloc (Nat.le_refl _) _).alloc (by simp) _).alloc (by simp;omega) _));rintro e w9⟨rfl,hw⟩;rw[hw];clear hw)
 all_goals
  go_wp2
  go_ret2
  first
  | exact⟨_,⟨⟨G,bp,bf,_,_,.slice none 0 0⟩,newP most L.last.pages fr,L,S,F⟩,rfl,⟨(open_pack HP4.out hB4.out _ most L.last.pages fr (.inl ⟨rfl,rfl⟩)).1,HPI.out,Nat.le_trans hB4.out (open_pack HP4.out hB4.out _ most L.last.pages fr (.inl ⟨rfl,rfl⟩)).2.size⟩,rfl,rfl,rfl,HB4.out.trans ((open_pack HP4.out hB4.out _ most L.last.pages fr (.inl ⟨rfl,rfl⟩)).2.mono (Nat.le_trans HZ.out HB4.out.size))⟩
  | exact⟨_,⟨⟨G,bp,bf,_,_,.slice none 0 0⟩,newP most L.last.pages fr,L,S,F⟩,rfl,⟨(open_pack HP4.out hB4.out _ most L.last.pages fr (.inr ⟨rfl,rfl⟩)).1,HPI.out,Nat.le_trans hB4.out (open_pack HP4.out hB4.out _ most L.last.pages fr (.inr ⟨rfl,rfl⟩)).2.size⟩,rfl,rfl,rfl,HB4.out.trans ((open_pack HP4.out hB4.out _ most L.last.pages fr (.inr ⟨rfl,rfl⟩)).2.mono (Nat.le_trans HZ.out HB4.out.size))⟩
def L00:LS:=⟨⟨0,1,0,0⟩,0,λ_=>none,λ_=>none⟩
def K00:Pgs:=wth noP 0 (pgB 4 0)
theorem new_cm:∃L1 S1,cmL L00 newS ((0:Nat):Int) (pgB 4 0) ((1:Nat):Int)=(0,L1,S1)∧L1.last.pages=1∧Inv L1 S1 K00 K00 1∧NoF S1∧okS S1 8:=by
 have hn:NoF newS:=⟨rfl,rfl⟩;have hnf:=cmL_nf (L:=L00) hn ((0:Nat):Int) (pgB 4 0) ((1:Nat):Int);have hok:=cmL_ok (L:=L00) (S:=newS) (k:=4) ⟨⟨by decide,by decide⟩,by decide,by decide,by decide⟩ ((0:Nat):Int) (pgB 4 0) ((1:Nat):Int);rcases cm_out (n:=0) (pg:=1) inv_new (by omega) (by omega) (pgB_size 4 0) (by omega) (by omega) with⟨L1,S1,e1,d1,-⟩ | ⟨L1,S1,e1,d1,p1,I1⟩
 ·exfalso;have e1:cmL L00 newS ((0:Nat):Int) (pgB 4 0) ((1:Nat):Int)=(2,L1,S1):=e1;rw[e1] at hnf;have:=hnf.2;rw[d1] at this;cases this
 ·have e1:cmL L00 newS ((0:Nat):Int) (pgB 4 0) ((1:Nat):Int)=(0,L1,S1):=e1;rw[e1] at hnf hok;exact⟨L1,S1,e1,p1,I1,hnf,hok⟩
theorem cbegin_new (h:PL W B D G bp bf 60000 L00 newS)(hB:B<=W.heap.size){L1:LS}{S1:DS}(hc:cmL L00 newS ((0:Nat):Int) (pgB 4 0) ((1:Nat):Int)=(0,L1,S1))(hI:Inv L1 S1 K00 K00 1):Calls prog 26 #[(.pointer (some ⟨G,0,none⟩))] W λe w'=>e=.returned (.int .i64 0)∧PL w' B D G bp bf 60000 L1 S1∧Below B W w':=by
 have HC:=hide (cpages W B D G bp bf 60000 L00 newS h);have HP:=hide (h);have HB:=hide (hB);have HM:=hide (hc);have HI:=hide (hI);clear h hB hc hI;go_enter func26,ntmps26;go_wp2_with fail
 refine HC.out.mono ?_;rintro e w1⟨rfl,hw⟩;rw[hw];clear hw;have e0:((L00.last.pages:Nat):Int)=0:=rfl;rw[e0];go_wp2_with fail
 refine(csealB (K:=4) (Lk:=0) ⟨by decide,by decide⟩ (by decide) none 0 _).mono ?_;rintro e w2⟨rfl,b2⟩;have HP2:=hide (HP.out.below b2);have HB2:=hide (show B<=w2.heap.size from Nat.le_trans HB.out b2.size);have HBW:=hide (show Below B W w2 from b2.mono HB.out);have HCM:=hide (ccommit ((0:Nat):Int) (pgB 4 0) ((1:Nat):Int) w2 B D G bp bf 60000 4 L00 newS HP2.out HB2.out (by decide) ⟨⟨by decide,by decide⟩,by decide,by decide,by decide⟩ (by decide) (by decide) inv_new.pre.tp.ok);rw[HM.out] at HCM;clear b2;go_wp2_with fail
 refine HCM.out.mono ?_;rintro e w3⟨rfl,p3,b3⟩;have HP3:=hide (p3.small HI.out.pos HI.out.posF);have HB3:=hide (HBW.out.trans b3.toBelow);clear p3 b3 HCM;go_wp2;go_ret;exact⟨rfl,HP3.out,HB3.out⟩
theorem copen_first (h:PDs X B D newD)(hB:B<=X.heap.size):Calls prog 6 #[(.pointer (some ⟨D,0,none⟩)),.int .i64 8] X λe w'=>∃Gp V,e=.returned (.tuple #[(.pointer (some ⟨Gp,0,none⟩)),.int .i64 0])∧PO w' B D Gp V K00 K00 1 1∧NoF V.S∧V.P.pages=1∧V.P.free=0∧Below B X w':=by
 obtain⟨L1,S1,hc,p1,hI,hnf,hok⟩:=new_cm;obtain⟨T1,T2,T3,hS⟩:=beg_new;have:=copenP (X:=X) (B:=B) (D:=D) (Z:=B) (L0:=L00) (L:=L1) (S0:=newS) (S:=S1) (F:=K00) (j:=1) (k:=8) (m:=1) (fr:=0) 8 ⟨by decide,by decide⟩
  ((copen_new X B D 0 newD T1 T2 T3 newS h hB ⟨⟨by decide,by decide⟩,by decide,by decide,by decide⟩ (by decide) rfl new_last 0 rfl hS).mono (by
   rintro e w'⟨G,bp,bf,rfl,hL,hb⟩;exact⟨G,bp,bf,rfl,hL.mono (by omega),hb.toBelow⟩))
  (λG bp bf W hW hBW=>(cbegin_new hW hBW hc hI).mono (by
   rintro e w'⟨rfl,hL,hb⟩;exact⟨rfl,hL,hb,hb.mono (by omega)⟩))
  hB hB hI (Nat.le_refl _) (by decide) hok (by decide) ⟨by omega,by omega⟩ (λn n0 n1=>⟨pgB 4 0,by
   have:n=0:=by omega
   subst this;exact wth_at _ _ _,pgB_size _ _⟩) (by decide) (wth_at _ _ _) hnf.2
 refine this.mono ?_;rintro e w'⟨Gp,V,rfl,q1,q2,q3,q4,q5⟩;rw[p1] at q1 q3;exact⟨Gp,V,rfl,q1,by rw[q2];exact hnf,q3,q4,q5⟩
def kS (c:ByteArray):Nat:=1+bytS c 0
theorem kS_in (c:ByteArray):1<=kS c∧kS c<=256:=by have:=bytS_lt c 0;unfold kS;omega
def keyB (c:ByteArray):ByteArray:=c.extract 1 (kS c)
def restB (c:ByteArray):ByteArray:=c.extract (kS c) c.size
theorem ckeySize (c:ByteArray)(w:World)(hc:0<c.size)(hs:c.size<=1099511627776):Calls prog 178 #[.string c] w λe w'=>e=.returned (.int .i64 (kS c:Nat))∧w'=w:=by
 have h2:(0:Int)<(c.size:Int):=by omega
 have b0:=bytS_lt c 0;have g0:=bytS_get hc;have hk:((kS c:Nat):Int)=1+(bytS c 0:Int):=by unfold kS;omega
 rw[hk];go_enter func178,ntmps178;go_wp2;go_ret;exact⟨rfl,rfl⟩
theorem ckeyOf (c:ByteArray)(w:World)(hc:kS c<=c.size)(hs:c.size<=1099511627776):Calls prog 149 #[.string c] w λe w'=>e=.returned (.string (keyB c))∧w'=w:=by
 have hk:=kS_in c;have hsl:=λX=>slice_lit c 1 (kS c) hk.1 hc X
 go_enter func149,ntmps149;go_wp2_with fail
 refine(ckeySize c _ (by omega) hs).mono ?_;rintro e w1⟨rfl,rfl⟩;go_wp2_with fail
 go_ret;exact⟨rfl,rfl⟩
theorem crestOf (c:ByteArray)(w:World)(hc:kS c<=c.size)(hs:c.size<=1099511627776):Calls prog 176 #[.string c] w λe w'=>e=.returned (.string (restB c))∧w'=w:=by
 have hk:=kS_in c;go_enter func176,ntmps176;go_wp2_with fail
 refine(ckeySize c _ (by omega) hs).mono ?_;rintro e w1⟨rfl,rfl⟩;go_wp2_with fail
 go_ret;exact⟨rfl,rfl⟩
theorem cfourT (n:Nat)(w:World):Calls prog 183 #[.int .i64 n] w λe w'=>e=.returned (.string (fourB n))∧Below w.heap.size w w':=by
 have ht:=four_text w n;go_enter func183,ntmps183;go_wp2;go_ret;exact⟨rfl,(Below.refl _ _).alloc (Nat.le_refl _) _⟩
theorem cmayBe (k:ByteArray)(w:World)(hs:k.size<=1099511627776):Calls prog 50 #[.string k] w λe w'=>e=.returned (.bool (decide (0<k.size∧k.size<=200)))∧w'=w:=by
 by_cases h1:0<k.size
 ·have k1:(0:Int)<(k.size:Int):=by omega
  by_cases h2:k.size<=200
  ·have k2:(k.size:Int)<=200:=by omega
   rw[decide_eq_true ⟨h1,h2⟩];go_enter func50,ntmps50;go_wp2;go_ret;exact⟨rfl,rfl⟩
  ·have k2:¬(k.size:Int)<=200:=by omega
   rw[decide_eq_false (λh=>h2 h.2)];go_enter func50,ntmps50;go_wp2;go_ret;exact⟨rfl,rfl⟩
 ·have k1:¬(0:Int)<(k.size:Int):=by omega
  rw[decide_eq_false (λh=>h1 h.1)];go_enter func50,ntmps50;go_wp2;go_ret;exact⟨rfl,rfl⟩
theorem cfits (k:ByteArray)(n:Nat)(w:World)(hs:k.size<=1099511627776)(hn:n<=1099511627776):Calls prog 152 #[.string k,.int .i64 (n:Int)] w λe w'=>e=.returned (.bool (decide (2+k.size+n<=240)))∧w'=w:=by
 by_cases h1:2+k.size+n<=240
 ·have k1:(2:Int)+(k.size:Int)+(n:Int)<=240:=by omega
  rw[decide_eq_true h1];go_enter func152,ntmps152;go_wp2;go_ret;exact⟨rfl,rfl⟩
 ·have k1:¬(2:Int)+(k.size:Int)+(n:Int)<=240:=by omega
  rw[decide_eq_false h1];go_enter func152,ntmps152;go_wp2;go_ret;exact⟨rfl,rfl⟩
theorem cpageOf (c:ByteArray)(w:World)(hc:4<=c.size)(hs:c.size<=1099511627776):Calls prog 161 #[.string c] w λe w'=>e=.returned (.int .i64 (numB c (c.size-4):Nat))∧w'=w:=by
 obtain⟨p,hp⟩:∃p,c.size=p+4:=⟨c.size-4,by omega⟩;have hp2:c.size-4=p:=by omega
 have hp3:wrap64 ((c.size:Int)-4)=(p:Int):=by unfold wrap64;omega
 rw[hp2];go_enter func161,ntmps161;go_wp2
 go_loop [3,4] (λx y=>∃i:Nat,x=.int .i64 (numK c p i:Nat)∧y=.int .i64 ((p+i:Nat):Int)∧i<=4) (λ_ y=>p+4-(intOf y).toNat)
 case atStart=>exact⟨0,rfl,by go_num,by omega⟩
 case round =>
  obtain⟨k,rfl,rfl,hk⟩:=hrel;by_cases h0:k<4
  ·have h1:((p+k:Nat):Int)<(c.size:Int):=by omega
   have hks:p+k<c.size:=by omega
   have b0:=bytS_lt c (p+k);have g0:=bytS_get hks;have u0:=numK_7 c p (show k<=4 by omega);have h3:numK c p (k+1)=numK c p k*256+bytS c (p+k):=rfl;have hj:=join_i64 (numK c p k) (bytS c (p+k)) b0 u0;go_wp2
   go_round
   case rel=>exact⟨k+1,by rw[h3];first | rfl | go_num,by go_num,by omega⟩
   case measure=>simp[intOf];omega
  ·obtain rfl:k=4:=by omega
   have h1:¬((p+4:Nat):Int)<(c.size:Int):=by omega
   go_wp2;go_ret;exact⟨rfl,rfl⟩
def isKeyedB (c:ByteArray):Bool:=decide (0<c.size∧0<bytS c 0∧bytS c 0<=200∧kS c<=c.size)
theorem cisKeyed (c:ByteArray)(w:World)(hs:c.size<=1099511627776):Calls prog 212 #[.string c] w λe w'=>e=.returned (.bool (isKeyedB c))∧w'=w:=by
 unfold isKeyedB;by_cases h1:0<c.size
 ·have k1:(0:Int)<(c.size:Int):=by omega
  have g0:=bytS_get h1;have b0:=bytS_lt c 0;by_cases h2:0<bytS c 0
  ·have k2:(0:Int)<(bytS c 0:Int):=by omega
   by_cases h3:bytS c 0<=200
   ·have k3:(bytS c 0:Int)<=200:=by omega
    by_cases h4:kS c<=c.size
    ·have k4:((kS c:Nat):Int)<=(c.size:Int):=by omega
     rw[decide_eq_true ⟨h1,h2,h3,h4⟩];go_enter func212,ntmps212;go_wp2_with fail
     refine(ckeySize c _ h1 hs).mono ?_;rintro e w1⟨rfl,rfl⟩;go_wp2_with fail
     go_ret;exact⟨rfl,rfl⟩
    ·have k4:¬((kS c:Nat):Int)<=(c.size:Int):=by omega
     rw[decide_eq_false (λh=>h4 h.2.2.2)];go_enter func212,ntmps212;go_wp2_with fail
     refine(ckeySize c _ h1 hs).mono ?_;rintro e w1⟨rfl,rfl⟩;go_wp2_with fail
     go_ret;exact⟨rfl,rfl⟩
   ·have k3:¬(bytS c 0:Int)<=200:=by omega
    rw[decide_eq_false (λh=>h3 h.2.2.1)];go_enter func212,ntmps212;go_wp2_with fail
    go_ret;exact⟨rfl,rfl⟩
  ·have k2:¬(0:Int)<(bytS c 0:Int):=by omega
   rw[decide_eq_false (λh=>h2 h.2.1)];go_enter func212,ntmps212;go_wp2_with fail
   go_ret;exact⟨rfl,rfl⟩
 ·have k1:¬(0:Int)<(c.size:Int):=by omega
  rw[decide_eq_false (λh=>h1 h.1)];go_enter func212,ntmps212;go_wp2_with fail
  go_ret;exact⟨rfl,rfl⟩
open Go
theorem bl_irr:∀l:List UInt8,Op.bytesLess l l=false
 | []=>rfl
 | a::l=>by simp[Op.bytesLess,bl_irr l]
theorem bl_tr:∀{a b c:List UInt8},Op.bytesLess a b=true->Op.bytesLess b c=true->Op.bytesLess a c=true
 | [],[],_,h,_=>by simp[Op.bytesLess] at h
 | [],_::_,[],_,h=>by simp[Op.bytesLess] at h
 | [],_::_,_::_,_,_=>by simp[Op.bytesLess]
 | _::_,[],_,h,_=>by simp[Op.bytesLess] at h
 | _::_,_::_,[],_,h=>by simp[Op.bytesLess] at h
 | a :: x, b :: y, c :: z, h, k => by
  simp only[Op.bytesLess,Bool.or_eq_true,decide_eq_true_eq,Bool.and_eq_true,beq_iff_eq] at h k ⊢;rcases h with h | ⟨rfl,h⟩
  ·rcases k with k|⟨rfl,k⟩
   ·exact .inl (UInt8.lt_trans h k)
   ·exact .inl h
  ·rcases k with k|⟨rfl,k⟩
   ·exact .inl k
   ·exact .inr ⟨rfl,bl_tr h k⟩
theorem bl_tri:∀a b:List UInt8,Op.bytesLess a b=true∨a=b∨Op.bytesLess b a=true
 | [],[]=>.inr (.inl rfl)
 | [],_::_=>.inl (by simp[Op.bytesLess])
 | _::_,[]=>.inr (.inr (by simp[Op.bytesLess]))
 | a :: x, b :: y => by
  simp only[Op.bytesLess,Bool.or_eq_true,decide_eq_true_eq,Bool.and_eq_true,beq_iff_eq];by_cases h1:a<b
  ·exact .inl (.inl h1)
  ·by_cases h2:b<a
   ·exact .inr (.inr (.inl h2))
   ·have e:a=b:=by
     apply UInt8.toNat_inj.1;have a1:¬a.toNat<b.toNat:=λh=>h1 (UInt8.lt_iff_toNat_lt.2 h)
     have a2:¬b.toNat<a.toNat:=λh=>h2 (UInt8.lt_iff_toNat_lt.2 h)
     omega
    subst e;rcases bl_tri x y with h | h | h
    ·exact .inl (.inr ⟨rfl,h⟩)
    ·exact .inr (.inl (by rw[h]))
    ·exact .inr (.inr (.inr ⟨rfl,h⟩))
def klt (a b:ByteArray):Bool:=Op.bytesLess a.toList b.toList
theorem toList_inj (h:a.toList=b.toList):a=b:=by
 rw[ByteArray.toList_eq,ByteArray.toList_eq] at h;cases a;cases b;simp at h;rw[h]
theorem klt_irr (a:ByteArray):klt a a=false:=bl_irr _
theorem klt_tr (h:klt a b=true)(k:klt b c=true):klt a c=true:=bl_tr h k
theorem klt_tri (a b:ByteArray):klt a b=true∨a=b∨klt b a=true:=(bl_tri a.toList b.toList).imp id (λh=>h.imp toList_inj id)
theorem klt_asy (h:klt a b=true):klt b a=false:=by
 cases k:klt b a with
 | false=>rfl
 | true=>have:=klt_tr h k;rw[klt_irr] at this;cases this
theorem kle_lt (h:klt b a=false)(k:klt b c=true):klt a c=true:=by
 rcases klt_tri a b with e|e|e
 ·exact klt_tr e k
 ·rw[e];exact k
 ·rw[h] at e;cases e
theorem klt_le (h:klt a b=true)(k:klt c b=false):klt a c=true:=by
 rcases klt_tri b c with e|e|e
 ·exact klt_tr h e
 ·rw[<-e];exact h
 ·rw[k] at e;cases e
theorem kle_tr (h:klt b a=false)(k:klt c b=false):klt c a=false:=by
 cases e:klt c a with
 | false=>rfl
 | true=>have:=klt_le e h;rw[k] at this;cases this
def ltB (k h:ByteArray):Prop:=h=⟨#[]⟩∨klt k h=true
abbrev Ent:=ByteArray×ByteArray
structure It where
 key:ByteArray
 val:ByteArray
 pgs:List Nat
structure PgV where
 kind:Nat
 link:Nat
 cells:List ByteArray
structure Lf where
 num:Nat
 link:Nat
 its:List It
structure Inn (α:Type) where
 num:Nat
 kids:List (ByteArray×α)
@[reducible] def T:Nat->Type
 | 0=>Lf
 | d+1=>Inn (T d)
def keyedB (k:ByteArray):ByteArray:=⟨#[k.size.toUInt8]⟩++k
def inlineB (k v:ByteArray):ByteArray:=keyedB k++⟨#[0]⟩++v
def longB (k:ByteArray)(size n:Nat):ByteArray:=keyedB k++⟨#[1,(size/256).toUInt8,size.toUInt8]⟩++fourB n
def childB (k:ByteArray)(n:Nat):ByteArray:=keyedB k++fourB n
def cellI (i:It):ByteArray:=match i.pgs with
 | []=>inlineB i.key i.val
 | p::_=>longB i.key i.val.size p
def numT:(d:Nat)->T d->Nat
 | 0,t=>t.num
 | _+1,t=>t.num
def cellsT:(d:Nat)->T d->List ByteArray
 | 0,t=>t.its.map cellI
 | d+1,t=>t.kids.tail.map λp=>childB p.1 (numT d p.2)
def linkT:(d:Nat)->T d->Nat
 | 0,t=>t.link
 | d + 1, t => match t.kids with
  | []=>0
  | p::_=>numT d p.2
def kindT:Nat->Nat
 | 0=>1
 | _+1=>2
def pgT (d:Nat)(t:T d):PgV:=⟨kindT d,linkT d t,cellsT d t⟩
def usedC (l:List ByteArray):Nat:=(l.map λc=>4+c.size).sum
def valN:List Nat->List ByteArray->List (Nat×PgV)
 | p::ps,c::cs=>(p,⟨5,ps.headD 0,[c]⟩)::valN ps cs
 | _,_=>[]
def cuts (v:ByteArray):Nat->Nat->List ByteArray
 | _,0=>[]
 | a,n+1=>v.extract a (min (a+1008) v.size)::cuts v (a+1008) n
def piecesV (v:ByteArray):List ByteArray:=cuts v 0 ((v.size+1007)/1008)
def nodI (i:It):List (Nat×PgV):=valN i.pgs (piecesV i.val)
def nodT:(d:Nat)->T d->List (Nat×PgV)
 | 0,t=>(t.num,pgT 0 t)::t.its.flatMap nodI
 | d+1,t=>(t.num,pgT (d+1) t)::t.kids.flatMap λp=>nodT d p.2
def entT:(d:Nat)->T d->List Ent
 | 0,t=>t.its.map λi=>(i.key,i.val)
 | d+1,t=>t.kids.flatMap λp=>entT d p.2
def lvsT:(d:Nat)->T d->List (Nat×Nat)
 | 0,t=>[(t.num,t.link)]
 | d+1,t=>t.kids.flatMap λp=>lvsT d p.2
def okK (k:ByteArray):Prop:=0<k.size∧k.size<=200
structure okI (i:It):Prop where
 key:okK i.key
 val:i.val.size<=3000
 pgs:i.pgs.length=if 2+i.key.size+i.val.size<=240 then 0 else(i.val.size+1007)/1008
def BI (lo:ByteArray):List It->ByteArray->Prop
 | [],_=>True
 | i::r,hi=>okI i∧klt i.key lo=false∧ltB i.key hi∧(∀j∈r,klt i.key j.key=true)∧BI lo r hi
def nxt (s:List (ByteArray×α))(hi:ByteArray):ByteArray:=match s with
 | []=>hi
 | p::_=>p.1
def BS (B:ByteArray->ByteArray->α->Prop):List (ByteArray×α)->ByteArray->Prop
 | [],_=>True
 | p::r,hi=>ltB p.1 (nxt r hi)∧B p.1 (nxt r hi) p.2∧(∀q∈r,okK q.1)∧BS B r hi
def Bnd:(d:Nat)->ByteArray->ByteArray->T d->Prop
 | 0,lo,hi,t=>BI lo t.its hi
 | d+1,lo,hi,t=>(∃p r,t.kids=p::r∧p.1=lo)∧BS (Bnd d) t.kids hi
def FilN:(d:Nat)->T d->Prop
 | 0,t=>180<=usedC (cellsT 0 t)∧usedC (cellsT 0 t)<=1012
 | d+1,t=>(180<=usedC (cellsT (d+1) t)∧usedC (cellsT (d+1) t)<=1012)∧∀p∈t.kids,FilN d p.2
def FilK:(d:Nat)->T d->Prop
 | 0,_=>True
 | d+1,t=>∀p∈t.kids,FilN d p.2
theorem FilN_iff (d:Nat)(t:T d):FilN d t↔(180<=usedC (cellsT d t)∧usedC (cellsT d t)<=1012)∧FilK d t:=by
 cases d with
 | zero=>exact⟨λh=>⟨h,trivial⟩,λh=>h.1⟩
 | succ d=>exact Iff.rfl
def Cxs:Nat->Nat->Type
 | 0,_=>Unit
 | h+1,d=>(Nat×List (ByteArray×T d)×ByteArray×List (ByteArray×T d))×Cxs h (d+1)
structure Cx (d:Nat) where
 h:Nat
 v:Cxs h d
def Cx.top (d:Nat):Cx d:=⟨0,()⟩
def Cx.up (num:Nat)(s1:List (ByteArray×T d))(k:ByteArray)(s2:List (ByteArray×T d))(c:Cx (d+1)):Cx d:=⟨c.h+1,(num,s1,k,s2),c.v⟩
theorem Cx.ind0 {P:(d:Nat)->Cx d->Prop}(ht:∀d,P d (.top d))(hu:∀d num s1 k s2 c,P (d+1) c->P d (.up num s1 k s2 c)):∀(h:Nat) (d:Nat) (v:Cxs h d),P d ⟨h,v⟩
 | 0,d,_=>ht d
 | h+1,d,v=>hu d v.1.1 v.1.2.1 v.1.2.2.1 v.1.2.2.2 ⟨h,v.2⟩ (Cx.ind0 ht hu h (d+1) v.2)
theorem Cx.ind {P:(d:Nat)->Cx d->Prop}(ht:∀d,P d (.top d))(hu:∀d num s1 k s2 c,P (d+1) c->P d (.up num s1 k s2 c))(c:Cx d):P d c:=Cx.ind0 ht hu c.h d c.v
def fdS (t:Nat->α)(u:(d:Nat)->Nat->List (ByteArray×T d)->ByteArray->List (ByteArray×T d)->Cx (d+1)->α->α):(h:Nat)->(d:Nat)->Cxs h d->α
 | 0,d,_=>t d
 | h+1,d,v=>u d v.1.1 v.1.2.1 v.1.2.2.1 v.1.2.2.2 ⟨h,v.2⟩ (fdS t u h (d+1) v.2)
def Cx.fd (c:Cx d)(t:Nat->α)(u:(d:Nat)->Nat->List (ByteArray×T d)->ByteArray->List (ByteArray×T d)->Cx (d+1)->α->α):α:=fdS t u c.h d c.v
def frm (num:Nat)(s1:List (ByteArray×T d))(k:ByteArray)(x:T d)(s2:List (ByteArray×T d)):T (d+1):=⟨num,s1++(k,x)::s2⟩
def entS (s:List (ByteArray×T d)):List Ent:=s.flatMap λp=>entT d p.2
def lvsS (s:List (ByteArray×T d)):List (Nat×Nat):=s.flatMap λp=>lvsT d p.2
def nodS (s:List (ByteArray×T d)):List (Nat×PgV):=s.flatMap λp=>nodT d p.2
def Cx.pre (c:Cx d):List Ent:=c.fd (λ_=>[]) λ_ _ s1 _ _ _ r=>r++entS s1
def Cx.suf (c:Cx d):List Ent:=c.fd (λ_=>[]) λ_ _ _ _ s2 _ r=>entS s2++r
def Cx.lpre (c:Cx d):List (Nat×Nat):=c.fd (λ_=>[]) λ_ _ s1 _ _ _ r=>r++lvsS s1
def Cx.lsuf (c:Cx d):List (Nat×Nat):=c.fd (λ_=>[]) λ_ _ _ _ s2 _ r=>lvsS s2++r
def Cx.root (c:Cx d):Nat->Nat:=c.fd (λ_ n=>n) λ_ num _ _ _ _ r _=>r num
def Cx.dep (c:Cx d):Nat:=c.fd (λd=>d) λ_ _ _ _ _ _ r=>r
def frP (s1:List (ByteArray×T d))(k:ByteArray)(s2:List (ByteArray×T d))(n:Nat):PgV:=
 let l:=s1.map (λp=>(p.1,numT d p.2))++(k,n)::s2.map (λp=>(p.1,numT d p.2))
 ⟨2,(l.headD (k,n)).2,l.tail.map λp=>childB p.1 p.2⟩
theorem frP_eq (num:Nat)(s1:List (ByteArray×T d))(k:ByteArray)(x:T d)(s2:List (ByteArray×T d)):frP s1 k s2 (numT d x)=pgT (d+1) (frm num s1 k x s2):=by
 cases s1 with
 | nil=>simp[frP,pgT,kindT,linkT,cellsT,frm]
 | cons p r=>simp[frP,pgT,kindT,linkT,cellsT,frm,Function.comp_def]
structure OthT where
 l:List (Nat×PgV)
abbrev Oth:Type:=Inhabited OthT
abbrev Oth.l [o:Oth]:List (Nat×PgV):=o.default.l
def Cx.nod [Oth](c:Cx d):Nat->List (Nat×PgV):=c.fd (λ_ _=>Oth.l) λ_ num s1 k s2 _ r n=>(num,frP s1 k s2 n)::(nodS s1++nodS s2)++r num
def Cx.bnd (c:Cx d):ByteArray->ByteArray->Prop:=c.fd (λ_ lo hi=>lo=⟨#[]⟩∧hi=⟨#[]⟩) λd _ s1 k s2 _ r lo hi=>∃lo' hi',r lo' hi'∧lo=k∧hi=nxt s2 hi'∧BS (Bnd d) s1 k∧BS (Bnd d) s2 hi'∧ltB k (nxt s2 hi')∧nxt s1 k=lo'∧(∀q∈s2,okK q.1)∧(∀q∈s1.tail,okK q.1)∧(s1=[]∨okK k)
def Cx.isTop (c:Cx d):Bool:=c.fd (λ_=>true) λ_ _ _ _ _ _ _=>false
def Cx.fil (c:Cx d):Prop:=c.fd (λ_=>True) λd _ s1 k s2 c r=>(∀p∈s1,FilN d p.2)∧(∀p∈s2,FilN d p.2)∧((c.isTop=true∨180<=usedC (frP s1 k s2 0).cells)∧usedC (frP s1 k s2 0).cells<=1012)∧r
def Cx.two (c:Cx d):Prop:=c.fd (λ_=>True) λ_ _ s1 _ s2 _ r=>¬(s1=[]∧s2=[])∧r
section
variable {s1 s2:List (ByteArray×T d)}{c:Cx (d+1)}
theorem pre1:(Cx.top d).pre=[]:=rfl
theorem pre2:(Cx.up num s1 k s2 c).pre=c.pre++entS s1:=rfl
theorem suf1:(Cx.top d).suf=[]:=rfl
theorem suf2:(Cx.up num s1 k s2 c).suf=entS s2++c.suf:=rfl
theorem lpre1:(Cx.top d).lpre=[]:=rfl
theorem lpre2:(Cx.up num s1 k s2 c).lpre=c.lpre++lvsS s1:=rfl
theorem lsuf1:(Cx.top d).lsuf=[]:=rfl
theorem lsuf2:(Cx.up num s1 k s2 c).lsuf=lvsS s2++c.lsuf:=rfl
theorem fil2:(Cx.up num s1 k s2 c).fil↔(∀p∈s1,FilN d p.2)∧(∀p∈s2,FilN d p.2)∧((c.isTop=true∨180<=usedC (frP s1 k s2 0).cells)∧usedC (frP s1 k s2 0).cells<=1012)∧c.fil:=Iff.rfl
theorem bnd2:(Cx.up num s1 k s2 c).bnd lo hi↔∃lo' hi',c.bnd lo' hi'∧lo=k∧hi=nxt s2 hi'∧BS (Bnd d) s1 k∧BS (Bnd d) s2 hi'∧ltB k (nxt s2 hi')∧nxt s1 k=lo'∧(∀q∈s2,okK q.1)∧(∀q∈s1.tail,okK q.1)∧(s1=[]∨okK k):=Iff.rfl
theorem nod1 [Oth]:(Cx.top d).nod n=Oth.l:=rfl
theorem nod2 [Oth]:(Cx.up num s1 k s2 c).nod n=(num,frP s1 k s2 n)::(nodS s1++nodS s2)++c.nod num:=rfl
end
def hdL (l:List (Nat×Nat))(nx:Nat):Nat:=match l with
 | []=>nx
 | p::_=>p.1
def lk:List (Nat×Nat)->Nat->Prop
 | [],_=>True
 | p::r,nx=>p.2=hdL r nx∧lk r nx
theorem lk_app:∀(a b:List (Nat×Nat)) (nx:Nat),lk (a++b) nx↔lk a (hdL b nx)∧lk b nx
 | [],b,nx=>by simp[lk]
 | p :: r, b, nx => by
  have e:hdL (r++b) nx=hdL r (hdL b nx):=by cases r<;>rfl
  simp only[List.cons_append,lk,lk_app r b nx,e];constructor
  ·rintro⟨h1,h2,h3⟩;exact⟨⟨h1,h2⟩,h3⟩
  ·rintro⟨⟨h1,h2⟩,h3⟩;exact⟨h1,h2,h3⟩
theorem hdL_app (a b:List (Nat×Nat))(nx:Nat):hdL (a++b) nx=hdL a (hdL b nx):=by cases a<;>rfl
theorem usedC_app (a b:List ByteArray):usedC (a++b)=usedC a+usedC b:=by simp[usedC]
theorem usedC_cons (a:ByteArray)(b:List ByteArray):usedC (a::b)=4+a.size+usedC b:=by simp[usedC]
theorem nxt_app (a b:List (ByteArray×α))(hi:ByteArray):nxt (a++b) hi=nxt a (nxt b hi):=by cases a<;>rfl
theorem BS_app {B:ByteArray->ByteArray->α->Prop}:∀(a b:List (ByteArray×α)) (hi:ByteArray),BS B (a++b) hi↔BS B a (nxt b hi)∧BS B b hi∧(a=[]∨∀q∈b,okK q.1)
 | [],b,hi=>by simp[BS]
 | p :: r, b, hi => by
  simp only[List.cons_append,BS,BS_app r b hi,nxt_app,List.mem_append];constructor
  ·rintro⟨h1,h2,h3,h4,h5,h6⟩;exact⟨⟨h1,h2,λq hq=>h3 q (.inl hq),h4⟩,h5,.inr λq hq=>h3 q (.inr hq)⟩
  ·rintro⟨⟨h1,h2,h3,h4⟩,h5,h6⟩;have h6:∀q∈b,okK q.1:=h6.resolve_left (by simp);exact⟨h1,h2,λq hq=>hq.elim (h3 q) (h6 q),h4,h5,.inr h6⟩
theorem BI_app:∀(a b:List It) (hi:ByteArray),BI lo (a++b) hi↔BI lo a hi∧BI lo b hi∧∀x∈a,∀y∈b,klt x.key y.key=true
 | [],b,hi=>by simp[BI]
 | p :: r, b, hi => by
  simp only[List.cons_append,BI,BI_app r b hi,List.mem_append,List.mem_cons];constructor
  ·rintro⟨h1,h2,h3,h4,h5,h6,h7⟩;exact⟨⟨h1,h2,h3,λj hj=>h4 j (.inl hj),h5⟩,h6,λx hx y hy=>by
    rcases hx with rfl|hx
    ·exact h4 y (.inr hy)
    ·exact h7 x hx y hy⟩
  ·rintro⟨⟨h1,h2,h3,h4,h5⟩,h6,h7⟩;exact⟨h1,h2,h3,λj hj=>hj.elim (h4 j) (λhj=>h7 p (.inl rfl) j hj),h5,h6,λx hx y hy=>h7 x (.inr hx) y hy⟩
theorem BI_mem:∀{l:List It} {hi:ByteArray},BI lo l hi->∀i∈l,okI i∧klt i.key lo=false∧ltB i.key hi
 | _ :: _, hi, ⟨h1, h2, h3, _, h5⟩, i, hm => by
  rcases List.mem_cons.1 hm with rfl|hm
  ·exact⟨h1,h2,h3⟩
  ·exact BI_mem h5 i hm
theorem BI_re {lo' hi':ByteArray}:∀{l:List It},BI lo l hi->(∀i∈l,klt i.key lo'=false∧ltB i.key hi')->BI lo' l hi'
 | [],_,_=>trivial
 | p::_,⟨h1,_,_,h4,h5⟩,h=>⟨h1,(h p (List.mem_cons_self ..)).1,(h p (List.mem_cons_self ..)).2,h4,BI_re h5 λi hi=>h i (List.mem_cons_of_mem _ hi)⟩
theorem ltB_ne (h:ltB a b)(hb:okK b):klt a b=true:=h.resolve_left (λe=>by rw[e] at hb;exact absurd hb.1 (by decide))
theorem bs_ltB:∀(d:Nat) (s:List (ByteArray×T d)) (hi:ByteArray),BS (Bnd d) s hi->¬s=[]->ltB (nxt s hi) hi
 | d,[p],hi,⟨h1,_⟩,_=>h1
 | d, p :: q :: r, hi, ⟨h1, _, h3, h4⟩, _ => by
  have hq:klt p.1 q.1=true:=ltB_ne h1 (h3 q (List.mem_cons_self ..));have h5:ltB q.1 hi:=bs_ltB d (q::r) hi h4 (by simp);exact h5.imp id (λk=>klt_tr hq k)
theorem entS_of (d:Nat)(ih:∀(lo hi:ByteArray) (t:T d),Bnd d lo hi t->∀e∈entT d t,klt e.1 lo=false∧ltB e.1 hi∧okK e.1):∀(s:List (ByteArray×T d)) (hi:ByteArray),BS (Bnd d) s hi->∀e∈s.flatMap (λp=>entT d p.2),klt e.1 (nxt s hi)=false∧ltB e.1 hi∧okK e.1
 | p :: r, hi, ⟨h1, h2, h3, h4⟩, e, he => by
  rw[List.flatMap_cons,List.mem_append] at he;rcases he with he | he
  ·have:=ih p.1 (nxt r hi) p.2 h2 e he;refine⟨this.1,?_,this.2.2⟩;cases r with
   | nil=>exact this.2.1
   | cons q r =>
    have hq:klt e.1 q.1=true:=ltB_ne this.2.1 (h3 q (List.mem_cons_self ..));have hq':ltB q.1 hi:=bs_ltB d (q::r) hi h4 (by simp);exact hq'.imp id (λk=>klt_tr hq k)
  ·have:=entS_of d ih r hi h4 e he;refine⟨?_,this.2⟩;cases r with
   | nil=>simp at he
   | cons q r =>
    have hq:klt p.1 q.1=true:=ltB_ne h1 (h3 q (List.mem_cons_self ..));have h9:klt e.1 q.1=false:=this.1;exact kle_tr (klt_asy hq) h9
theorem ent_in:∀(d:Nat) (lo hi:ByteArray) (t:T d),Bnd d lo hi t->∀e∈entT d t,klt e.1 lo=false∧ltB e.1 hi∧okK e.1
 | 0, lo, hi, t, h, e, he => by
  simp only[entT,List.mem_map] at he;obtain⟨i,hi',rfl⟩:=he;have:=BI_mem h i hi';exact⟨this.2.1,this.2.2,this.1.key⟩
 | d + 1, lo, hi, t, ⟨⟨p, r, hk, hp⟩, hb⟩, e, he => by
  have:=entS_of d (ent_in d) t.kids hi hb e he;rw[hk] at this;have h1:klt e.1 p.1=false:=this.1;rw[hp] at h1;exact⟨h1,this.2⟩
theorem entS_in (d:Nat)(s:List (ByteArray×T d))(hi:ByteArray):BS (Bnd d) s hi->∀e∈s.flatMap (λp=>entT d p.2),klt e.1 (nxt s hi)=false∧ltB e.1 hi∧okK e.1:=entS_of d (ent_in d) s hi
structure WfB {d:Nat} (c:Cx d) (x:T d) (es:List Ent):Prop where
 bnd:∃lo hi,c.bnd lo hi∧Bnd d lo hi x
 fil:c.fil
 ent:c.pre++entT d x++c.suf=es
 lks:lk (c.lpre++lvsT d x++c.lsuf) 0
theorem entS_app (a b:List (ByteArray×T d)):entS (a++b)=entS a++entS b:=by simp[entS]
theorem lvsS_app (a b:List (ByteArray×T d)):lvsS (a++b)=lvsS a++lvsS b:=by simp[lvsS]
theorem nodS_app (a b:List (ByteArray×T d)):nodS (a++b)=nodS a++nodS b:=by simp[nodS]
theorem entT_s (t:T (d+1)):entT (d+1) t=entS t.kids:=rfl
theorem lvsT_s (t:T (d+1)):lvsT (d+1) t=lvsS t.kids:=rfl
theorem entS_cons (p:ByteArray×T d)(b:List (ByteArray×T d)):entS (p::b)=entT d p.2++entS b:=by simp[entS]
theorem lvsS_cons (p:ByteArray×T d)(b:List (ByteArray×T d)):lvsS (p::b)=lvsT d p.2++lvsS b:=by simp[lvsS]
theorem nodS_cons (p:ByteArray×T d)(b:List (ByteArray×T d)):nodS (p::b)=nodT d p.2++nodS b:=by simp[nodS]
theorem nodT_eq:∀(d:Nat) (t:T d),nodT d t=(numT d t,pgT d t)::(nodT d t).tail
 | 0,_=>rfl
 | _+1,_=>rfl
theorem nodT_s (t:T (d+1)):(nodT (d+1) t).tail=nodS t.kids:=rfl
theorem fourB_sz (n:Nat):(fourB n).size=4:=by unfold fourB;rfl
theorem keyedB_sz (k:ByteArray):(keyedB k).size=1+k.size:=by unfold keyedB;rw[ByteArray.size_append];rfl
theorem childB_sz (k:ByteArray)(n:Nat):(childB k n).size=5+k.size:=by unfold childB;rw[ByteArray.size_append,keyedB_sz,fourB_sz];omega
theorem WfB.up {s1 s2:List (ByteArray×T d)}{c:Cx (d+1)}{x:T d}{es:List Ent}(h:WfB (.up num s1 k s2 c) x es):WfB c (frm num s1 k x s2) es:=by
 obtain⟨lo,hi,⟨lo',hi',b1,e1,e2,b2,b3,b4,b5,b6,b7,b8⟩,hx⟩:=h.bnd;rw[e1,e2] at hx;refine⟨⟨lo',hi',b1,?_,?_⟩,h.fil.2.2.2,?_,?_⟩
 ·cases s1 with
  | nil=>exact⟨(k,x),s2,rfl,b5⟩
  | cons p r=>exact⟨p,r++(k,x)::s2,rfl,b5⟩
 ·show BS (Bnd d) (s1++(k,x)::s2) hi';rw[BS_app];refine⟨b2,⟨b4,hx,b6,b3⟩,?_⟩;rcases b8 with b8 | b8
  ·exact .inl b8
  ·exact .inr λq hq=>by
    rcases List.mem_cons.1 hq with rfl|hq
    ·exact b8
    ·exact b6 q hq
 ·rw[entT_s];show c.pre++entS (s1++(k,x)::s2)++c.suf=es;rw[<-h.ent,entS_app,entS_cons];simp[pre2,suf2]
 ·have:=h.lks;simp only[lpre2,lsuf2] at this;rw[lvsT_s];show lk (c.lpre++lvsS (s1++(k,x)::s2)++c.lsuf) 0;rw[lvsS_app,lvsS_cons];simpa using this
theorem WfB.down {s1 s2:List (ByteArray×T d)}{c:Cx (d+1)}{x:T d}{es:List Ent}(h:WfB c (frm num s1 k x s2) es)(hk:∀p∈s1++(k,x)::s2,FilN d p.2)(h1:(c.isTop=true∨180<=usedC (cellsT (d+1) (frm num s1 k x s2)))∧usedC (cellsT (d+1) (frm num s1 k x s2))<=1012):WfB (.up num s1 k s2 c) x es:=by
 obtain⟨lo',hi',b1,⟨p0,r0,e0,b5⟩,hb⟩:=h.bnd;have hb:BS (Bnd d) (s1++(k,x)::s2) hi':=hb;rw[BS_app] at hb;obtain⟨b2,⟨b4,hx,b6,b3⟩,b8⟩:=hb;have e0:s1++(k,x)::s2=p0::r0:=e0;have hu:∀n m,usedC (frP s1 k s2 n).cells=usedC (frP s1 k s2 m).cells:=λn m=>by
  have hc:∀q:ByteArray,(childB q n).size=(childB q m).size:=λq=>by rw[childB_sz,childB_sz]
  cases s1 with
  | nil=>simp[frP,usedC]
  | cons p r=>simp[frP,usedC,hc]
 have hq:usedC (frP s1 k s2 0).cells=usedC (cellsT (d+1) (frm num s1 k x s2)):=by
  rw[hu 0 (numT d x),frP_eq num];rfl
 refine⟨⟨k,nxt s2 hi',bnd2.2 ⟨lo',hi',b1,rfl,rfl,b2,b3,b4,?_,b6,?_,?_⟩,hx⟩,fil2.2 ⟨λp hp=>hk p (by simp[hp]),λp hp=>hk p (by simp[hp]),by rw[hq];exact h1,h.fil⟩,?_,?_⟩
 ·cases s1 with
  | nil=>simp at e0;rw[<-b5,<-e0.1];rfl
  | cons p r=>simp at e0;rw[<-b5,<-e0.1];rfl
 ·intro q hq;cases s1 with
  | nil=>simp at hq
  | cons p r=>exact b2.2.2.1 q hq
 ·rcases b8 with b8|b8
  ·exact .inl b8
  ·exact .inr (b8 (k,x) (List.mem_cons_self ..))
 ·have:=h.ent;rw[entT_s] at this;have this:c.pre++entS (s1++(k,x)::s2)++c.suf=es:=this;rw[<-this,entS_app,entS_cons];simp[pre2,suf2]
 ·have:=h.lks;rw[lvsT_s] at this;have this:lk (c.lpre++lvsS (s1++(k,x)::s2)++c.lsuf) 0:=this;rw[lvsS_app,lvsS_cons] at this;simpa[lpre2,lsuf2] using this
theorem WfB.repl {s1 g m s2:List (ByteArray×T d)}{c:Cx (d+1)}{es:List Ent}(h:WfB c (⟨num,s1++g++s2⟩:Inn (T d)) es)(hg:¬g=[])(hm:¬m=[])(hn:∀hi,nxt m hi=nxt g hi)(hb:∀hi,BS (Bnd d) g hi->BS (Bnd d) m hi)(hk:∀q∈m.tail,okK q.1)(he:entS m=entS g)(hl:∀nx,lk (lvsS g) nx->lk (lvsS m) nx∧hdL (lvsS m) nx=hdL (lvsS g) nx):WfB c (⟨num,s1++m++s2⟩:Inn (T d)) es:=by
 obtain⟨lo',hi',b1,⟨p0,r0,e0,b5⟩,h2⟩:=h.bnd;have h2:BS (Bnd d) (s1++g++s2) hi':=h2;rw[List.append_assoc,BS_app,BS_app] at h2;obtain⟨a1,⟨a2,a3,a4⟩,a5⟩:=h2;have a4:∀q∈s2,okK q.1:=a4.resolve_left hg;have hfirst:∀hi,nxt (s1++m++s2) hi=nxt (s1++g++s2) hi:=λhi=>by
  rw[nxt_app,nxt_app,nxt_app,nxt_app,hn]
 refine⟨⟨lo',hi',b1,?_,?_⟩,h.fil,?_,?_⟩
 ·have e0:s1++g++s2=p0::r0:=e0;have:=hfirst ⟨#[]⟩;rw[e0] at this;show ∃p r,s1++m++s2=p::r∧p.1=lo';cases hq:s1++m++s2 with
  | nil=>simp at hq;exact absurd hq.2.1 hm
  | cons p r =>
   rw[hq] at this;exact⟨p,r,rfl,by rw[<-b5];exact this⟩
 ·show BS (Bnd d) (s1++m++s2) hi';rw[List.append_assoc,BS_app,BS_app];refine⟨?_,⟨hb _ a2,a3,.inr a4⟩,?_⟩
  ·rw[nxt_app,hn,<-nxt_app];exact a1
  ·rcases a5 with a5|a5
   ·exact .inl a5
   ·refine .inr λq hq=>?_
    rcases List.mem_append.1 hq with hq|hq
    ·cases m with
     | nil=>exact absurd rfl hm
     | cons p r =>
      rcases List.mem_cons.1 hq with rfl|hq
      ·cases g with
       | nil=>exact absurd rfl hg
       | cons p' r' =>
        have e:=hn ⟨#[]⟩;have e:q.1=p'.1:=e;rw[e];exact a5 p' (by simp)
      ·exact hk q hq
    ·exact a4 q hq
 ·rw[<-h.ent,entT_s,entT_s];show c.pre++entS (s1++m++s2)++c.suf=c.pre++entS (s1++g++s2)++c.suf;rw[entS_app,entS_app,entS_app,entS_app,he]
 ·have:=h.lks;rw[lvsT_s] at this ⊢;have this:lk (c.lpre++lvsS (s1++g++s2)++c.lsuf) 0:=this;show lk (c.lpre++lvsS (s1++m++s2)++c.lsuf) 0;simp only[lvsS_app,List.append_assoc,lk_app,hdL_app] at this ⊢;obtain⟨l1,l2,l3,l4⟩:=this;obtain⟨m1,m2⟩:=hl _ l3;rw[m2];exact⟨l1,l2,m1,l4⟩
def splT:(d:Nat)->Nat->Nat->T d->T d×ByteArray×T d
 | 0,m,r,x=>(⟨x.num,r,x.its.take m⟩,((x.its.drop m).head?.map (·.key)).getD ⟨#[]⟩,⟨r,x.link,x.its.drop m⟩)
 | _+1,m,r,x=>(⟨x.num,x.kids.take (m+1)⟩,((x.kids.drop (m+1)).head?.map (·.1)).getD ⟨#[]⟩,⟨r,x.kids.drop (m+1)⟩)
def mrgT:(d:Nat)->T d->T d->T d
 | 0,a,b=>⟨a.num,b.link,a.its++b.its⟩
 | _+1,a,b=>⟨a.num,a.kids++b.kids⟩
theorem spl_num (d m r:Nat)(x:T d):numT d (splT d m r x).1=numT d x∧numT d (splT d m r x).2.2=r:=by
 cases d<;>exact⟨rfl,rfl⟩
theorem mrg_num (d:Nat)(a b:T d):numT d (mrgT d a b)=numT d a:=by cases d<;>rfl
theorem BI_lt {a:List It}{i:It}{b:List It}(h:BI lo (a++i::b) hi)(ha:¬a=[]):klt lo i.key=true:=by
 cases a with
 | nil=>exact absurd rfl ha
 | cons j a =>
  have h1:=h.2.2.2.1 i (by simp);exact kle_lt h.2.1 h1
theorem spl_bnd (d m r:Nat)(x:T d)(h:ltB k hi∧Bnd d k hi x)(hm:0<m∧m<(cellsT d x).length):okK (splT d m r x).2.1∧BS (Bnd d) [(k,(splT d m r x).1),((splT d m r x).2.1,(splT d m r x).2.2)] hi:=by
 cases d with
 | zero =>
  obtain⟨hk,hb⟩:=h;have hl:m<x.its.length:=by simpa[cellsT] using hm.2
  have e:x.its=x.its.take m++x.its[m]::x.its.drop (m+1):=by rw[<-List.drop_eq_getElem_cons hl,List.take_append_drop]
  have hb:BI k x.its hi:=hb;have hb2:=hb;rw[e] at hb2;have hlt:=BI_lt hb2 (λh=>by have:=congrArg List.length h;simp at this;rcases this with this | this<;>(first | omega | (rw[this] at hl;simp at hl)));obtain⟨b1,b2,b3⟩:=(BI_app _ _ _).1 hb2;have hd:(splT 0 m r x).2.1=x.its[m].key:=by show((x.its.drop m).head?.map (·.key)).getD _=_;rw[List.drop_eq_getElem_cons hl];rfl
  have hr:(splT 0 m r x).2.2=⟨r,x.link,x.its[m]::x.its.drop (m+1)⟩:=by rw[<-List.drop_eq_getElem_cons hl];rfl
  rw[hd,hr];refine⟨b2.1.key,.inr hlt,?_,λq hq=>?_,?_,?_,λq hq=>by simp at hq,trivial⟩
  ·refine BI_re b1 λi hi'=>⟨(BI_mem b1 i hi').2.1,.inr (b3 i hi' _ (List.mem_cons_self ..))⟩
  ·simp at hq;rw[hq];exact b2.1.key
  ·exact b2.2.2.1
  ·refine BI_re b2 λi hi'=>⟨?_,(BI_mem b2 i hi').2.2⟩
   rcases List.mem_cons.1 hi' with rfl|hi'
   ·exact klt_irr _
   ·exact klt_asy (b2.2.2.2.1 i hi')
 | succ d =>
  obtain⟨hk,⟨p0,r0,e0,hp0⟩,hb⟩:=h;have hl:m+1<x.kids.length:=by have:=hm.2;simp[cellsT] at this;omega
  have e:x.kids=x.kids.take (m+1)++x.kids[m+1]::x.kids.drop (m+1+1):=by rw[<-List.drop_eq_getElem_cons hl,List.take_append_drop]
  have hd:(splT (d+1) m r x).2.1=x.kids[m+1].1:=by show((x.kids.drop (m+1)).head?.map (·.1)).getD _=_;rw[List.drop_eq_getElem_cons hl];rfl
  have hr:(splT (d+1) m r x).2.2=(⟨r,x.kids[m+1]::x.kids.drop (m+1+1)⟩:Inn (T d)):=by rw[<-List.drop_eq_getElem_cons hl];rfl
  have hb:BS (Bnd d) x.kids hi:=hb;have hb2:BS (Bnd d) (x.kids.take (m+1)++x.kids[m+1]::x.kids.drop (m+1+1)) hi:=by rw[<-e];exact hb
  rw[BS_app] at hb2;obtain⟨b1,b2,b3⟩:=hb2;have hne:¬x.kids.take (m+1)=[]:=λh=>by have:=congrArg List.length h;simp at this;rw[this] at hl;simp at hl
  have b3:=b3.resolve_left hne;have hok:=b3 _ (List.mem_cons_self ..);have hlo:∀q:ByteArray,nxt (x.kids.take (m+1)) q=k:=λq=>by rw[e0];exact hp0
  have hlo2:∃p r,x.kids.take (m+1)=p::r∧p.1=k:=⟨p0,r0.take m,by rw[e0];rfl,hp0⟩;rw[hd,hr];refine⟨hok,?_,⟨?_,b1⟩,λq hq=>?_,?_,⟨⟨_,_,rfl,rfl⟩,b2⟩,λq hq=>by simp at hq,trivial⟩
  ·have:=bs_ltB d _ _ b1 hne;rw[hlo] at this;exact this
  ·exact hlo2
  ·simp at hq;rw[hq];exact hok
  ·exact bs_ltB d _ _ b2 (List.cons_ne_nil _ _)
theorem spl_ent (d m r:Nat)(x:T d):entT d (splT d m r x).1++entT d (splT d m r x).2.2=entT d x:=by
 cases d with
 | zero=>simp[splT,entT]
 | succ d=>rw[entT_s,entT_s,entT_s,<-entS_app];simp[splT]
theorem spl_lvs (d m r:Nat)(x:T d)(nx:Nat)(h:lk (lvsT d x) nx):lk (lvsT d (splT d m r x).1++lvsT d (splT d m r x).2.2) nx∧hdL (lvsT d (splT d m r x).1++lvsT d (splT d m r x).2.2) nx=hdL (lvsT d x) nx:=by
 cases d with
 | zero=>exact⟨⟨rfl,h.1,trivial⟩,rfl⟩
 | succ d =>
  have e:lvsT (d+1) (splT (d+1) m r x).1++lvsT (d+1) (splT (d+1) m r x).2.2=lvsT (d+1) x:=by rw[lvsT_s,lvsT_s,lvsT_s,<-lvsS_app];simp[splT]
  rw[e];exact⟨h,rfl⟩
theorem mrg_bnd (d:Nat)(a b:T d)(h:BS (Bnd d) [(ka,a),(kb,b)] hi):BS (Bnd d) [(ka,mrgT d a b)] hi:=by
 obtain⟨h1,h2,h3,h4,h5,-⟩:=h;have hok:=h3 (kb,b) (by simp);have hab:klt ka kb=true:=ltB_ne h1 hok;refine⟨h4.imp id (λk=>klt_tr hab k),?_,λq hq=>by simp at hq,trivial⟩;cases d with
 | zero =>
  have h2:BI ka a.its kb:=h2;have h5:BI kb b.its hi:=h5;show BI ka (a.its++b.its) hi;rw[BI_app];refine⟨BI_re h2 λi hi'=>⟨(BI_mem h2 i hi').2.1,?_⟩,BI_re h5 λi hi'=>⟨?_,(BI_mem h5 i hi').2.2⟩,λx hx y hy=>?_⟩
  ·have:=ltB_ne (BI_mem h2 i hi').2.2 hok;exact h4.imp id (λk=>klt_tr this k)
  ·exact kle_tr (klt_asy hab) (BI_mem h5 i hi').2.1
  ·exact klt_le (ltB_ne (BI_mem h2 x hx).2.2 hok) (BI_mem h5 y hy).2.1
 | succ d =>
  obtain⟨⟨p,r,e,hp⟩,h2⟩:=h2;obtain⟨⟨p',r',e',hp'⟩,h5⟩:=h5;refine⟨⟨p,r++b.kids,by show a.kids++b.kids=_;rw[e];rfl,hp⟩,?_⟩;show BS (Bnd d) (a.kids++b.kids) hi;rw[BS_app];have hn:nxt b.kids hi=kb:=by rw[e'];exact hp'
  rw[hn];refine⟨h2,h5,.inr λq hq=>?_⟩;rw[e'] at hq h5;rcases List.mem_cons.1 hq with rfl | hq
  ·rw[hp'];exact hok
  ·exact h5.2.2.1 q hq
theorem mrg_ent (d:Nat)(a b:T d):entT d (mrgT d a b)=entT d a++entT d b:=by
 cases d with
 | zero=>simp[mrgT,entT]
 | succ d=>rw[entT_s,entT_s,entT_s,<-entS_app];rfl
theorem mrg_lvs (d:Nat)(a b:T d)(nx:Nat)(h:lk (lvsT d a++lvsT d b) nx):lk (lvsT d (mrgT d a b)) nx∧hdL (lvsT d (mrgT d a b)) nx=hdL (lvsT d a++lvsT d b) nx:=by
 cases d with
 | zero=>exact⟨⟨h.2.1,trivial⟩,rfl⟩
 | succ d =>
  have e:lvsT (d+1) (mrgT (d+1) a b)=lvsT (d+1) a++lvsT (d+1) b:=by rw[lvsT_s,lvsT_s,lvsT_s,<-lvsS_app];rfl
  rw[e];exact⟨h,rfl⟩
theorem lvs_link {a b:T 0}{nx:Nat}(h:lk (lvsT 0 a++lvsT 0 b) nx):a.link=b.num:=h.1
theorem WfB.split {s1 s2:List (ByteArray×T d)}{c:Cx (d+1)}{x:T d}{es:List Ent}(h:WfB c (⟨num,s1++[(k,x)]++s2⟩:Inn (T d)) es)(m r:Nat)(hm:0<m∧m<(cellsT d x).length):WfB c (⟨num,s1++[(k,(splT d m r x).1),((splT d m r x).2.1,(splT d m r x).2.2)]++s2⟩:Inn (T d)) es:=by
 have hok:okK (splT d m r x).2.1:=by
  obtain⟨lo',hi',b1,_,hb⟩:=h.bnd;have hb:BS (Bnd d) (s1++[(k,x)]++s2) hi':=hb;rw[List.append_assoc,BS_app] at hb;exact(spl_bnd d m r x ⟨hb.2.1.1,hb.2.1.2.1⟩ hm).1
 refine h.repl (by simp) (by simp) (λ_=>rfl) (λhi hb=>(spl_bnd d m r x ⟨hb.1,hb.2.1⟩ hm).2) (λq hq=>by simp at hq;rw[hq];exact hok) ?_ (λnx hl=>?_)
 ·rw[entS_cons,entS_cons,entS_cons];have:=spl_ent d m r x;simp only[entS,List.flatMap_nil,List.append_nil];exact this
 ·rw[lvsS_cons,lvsS_cons,lvsS_cons] at *;simp only[lvsS,List.flatMap_nil,List.append_nil] at *;exact spl_lvs d m r x nx hl
theorem WfB.merge {s1 s2:List (ByteArray×T d)}{c:Cx (d+1)}{a b:T d}{es:List Ent}(h:WfB c (⟨num,s1++[(ka,a),(kb,b)]++s2⟩:Inn (T d)) es):WfB c (⟨num,s1++[(ka,mrgT d a b)]++s2⟩:Inn (T d)) es:=by
 refine h.repl (by simp) (by simp) (λ_=>rfl) (λhi hb=>mrg_bnd d a b hb) (λq hq=>by simp at hq) ?_ (λnx hl=>?_)
 ·rw[entS_cons,entS_cons,entS_cons];simp only[entS,List.flatMap_nil,List.append_nil];exact mrg_ent d a b
 ·rw[lvsS_cons,lvsS_cons,lvsS_cons] at *;simp only[lvsS,List.flatMap_nil,List.append_nil] at *;exact mrg_lvs d a b nx hl
def restN [Oth](c:Cx d)(x:T d):List (Nat×PgV):=(nodT d x).tail++c.nod (numT d x)
def updA (A:Nat->PgV)(n:Nat)(v:PgV):Nat->PgV:=λx=>if x=n then v else A x
theorem updA_at (A:Nat->PgV)(n:Nat)(v:PgV):updA A n v n=v:=if_pos rfl
theorem updA_ne (A:Nat->PgV){x:Nat}(v:PgV)(h:¬x=n):updA A n v x=A x:=if_neg h
structure Sx [Oth] (A:Nat->PgV) (fl:List Nat) (pages:Nat) (os:List Nat) {d:Nat} (c:Cx d) (x:T d) (es:List Ent):Prop where
 wf:WfB c x es
 rep:∀p∈restN c x,A p.1=p.2
 perm:(0::(fl++(numT d x::((restN c x).map (·.1)++os)))).Perm (List.range pages)
section
variable {A:Nat->PgV}{es:List Ent}
theorem Sx.nd [Oth]{c:Cx d}{x:T d}(h:Sx A fl pages os c x es):(0::(fl++(numT d x::((restN c x).map (·.1)++os)))).Nodup:=h.perm.nodup_iff.2 List.nodup_range
theorem Sx.lt [Oth]{c:Cx d}{x:T d}(h:Sx A fl pages os c x es)(hn:n∈(0::(fl++(numT d x::((restN c x).map (·.1)++os))))):n<pages:=List.mem_range.1 (h.perm.mem_iff.1 hn)
theorem Sx.own [Oth]{c:Cx d}{x:T d}(h:Sx A fl pages os c x es):numT d x<pages∧0<numT d x:=by
 refine⟨h.lt (by simp),?_⟩;have:=h.nd;rw[List.nodup_cons] at this;have h1:¬numT d x=0:=λe=>this.1 (by rw[<-e];simp)
 omega
theorem Sx.ne [Oth]{c:Cx d}{x:T d}(h:Sx A fl pages os c x es){p:Nat×PgV}(hp:p∈restN c x):¬p.1=numT d x∧¬p.1=0∧(∀o∈os,¬p.1=o)∧(∀f∈fl,¬p.1=f)∧p.1<pages:=by
 have hm:p.1∈(restN c x).map (·.1):=List.mem_map_of_mem hp;have hn:=h.nd;rw[List.nodup_cons,List.nodup_append,List.nodup_cons,List.nodup_append] at hn;obtain⟨h0,h1,⟨h2,h3,h4,h5⟩,h6⟩:=hn;refine⟨λe=>h2 (List.mem_append_left _ (e ▸ hm)),λe=>h0 ?_,λo ho e=>h5 p.1 hm o ho e,λf hf e=>h6 f hf p.1 (List.mem_cons_of_mem _ (List.mem_append_left _ hm)) e.symm,h.lt (by simp;right;right;right;left;exact⟨p.2,hp⟩)⟩;rw[<-e];exact List.mem_append_right _ (List.mem_cons_of_mem _ (List.mem_append_left _ hm))
theorem Sx.os_ne [Oth]{c:Cx d}{x:T d}(h:Sx A fl pages os c x es){o:Nat}(ho:o∈os):¬o=numT d x∧¬o=0∧¬o∈fl∧o<pages:=by
 have hn:=h.nd;rw[List.nodup_cons,List.nodup_append,List.nodup_cons,List.nodup_append] at hn;obtain⟨h0,h1,⟨h2,h3,h4,h5⟩,h6⟩:=hn;refine⟨λe=>h2 (List.mem_append_right _ (e ▸ ho)),λe=>h0 ?_,λf=>h6 o f o (List.mem_cons_of_mem _ (List.mem_append_right _ ho)) rfl,h.lt (by simp[ho])⟩;rw[<-e];exact List.mem_append_right _ (List.mem_cons_of_mem _ (List.mem_append_right _ ho))
theorem Sx.congr [Oth]{A':Nat->PgV}{c:Cx d}{x:T d}(h:Sx A fl pages os c x es)(hA:∀p∈restN c x,A' p.1=A p.1):Sx A' fl pages os c x es:=⟨h.wf,λp hp=>by rw[hA p hp];exact h.rep p hp,h.perm⟩
theorem Sx.upd [Oth]{c:Cx d}{x:T d}(h:Sx A fl pages os c x es)(hn:n=0∨n∈fl∨n∈os∨n=numT d x)(v:PgV):Sx (updA A n v) fl pages os c x es:=h.congr λp hp=>by
 obtain⟨h1,h2,h3,h4,-⟩:=h.ne hp;refine updA_ne _ _ (λe=>?_);rcases hn with hn|hn|hn|hn
 ·exact h2 (e.trans hn)
 ·exact h4 n hn e
 ·exact h3 n hn e
 ·exact h1 (e.trans hn)
end
theorem spl_nod (d m r:Nat)(x:T d):(nodT d (splT d m r x).1).tail++(nodT d (splT d m r x).2.2).tail=(nodT d x).tail:=by
 cases d with
 | zero=>show(x.its.take m).flatMap nodI++(x.its.drop m).flatMap nodI=x.its.flatMap nodI;rw[<-List.flatMap_append,List.take_append_drop]
 | succ d=>rw[nodT_s,nodT_s,nodT_s,<-nodS_app];simp[splT]
theorem mrg_nod (d:Nat)(a b:T d):(nodT d (mrgT d a b)).tail=(nodT d a).tail++(nodT d b).tail:=by
 cases d with
 | zero=>show(a.its++b.its).flatMap nodI=_;rw[List.flatMap_append];rfl
 | succ d=>rw[nodT_s,nodT_s,nodT_s,<-nodS_app];rfl
theorem restN_up [Oth]{s1 s2:List (ByteArray×T d)}{c:Cx (d+1)}{x:T d}:restN (.up num s1 k s2 c) x=(nodT d x).tail++((num,frP s1 k s2 (numT d x))::(nodS s1++nodS s2)++c.nod num):=rfl
theorem restN_s [Oth]{s:List (ByteArray×T d)}{c:Cx (d+1)}:restN c (⟨num,s⟩:Inn (T d))=nodS s++c.nod num:=rfl
section
variable {A:Nat->PgV}{es:List Ent}{s1 s2:List (ByteArray×T d)}{c:Cx (d+1)}{x:T d}
theorem Sx.kids [Oth]{A':Nat->PgV}{os':List Nat}{m:List (ByteArray×T d)}(h:Sx A fl pages os (.up num s1 k s2 c) x es){t1 t2:List (ByteArray×T d)}(hw:WfB c (⟨num,t1++m++t2⟩:Inn (T d)) es)(hrep:∀p∈nodS t1++nodS m++nodS t2++c.nod num,A' p.1=p.2)(hp:((nodS t1++nodS m++nodS t2).map (·.1)++os').Perm (((nodT d x++(nodS s1++nodS s2)).map (·.1))++os)):Sx A' fl pages os' c (⟨num,t1++m++t2⟩:Inn (T d)) es:=by
 have e1:restN c (⟨num,t1++m++t2⟩:Inn (T d))=nodS t1++nodS m++nodS t2++c.nod num:=by rw[restN_s,nodS_app,nodS_app]
 refine⟨hw,by rw[e1];exact hrep,?_⟩;refine List.Perm.trans ?_ h.perm;refine List.Perm.cons _ (List.Perm.append_left _ ?_);rw[e1,restN_up];show(num::(((nodS t1++nodS m++nodS t2)++c.nod num).map (·.1)++os')).Perm (numT d x::(((nodT d x).tail++((num,frP s1 k s2 (numT d x))::(nodS s1++nodS s2)++c.nod num)).map (·.1)++os));have e2:(numT d x::(((nodT d x).tail++((num,frP s1 k s2 (numT d x))::(nodS s1++nodS s2)++c.nod num)).map (·.1)++os))=(nodT d x).map (·.1)++(num::((nodS s1++nodS s2).map (·.1)++((c.nod num).map (·.1)++os))):=by
  rw[nodT_eq];simp
 rw[e2];refine List.Perm.trans ?_ List.perm_middle.symm;refine List.Perm.cons _ ?_;have q1:(((nodS t1++nodS m++nodS t2)++c.nod num).map (·.1)++os').Perm ((c.nod num).map (·.1)++((nodS t1++nodS m++nodS t2).map (·.1)++os')):=by
  rw[List.map_append,List.append_assoc];have:=List.perm_append_comm (l₁:=(nodS t1++nodS m++nodS t2).map (·.1)) (l₂:=(c.nod num).map (·.1));rw[<-List.append_assoc,<-List.append_assoc];exact this.append_right _
 have q2:((nodT d x).map (·.1)++((nodS s1++nodS s2).map (·.1)++((c.nod num).map (·.1)++os))).Perm ((c.nod num).map (·.1)++(((nodT d x++(nodS s1++nodS s2)).map (·.1))++os)):=by
  have:=List.perm_append_comm (l₁:=(nodT d x++(nodS s1++nodS s2)).map (·.1)) (l₂:=(c.nod num).map (·.1));have:=this.append_right os;simpa using this
 exact q1.trans ((hp.append_left _).trans q2.symm)
theorem Sx.up [Oth](h:Sx A fl pages os (.up num s1 k s2 c) x es)(hA:A (numT d x)=pgT d x):Sx A fl pages os c (frm num s1 k x s2) es:=by
 have e:frm num s1 k x s2=(⟨num,s1++[(k,x)]++s2⟩:Inn (T d)):=by simp[frm]
 rw[e];have e1:nodS [(k,x)]=nodT d x:=by simp[nodS]
 refine h.kids (t1:=s1) (t2:=s2) (m:=[(k,x)]) (by rw[<-e];exact h.wf.up) (λp hp=>?_) ?_
 ·rw[e1] at hp;simp only[List.mem_append] at hp;rw[nodT_eq,List.mem_cons] at hp;rcases hp with((hp | hp | hp) | hp) | hp
  ·exact h.rep p (by rw[restN_up];simp[hp])
  ·rw[hp];exact hA
  ·exact h.rep p (by rw[restN_up];simp[hp])
  ·exact h.rep p (by rw[restN_up];simp[hp])
  ·exact h.rep p (by rw[restN_up];simp[hp])
 ·rw[e1];refine List.Perm.append_right _ (List.Perm.map _ ?_);have:=List.perm_append_comm (l₁:=nodS s1) (l₂:=nodT d x);have:=this.append_right (nodS s2);simpa using this
theorem Sx.split [Oth](h:Sx A fl pages (r::os) (.up num s1 k s2 c) x es)(m:Nat)(hm:0<m∧m<(cellsT d x).length):Sx (updA (updA A (numT d x) (pgT d (splT d m r x).1)) r (pgT d (splT d m r x).2.2)) fl pages os c (⟨num,s1++[(k,(splT d m r x).1),((splT d m r x).2.1,(splT d m r x).2.2)]++s2⟩:Inn (T d)) es:=by
 have hw:WfB c (⟨num,s1++[(k,x)]++s2⟩:Inn (T d)) es:=by have:=h.wf.up;rw[show frm num s1 k x s2=(⟨num,s1++[(k,x)]++s2⟩:Inn (T d)) by simp[frm]] at this;exact this
 have hws:=hw.split m r hm;have e1:nodS [(k,(splT d m r x).1),((splT d m r x).2.1,(splT d m r x).2.2)]=nodT d (splT d m r x).1++nodT d (splT d m r x).2.2:=by simp[nodS]
 have hn:=spl_nod d m r x;have hnum:=spl_num d m r x;have hr:=h.os_ne (o:=r) (by simp);refine h.kids hws (λp hp=>?_) ?_
 ·rw[e1] at hp;simp only[List.mem_append] at hp;rw[nodT_eq d (splT d m r x).1,nodT_eq d (splT d m r x).2.2] at hp;simp only[List.mem_cons] at hp;have hk:p∈restN (.up num s1 k s2 c) x->updA (updA A (numT d x) (pgT d (splT d m r x).1)) r (pgT d (splT d m r x).2.2) p.1=p.2:=λhp=>by
   obtain⟨n1,n2,n3,-⟩:=h.ne hp;rw[updA_ne _ _ (n3 r (by simp)),updA_ne _ _ n1];exact h.rep p hp
  have hsub:∀p,p∈(nodT d (splT d m r x).1).tail∨p∈(nodT d (splT d m r x).2.2).tail->p∈(nodT d x).tail:=λp hp=>by rw[<-hn];exact List.mem_append.2 hp
  rcases hp with((hp|(hp|hp)|hp|hp)|hp)|hp
  ·exact hk (by rw[restN_up];simp[hp])
  ·rw[hp];show updA _ r _ (numT d (splT d m r x).1)=_;rw[hnum.1,updA_ne _ _ (λe=>hr.1 e.symm),updA_at]
  ·exact hk (by rw[restN_up];exact List.mem_append_left _ (hsub p (.inl hp)))
  ·rw[hp];show updA _ r _ (numT d (splT d m r x).2.2)=_;rw[hnum.2,updA_at]
  ·exact hk (by rw[restN_up];exact List.mem_append_left _ (hsub p (.inr hp)))
  ·exact hk (by rw[restN_up];simp[hp])
  ·exact hk (by rw[restN_up];simp[hp])
 ·rw[e1,nodT_eq d (splT d m r x).1,nodT_eq d (splT d m r x).2.2,nodT_eq d x,<-hn];simp only[List.map_append,List.map_cons,hnum.1,hnum.2,List.cons_append,List.append_assoc];refine List.perm_middle.trans (List.Perm.cons _ ?_);have p1:((nodS s1).map (·.1)++((nodT d (splT d m r x).1).tail.map (·.1)++r::((nodT d (splT d m r x).2.2).tail.map (·.1)++((nodS s2).map (·.1)++os)))).Perm (r::((nodS s1).map (·.1)++((nodT d (splT d m r x).1).tail.map (·.1)++((nodT d (splT d m r x).2.2).tail.map (·.1)++((nodS s2).map (·.1)++os))))):=by
   rw[<-List.append_assoc];refine List.perm_middle.trans ?_;rw[List.append_assoc]
  refine p1.trans ?_;have p2:((nodT d (splT d m r x).1).tail.map (·.1)++((nodT d (splT d m r x).2.2).tail.map (·.1)++((nodS s1).map (·.1)++((nodS s2).map (·.1)++r::os)))).Perm (r::((nodT d (splT d m r x).1).tail.map (·.1)++((nodT d (splT d m r x).2.2).tail.map (·.1)++((nodS s1).map (·.1)++((nodS s2).map (·.1)++os))))):=by
   have:∀(a b c e o:List Nat),(a++(b++(c++(e++r::o)))).Perm (r::(a++(b++(c++(e++o))))):=λa b c e o=>by
    have:=List.perm_middle (l₁:=a++b++c++e) (l₂:=o) (a:=r);simpa using this
   exact this _ _ _ _ _
  refine List.Perm.trans ?_ p2.symm;refine List.Perm.cons _ ?_;have:∀(a b c e:List Nat),(a++(b++(c++e))).Perm (b++(c++(a++e))):=λa b c e=>by
   have:=(List.perm_append_comm (l₁:=a) (l₂:=b++c)).append_right e;simpa using this
  exact this _ _ _ _
end
end Go.Proofs.YtiaibgfhigdgdaaGreat
