/- a part -/
import Derived.Test.YtiaibgfhigdgdaaGreatM9
import Derived.Test.YtiaibgfhigdgdaaGreatShelf
import Derived.Lib.OwnBridge
import Derived.Sort.OwnSortedInts
import Derived.Test.YtiaibgfhigdgdaaGreatM7
import Derived.Lib.SlKept
import Derived.Lib.SliceRun
import Derived.Lib.SlicesCompact
set_option maxRecDepth 100000
set_option maxHeartbeats 8000000
namespace Go.Proofs.YtiaibgfhigdgdaaGreat
open Tryz
open Go.RowKit Go.Lib Go.Maps Go.Sort
variable {X w w1 w2 w':World}{B D Gp g i pk m Lk c kd k bF:Nat}{b:Bk}{P:PS}{L:LS}{S:DS}{l ls:List Int}{x n:Int}{V V':PV}{C K N:Pgs}{r q:Option Nat}{o:Obj}{cs:Array Value}{t:TypeId}{left:Lit->Bool}{f:FrP}{F:Int->Option Nat}
attribute [local go_sem ↓] Go.wp_at_zero Go.wp_at_succ
theorem PP.row (h:PP X B D Gp b P L S)(hne:¬P.order=[]):∃g cap,b.vo=.slice (some ⟨g,0,none⟩) P.order.length cap∧B<=g∧g<X.heap.size∧P.order.length<=cap∧cap<=maxLen∧Holds (Value.int .i64) X g 0 P.order.toArray:=by
 have hv:b.vo≠.slice none 0 0:=λe=>by
  rcases h.ord.2 with⟨_,h0⟩|⟨g,cap,cur,e',_⟩
  ·exact hne (List.length_eq_zero_iff.1 h0)
  ·rw[e] at e';cases e'
 obtain⟨g,cap,e,h1,h2,h3,h4,h5,h6⟩:=holds_of_ownsRow h.ord hv;exact⟨g,cap,e,h1,h2,h3,h4,h6⟩
theorem holds_cell (h:Holds (Value.int .i64) w g 0 l.toArray)(j:Nat)(hj:j<l.length):w.cell? ⟨g,j,none⟩=some (.int .i64 (l.getD j 0)):=by
 have:=(h j (by simpa using hj)).1;rw[Nat.zero_add] at this;rw[this];simp[hj]
theorem erase_take (hi:i<l.length):(l.take i++l.drop (i+1)++List.replicate (i+1-i) 0).take (l.length-1)=l.eraseIdx i:=by
 rw[List.eraseIdx_eq_take_drop_succ];rw[List.take_append_of_le_length (by simp;omega),List.take_of_length_le (by simp;omega)]
theorem cdelete (i:Nat)(h:PP X B D Gp b P L S)(hi:i<P.order.length)(hl:P.order.length<=64):Calls prog 171 #[b.vo,.int .i64 i,.int .i64 ((i:Int)+1)] X λe w'=>∃a c,e=.returned (.slice a (P.order.length-1) c)∧w'.ownsRow B 3 1 (.slice a (P.order.length-1) c) (P.order.eraseIdx i).length ((P.order.eraseIdx i).map (Value.int .i64))∧X.grownBy w' b.vo.ownBlock∧(Value.slice a (P.order.length-1) c).ownBlock=b.vo.ownBlock:=by
 obtain⟨g,cap,e,h1,h2,h3,h4,h5⟩:=h.row (λk=>by rw[k] at hi;simp at hi);have ho:=h.ord;rw[e] at ho ⊢;have:=Tryz.slices_Delete_int g 0 cap i (i+1) P.order X h5 h3 (by unfold maxLen at h4;omega) (by omega) (by omega);rw[show((i+1:Nat):Int)=(i:Int)+1 by omega,show P.order.length-(i+1-i)=P.order.length-1 by omega] at this;refine this.mono ?_;rintro r w'⟨rfl,q,rfl⟩;have hz:(P.order.take i++P.order.drop (i+1)++List.replicate (i+1-i) 0).length=P.order.length:=by simp;omega
 have hrow:=ownsRow_putRow (q:=q) (k:=P.order.length-1) ho hz (by omega);rw[erase_take hi] at hrow;have hle:(P.order.eraseIdx i).length=P.order.length-1:=by rw[List.length_eraseIdx,if_pos hi]
 refine⟨some ⟨g,0,none⟩,cap,rfl,by rw[hle];exact hrow,?_,rfl⟩;have:=grownBy_sortedI (w:=X) (g:=g) (n:=q) (os:=#[]) (P.order.take i++P.order.drop (i+1)++List.replicate (i+1-i) 0).toArray;rw[grow_empty] at this;exact this
theorem idx_of (hn:l.Nodup)(hx:x∈l):∃i:Nat,i<l.length∧idxOf (l.take l.length) x=i∧l[i]?=some x:=by
 obtain⟨i,hi,rfl⟩:=List.getElem_of_mem hx;refine⟨i,hi,idxOf_hit l l.length i _ hi (Nat.le_refl _) (getD_at hi) (λj hj=>?_),List.getElem?_eq_getElem hi⟩;rw[getD_at (show j<l.length by omega)];intro e;have:=(List.getElem_inj hn).1 e;omega
theorem cwithout (n:Int)(h:PP X B D Gp b P L S)(hn:n∈P.order)(hd:P.order.Nodup)(hl:P.order.length<=64):Calls prog 129 #[(.pointer (some ⟨Gp,0,none⟩)),.int .i64 n] X λe w'=>∃i a c,P.order[i]?=some n∧i<P.order.length∧e=.returned (.slice a (P.order.length-1) c)∧w'.ownsRow B 3 1 (.slice a (P.order.length-1) c) (P.order.eraseIdx i).length ((P.order.eraseIdx i).map (Value.int .i64))∧X.grownBy w' b.vo.ownBlock∧(Value.slice a (P.order.length-1) c).ownBlock=b.vo.ownBlock:=by
 obtain⟨i,hi,hix,hat⟩:=idx_of hd hn;obtain⟨c0,c1,c2,c3,c4,c5,c6,c7,c8,c9⟩:=h.cells;have HD:=hide (cdelete i h hi hl);obtain⟨g,cap,e,h1,h2,h3,h4,h5⟩:=h.row (λk=>by rw[k] at hi;simp at hi);rw[e] at c5 HD ⊢;have hI:=Tryz.slices_Index_int g 0 P.order.length cap P.order n X (Nat.le_refl _) (by omega) (λj hj=>by rw[Nat.zero_add];exact holds_cell h5 j hj);rw[hix] at hI;have HI:=hide (hI);have hi63:(i:Int)<1000:=by omega
 clear h c0 c1 c2 c3 c4 c6 c7 c8 c9 h5 hI hix hd hn;go_enter func129,ntmps129;go_wp2_with fail
 refine HI.out.mono ?_;rintro e w1⟨rfl,hw⟩;rw[hw];clear hw;go_wp2_with fail
 refine HD.out.mono ?_;rintro r w2⟨a,c,rfl,q1,q2,q3⟩;have HQ:=hide (q1);have HQ2:=hide (q2);have HQ3:=hide (q3);clear q1 q2 q3;go_wp2;go_ret;exact⟨i,a,c,hat,hi,rfl,HQ.out,HQ2.out,HQ3.out⟩
theorem PP.drop {Y:World}(h:PP X B D Gp b P L S)(hg:X.grownBy Y (some b.bF))(hM:MF Y b.bF 65 (delP (λn=>(P.fs n).map (·.blk)) x)):PP Y B D Gp b { P with fs:=delR P.fs x } L S:=by
 refine h.fmaps hg (hM.congr λn _=>?_) (Nat.le_refl _) (λn f hf=>?_) (λn n' f f' hf hf'=>?_)
 ·unfold delR delP;by_cases e:n=x
  ·rw[if_pos e,if_pos e];rfl
  ·rw[if_neg e,if_neg e]
 ·by_cases e:n=x
  ·subst e;rw[delR_at] at hf;cases hf
  ·rw[delR_ne _ e] at hf;exact h.frs n f hf
 ·by_cases e:n=x
  ·subst e;rw[delR_at] at hf;cases hf
  ·by_cases e':n'=x
   ·subst e';rw[delR_at] at hf';cases hf'
   ·rw[delR_ne _ e] at hf;rw[delR_ne _ e'] at hf';exact h.inj n n' f f' hf hf'
theorem cmakeRoom (h:PO w B D Gp V C K pk m)(hm:m<=50000):Calls prog 130 #[(.pointer (some ⟨Gp,0,none⟩))] w λe w'=>∃V',PO w' B D Gp V' C K pk m∧St2 w w' B V V'∧V'.P.pages=V.P.pages∧V'.P.free=V.P.free∧V'.P.most=V.P.most∧(∀n f,V'.P.fs n=some f->V.P.fs n=some f)∧((e=.returned (.int .i64 0)∧V'.P.order.length<V'.P.most)∨(e=.returned (.int .i64 2)∧V'.S.down=true)):=by
 obtain⟨oa,oc,hvo⟩:=h.pp.vo;obtain⟨c0,c1,c2,c3,c4,c5,c6,c7,c8,c9⟩:=h.pp.cells;have hmo:=h.pi.most;rw[hvo] at c5;by_cases hl:V.P.order.length<V.P.most
 ·have hl':(V.P.order.length:Int)<(V.P.most:Int):=by omega
  have HP:Hid (PO w B D Gp V C K pk m):=h;have HL:=hide (hl);clear hl h hvo c0 c2 c3 c4 c6 c7 c8 c9;go_enter func130,ntmps130;go_wp2_with fail
  go_region
  all_goals
   go_wp2;go_ret;exact⟨V,⟨HP.out.pp.below ((Below.refl _ _).drew),HP.out.pi,HP.out.lo⟩,⟨below_belP ((Below.refl _ _).drew) HP.out.lo _,id⟩,rfl,rfl,rfl,λ_ _ hn=>hn,.inl ⟨rfl,HL.out⟩⟩
 ·have hl':¬(V.P.order.length:Int)<(V.P.most:Int):=by omega
  obtain⟨x,r,hxr⟩:∃x r,V.P.order=x::r:=by
   cases hq:V.P.order with
   | nil=>rw[hq] at hl;simp at hl;omega
   | cons x r=>exact⟨x,r,rfl⟩
  have hx:=h.pi.rng x (by rw[hxr];exact List.mem_cons_self ..);have hpg:=h.pi.pg;have hx64:i64 x:=i64_in (by omega) (by omega);obtain⟨f,hf⟩:∃f,V.P.fs x=some f:=Option.isSome_iff_exists.1 ((h.pi.keys x).1 (by rw[hxr];exact List.mem_cons_self ..));have hW:PO w.drew B D Gp V C K pk m:=⟨h.pp.below ((Below.refl _ _).drew),h.pi,h.lo⟩;have HW:Hid (PO w.drew B D Gp V C K pk m):=hW;have HSW:Hid (St2 w w.drew B V V):=(⟨below_belP ((Below.refl _ _).drew) h.lo _,id⟩:St2 w w.drew B V V);obtain⟨g,cap,hg0,g1,g2,g3,g4,g5⟩:=hW.pp.row (by rw[hxr];simp);rw[hvo] at hg0;injection hg0 with ea _ ec;subst ea ec;have hcx:w.drew.cell? ⟨g,0,none⟩=some (.int .i64 x):=by
   have:=holds_cell g5 0 (by rw[hxr];simp);rw[this,hxr];rfl
  have HIX:Hid (Calls prog 140 #[.slice (some ⟨g,0,none⟩) V.P.order.length oc,.func (.func 172) #[(.pointer (some ⟨Gp,0,none⟩))] #[]] w.drew λe w'=>e=.returned (.int .i64 0)∧w'=w.drew):=by
   have:=cindexL (.pointer (some ⟨Gp,0,none⟩)) (λ_=>true) g 0 V.P.order.length oc V.P.order w.drew rfl (by omega) (λj hj=>by rw[Nat.zero_add];exact holds_cell g5 j hj) (λy hy=>by
    obtain⟨f',hf'⟩:=Option.isSome_iff_exists.1 ((hW.pi.keys y).1 hy);have:=hW.pi.rng y hy;exact cisLoose hW.pp hf' (i64_in (by omega) (by omega)))
   rw[hxr] at this ⊢;exact this
  have hlk:=hW.pp.fmap.look1 hx64;simp only[hf,Option.map_some,ptrO] at hlk;obtain⟨f0,f1,f2,z0,z2,hlt⟩:=hW.pp.fcells hf;obtain⟨e0,e1,e2,e3,e4,e5,e6,e7,e8,e9⟩:=hW.pp.cells;rw[hvo] at e5;have HX64:Hid (i64 x):=hx64;have HXR:Hid (V.P.order=x::r):=hxr;have hlen:V.P.order.length=r.length+1:=by rw[hxr];rfl
  have HVO:Hid (V.b.vo=.slice (some ⟨g,0,none⟩) V.P.order.length oc):=hvo;clear h hW hvo c0 c2 c3 c4 c6 c7 c8 c9 g5 hx64 hxr e0 e1 e2 e3 e6 e7 e8 e9 f0 f1 z0 z2;cases hd:f.dirty with
  | false =>
   rw[hd] at f2;have HFF:Hid (V.P.fs x=some f):=hf;have HDD:Hid (f.dirty=false):=hd;clear hf hd;rw[hlen] at HVO HIX c5 e5 hl';go_enter func130,ntmps130;go_wp2_with fail
   go_region
   all_goals
    go_wp2_with fail
    refine HIX.out.mono ?_;rintro e w1⟨rfl,hw⟩;rw[hw];clear hw;have HPP5:Hid (PP w.drew B D Gp V.b V.P V.L V.S):=HW.out.pp;have HPI5:Hid (PI V.P V.L V.S C K V.N pk m):=HW.out.pi;have HLO5:Hid (B<=w.drew.heap.size):=HW.out.lo;have HS5:Hid (St2 w w.drew B V V):=HSW;have HO5:Hid (V.b.vo=.slice (some ⟨g,0,none⟩) (r.length+1) oc):=HVO;have HR5:Hid (V.P.order=x::r):=HXR;have HF5:Hid (V.P.fs x=some f):=HFF;have HC5:Hid (f.dirty=false):=HDD;obtain⟨c0,c1,c2,c3,c4,c5,c6,c7,c8,c9⟩:=HPP5.out.cells;rw[HO5.out] at c5;obtain⟨Y,hrun,hM,hgY⟩:=HPP5.out.fmap.drop HX64.out 0 (x:=x);have HY:Hid (PP Y B D Gp V.b { V.P with fs:=delR V.P.fs x } V.L V.S):=HPP5.out.drop hgY hM;have HBY:Hid (BelP V.b.M V.b.M B w.drew Y):=HPP5.out.fmaps_bel hgY HLO5.out;obtain⟨d0,d1,d2,d3,d4,d5,d6,d7,d8,d9⟩:=HY.out.cells;rw[HO5.out] at d5;have HD:=hide (cdelete 0 HY.out (by show 0<V.P.order.length;rw[HR5.out];simp) (by have:=HPI5.out.most;show V.P.order.length<=64;omega));simp only[HR5.out,HO5.out,List.eraseIdx_cons_zero,List.length_cons,Nat.add_sub_cancel,Int.natCast_zero,Int.zero_add] at HD;clear hM hgY c0 c1 c2 c3 c5 c6 c7 c8 c9 d0 d1 d2 d3 d4 d6 d7 d8 d9;go_wp2_with fail
    refine HD.out.mono ?_;rintro e w8⟨a8,c8,rfl,q1,q2,q3⟩;obtain⟨u5,z5,l5⟩:=HY.out.own5 q2 (λg hg=>by rw[HO5.out];exact hg);rw[HO5.out] at u5;have HZ:Hid (PP (w8.setCell ⟨Gp,5,none⟩ (.slice a8 r.length c8)) B D Gp { V.b with vo:=(.slice a8 r.length c8)} { V.P with fs:=delR V.P.fs x,order:=r } V.L V.S):=
     HY.out.order (l:=r) q2 (λg hg=>by rw[HO5.out];exact hg) q1 (λg hg=>by left;rw[HO5.out,<-q3];exact hg)
    have HBZ:Hid (BelP V.b.M ({ V.b with vo:=(.slice a8 r.length c8)}:Bk).M B w.drew (w8.setCell ⟨Gp,5,none⟩ (.slice a8 r.length c8))):=HBY.out.trans (HY.out.order_bel q2 (λg hg=>by rw[HO5.out];exact hg) (Nat.le_trans HLO5.out HBY.out.size) (λg hg=>by left;rw[HO5.out,<-q3];exact hg));have HPI:Hid (PI { V.P with fs:=delR V.P.fs x,order:=r } V.L V.S C K V.N pk m):=HPI5.out.gone HR5.out HF5.out HC5.out;clear q1 q2 q3 HD;go_wp2;go_ret;refine⟨⟨{ V.b with vo:=(.slice a8 r.length c8)},{ V.P with fs:=delR V.P.fs x,order:=r },V.L,V.S,V.N⟩,⟨HZ.out,HPI.out,Nat.le_trans HLO5.out HBZ.out.size⟩,HS5.out.trans ⟨HBZ.out,id⟩,rfl,rfl,rfl,λy fy hy=>?_,.inl ⟨rfl,?_⟩⟩
    ·have hy:delR V.P.fs x y=some fy:=hy;by_cases e:y=x
     ·rw[e,delR_at] at hy;cases hy
     ·rw[delR_ne _ e] at hy;exact hy
    ·have h1:=HPI5.out.most.1;rw[HR5.out] at h1;show r.length<V.P.most;simp at h1;omega
  | true =>
   rw[hd] at f2;have HFF:Hid (V.P.fs x=some f):=hf;have HDD:Hid (f.dirty=true):=hd;have HTL:=hide (ctoLog HW.out hm x f hf hd);clear hf hd;rw[hlen] at HVO HIX c5 e5 hl';go_enter func130,ntmps130;go_wp2_with fail
   go_region
   all_goals
    go_wp2_with fail
    refine HIX.out.mono ?_;rintro e w1⟨rfl,hw⟩;rw[hw];clear hw;go_wp2_with fail
    refine HTL.out.mono ?_;rintro e w5⟨V4,k1,k2,-,k3,(⟨rfl,k4⟩ | ⟨rfl,k5,k4⟩)⟩
    ·have HP4:Hid (PO w5 B D Gp V4 C K pk m):=k1;have HS4:Hid (St2 w w5 B V V4):=HSW.out.trans k2;obtain⟨p0,p1,p2,p3,p4,p5,p6,p7,p8,p9⟩:=k1.pp.cells;have z9:=k1.pp.unfrozen 9;have hv4:V4.b.vo=.slice (some ⟨g,0,none⟩) (r.length+1) oc:=by rw[k3];exact HVO.out
     rw[hv4] at p5;obtain⟨PX,hPX⟩:∃PX:PS,PX={ V4.P with spills:=wrap64 (V4.P.spills+1)}:=⟨_,rfl⟩;have hfp:(PX.fs=V4.P.fs∧PX.order=V4.P.order)∧(PX.pages=V4.P.pages∧PX.free=V4.P.free∧PX.most=V4.P.most):=by rw[hPX];exact⟨⟨rfl,rfl⟩,rfl,rfl,rfl⟩
     have HPP5:Hid (PP (w5.setCell ⟨Gp,9,none⟩ (.int .i64 (wrap64 (V4.P.spills+1)))) B D Gp V4.b PX V4.L V4.S):=by
      rw[hPX];exact hide (k1.pp.own rfl rfl rfl rfl)
     have HPI5:Hid (PI PX V4.L V4.S C K V4.N pk m):=by
      rw[hPX];exact hide (k1.pi.stat _ _ _ _)
     have HLO5:Hid (B<=(w5.setCell ⟨Gp,9,none⟩ (.int .i64 (wrap64 (V4.P.spills+1)))).heap.size):=Nat.le_trans k1.lo (set_grown w5 Gp 9 _).size;have HS5:Hid (St2 w (w5.setCell ⟨Gp,9,none⟩ (.int .i64 (wrap64 (V4.P.spills+1)))) B V V4):=HS4.out.trans (⟨k1.pp.own_bel 9 _ k1.lo,id⟩:St2 w5 _ B V4 V4);have HO5:Hid (V4.b.vo=.slice (some ⟨g,0,none⟩) (r.length+1) oc):=hv4;have HR5:Hid (PX.order=x::r):=by rw[hfp.1.2,k4];exact HXR
     have HF5:Hid (PX.fs x=some { f with dirty:=false }):=by rw[hfp.1.1,k4];exact hide (updR_at _ _ _)
     have HK5:Hid (PX.pages=V.P.pages∧PX.free=V.P.free∧PX.most=V.P.most∧∀n f',¬n=x->PX.fs n=some f'->V.P.fs n=some f'):=by
      rw[hfp.1.1,hfp.2.1,hfp.2.2.1,hfp.2.2.2,k4];refine hide ⟨rfl,rfl,rfl,λn f' hne hn=>?_⟩;have hn:updR V.P.fs x _ n=some f':=hn;rw[updR_ne _ _ hne] at hn;exact hn
     clear k1 k2 k3 k4 hPX hfp HTL p0 p1 p2 p3 p6 p7 p8 e4 e5 f2 hlk hcx c1 c5 hv4;obtain⟨c0,c1,c2,c3,c4,c5,c6,c7,c8,c9⟩:=HPP5.out.cells;rw[HO5.out] at c5;obtain⟨Y,hrun,hM,hgY⟩:=HPP5.out.fmap.drop HX64.out 0 (x:=x);have HY:Hid (PP Y B D Gp V4.b { PX with fs:=delR PX.fs x } V4.L V4.S):=HPP5.out.drop hgY hM;have HBY:Hid (BelP V4.b.M V4.b.M B (w5.setCell ⟨Gp,9,none⟩ (.int .i64 (wrap64 (V4.P.spills+1)))) Y):=HPP5.out.fmaps_bel hgY HLO5.out;obtain⟨d0,d1,d2,d3,d4,d5,d6,d7,d8,d9⟩:=HY.out.cells;rw[HO5.out] at d5;have HD:=hide (cdelete 0 HY.out (by show 0<PX.order.length;rw[HR5.out];simp) (by have:=HPI5.out.most;show PX.order.length<=64;omega));simp only[HR5.out,HO5.out,List.eraseIdx_cons_zero,List.length_cons,Nat.add_sub_cancel,Int.natCast_zero,Int.zero_add] at HD;clear hM hgY c0 c1 c2 c3 c5 c6 c7 c8 c9 d0 d1 d2 d3 d4 d6 d7 d8 d9;go_wp2_with fail
     refine HD.out.mono ?_;rintro e w8⟨a8,c8,rfl,q1,q2,q3⟩;obtain⟨u5,z5,l5⟩:=HY.out.own5 q2 (λg hg=>by rw[HO5.out];exact hg);rw[HO5.out] at u5;have HZ:Hid (PP (w8.setCell ⟨Gp,5,none⟩ (.slice a8 r.length c8)) B D Gp { V4.b with vo:=(.slice a8 r.length c8)} { PX with fs:=delR PX.fs x,order:=r } V4.L V4.S):=
      HY.out.order (l:=r) q2 (λg hg=>by rw[HO5.out];exact hg) q1 (λg hg=>by left;rw[HO5.out,<-q3];exact hg)
     have HBZ:Hid (BelP V4.b.M ({ V4.b with vo:=(.slice a8 r.length c8)}:Bk).M B (w5.setCell ⟨Gp,9,none⟩ (.int .i64 (wrap64 (V4.P.spills+1)))) (w8.setCell ⟨Gp,5,none⟩ (.slice a8 r.length c8))):=HBY.out.trans (HY.out.order_bel q2 (λg hg=>by rw[HO5.out];exact hg) (Nat.le_trans HLO5.out HBY.out.size) (λg hg=>by left;rw[HO5.out,<-q3];exact hg));have HPI:Hid (PI { PX with fs:=delR PX.fs x,order:=r } V4.L V4.S C K V4.N pk m):=HPI5.out.gone HR5.out HF5.out rfl;clear q1 q2 q3 HD;go_wp2;go_ret;refine⟨⟨{ V4.b with vo:=(.slice a8 r.length c8)},{ PX with fs:=delR PX.fs x,order:=r },V4.L,V4.S,V4.N⟩,⟨HZ.out,HPI.out,Nat.le_trans HLO5.out HBZ.out.size⟩,HS5.out.trans ⟨HBZ.out,id⟩,HK5.out.1,HK5.out.2.1,HK5.out.2.2.1,λy fy hy=>?_,.inl ⟨rfl,?_⟩⟩
     ·have hy:delR PX.fs x y=some fy:=hy;by_cases e:y=x
      ·rw[e,delR_at] at hy;cases hy
      ·rw[delR_ne _ e] at hy;exact HK5.out.2.2.2 y fy e hy
     ·have h1:=HPI5.out.most.1;rw[HR5.out] at h1;show r.length<PX.most;simp at h1;omega
    ·have HP4:Hid (PO w5 B D Gp V4 C K pk m):=k1;have HS4:Hid (St2 w w5 B V V4):=HSW.out.trans k2;have HK4:Hid (V4.S.down=true∧V4.P=V.P):=(⟨k5,k4⟩:V4.S.down=true∧V4.P=V.P);clear k1 k2 k3 k4 k5 HTL;go_wp2;go_ret;exact⟨V4,HP4.out,HS4.out,by rw[HK4.out.2],by rw[HK4.out.2],by rw[HK4.out.2],λn f' hn=>by rw[HK4.out.2] at hn;exact hn,.inr ⟨rfl,HK4.out.1⟩⟩
theorem erase_perm (hi:i<l.length)(h:l[i]?=some x):(l.eraseIdx i++[x]).Perm l:=by
 have hx:l[i]=x:=by rw[List.getElem?_eq_getElem hi] at h;injection h
 have h1:l=l.take i++x::l.drop (i+1):=by rw[<-hx,<-List.drop_eq_getElem_cons,List.take_append_drop]
 rw[List.eraseIdx_eq_take_drop_succ];refine List.Perm.trans ?_ (List.Perm.of_eq h1.symm);rw[List.append_assoc];exact List.Perm.append_left _ List.perm_append_comm
theorem infoIntP:(prog.info? 3).map (λi=>(i.zero,i.size,i.bytes))=some (some (.int .i64 0),1,8):=by kernel_rfl
theorem use_grown {w3:World}(h:w1.grownBy w2 r)(e:q=r)(hg:(w2.alloc o).grownBy w3 q):w1.grownBy w3 r:=by
 rw[e] at hg;exact But.trans (grown_alloc h o) hg
theorem use_len {ol:Nat}(hi:i<l.length)(h:ol+1=l.length):(l.eraseIdx i++[n]).length=ol+1:=by
 rw[List.length_append,List.length_eraseIdx,if_pos hi];simp;omega
theorem use_own {v:Option Nat}(h:w1.grownBy w2 r)(e:q=r)(hv:v=q∨v=some (w2.alloc o).heap.size):v=r∨∃k,v=some k∧w1.heap.size<=k:=by
 rcases hv with h1|h1
 ·left;rw[h1,e]
 ·right;exact⟨_,h1,by have:=h.size;simp;omega⟩
theorem cuse_hit (h:PO w B D Gp V C K pk m)(n:Int)(f:FrP)(hf:V.P.fs n=some f):Calls prog 76 #[(.pointer (some ⟨Gp,0,none⟩)),.int .i64 n] w λe w'=>∃V',PO w' B D Gp V' C K pk m∧St2 w w' B V V'∧V'.P.pages=V.P.pages∧V'.P.free=V.P.free∧V'.P.fs=V.P.fs∧e=.returned (.tuple #[(.pointer (some ⟨f.blk,0,none⟩)),.int .i64 0]):=by
 obtain⟨g1,g2,g3,g4,g5⟩:=h.pi.held hf;have hpg:=h.pi.pg;have hmo:=h.pi.most;have hn:i64 n:=i64_in (by omega) (by omega);have hn0:¬n<0:=by omega
 have hn1:¬(V.P.pages:Int)<=n:=by omega
 have hlk:=h.pp.fmap.look hn;simp only[hf,Option.map_some,ptrO,Option.isSome_some] at hlk;obtain⟨c0,c1,c2,c3,c4,c5,c6,c7,c8,c9⟩:=h.pp.cells;have z7:=h.pp.unfrozen 7;have HP1:Hid (PP (w.setCell ⟨Gp,7,none⟩ (.int .i64 (wrap64 (V.P.hits+1)))) B D Gp V.b { V.P with hits:=wrap64 (V.P.hits+1)} V.L V.S):=h.pp.own rfl rfl rfl rfl;have HB1:Hid (BelP V.b.M V.b.M B w (w.setCell ⟨Gp,7,none⟩ (.int .i64 (wrap64 (V.P.hits+1))))):=h.pp.own_bel 7 _ h.lo;have HPI:Hid (PI V.P V.L V.S C K V.N pk m):=h.pi;have HLO:Hid (B<=w.heap.size):=h.lo;have HWO:=hide (cwithout n HP1.out g1 h.pi.nd (by show V.P.order.length<=64;omega));obtain⟨i0,hi,hz⟩:=Option.map_eq_some_iff.1 infoIntP;simp only[Prod.mk.injEq] at hz;obtain⟨hz0,hz1,hz2⟩:=hz;have hol:V.P.order.length<=64:=by omega
 clear h c0 c1 c3 c5 c6 c8 c9 hf g1 g2 g3 g4 g5 hpg hmo;generalize hW1:w.setCell ⟨Gp,7,none⟩ (.int .i64 (wrap64 (V.P.hits+1)))=w1 at *;go_enter func76,ntmps76;go_wp2_with fail
 refine HWO.out.mono ?_;rintro e w2⟨i,a,c,q0,q1,rfl,q2,q3,q4⟩
 change V.P.order[i]?=some n at q0
 change i<V.P.order.length at q1
 have hle:(V.P.order.eraseIdx i).length=V.P.order.length-1:=by rw[List.length_eraseIdx,if_pos q1]
 have HQ2:Hid (w2.ownsRow B 3 1 (.slice a (V.P.order.length-1) c) (V.P.order.length-1) ((V.P.order.eraseIdx i).map (Value.int .i64))):=by rw[<-hle];rw[<-hle] at q2;exact q2
 have HQ3:Hid (w1.grownBy w2 V.b.vo.ownBlock):=q3;have HQ4:Hid ((Value.slice a (V.P.order.length-1) c).ownBlock=V.b.vo.ownBlock):=q4;have HQ0:Hid (V.P.order[i]?=some n∧i<V.P.order.length):=(⟨q0,q1⟩:V.P.order[i]?=some n∧i<V.P.order.length);have hszb:B<=w2.heap.size:=Nat.le_trans HLO.out (Nat.le_trans HB1.out.size q3.size);obtain⟨ol,hol2⟩:∃ol,ol=V.P.order.length-1:=⟨_,rfl⟩;rw[<-hol2] at HQ2 HQ4 ⊢;have HOL:Hid (ol+1=V.P.order.length):=by show ol+1=V.P.order.length;omega
 clear q0 q1 q2 q3 q4 HWO hle hol2;go_wp2_with (first
  | (at_builtin;refine wpList_append_own_at _ rfl _ _ 42 rfl B 3 i0 (.int .i64 0) 1 8 underlying42 hi hz0 hz1 hz2 rfl (by decide) (.slice a ol c) ol ((V.P.order.eraseIdx i).map (Value.int .i64)) rfl (World.ownsRow.alloc HQ2.out _) ⟨w2.heap.size,0,none⟩ 1 1 [.int .i64 n] rfl rfl (newsI _ _) (λx hx=>by simp at hx;subst hx;rfl) (by have:=HOL.out;unfold maxLen;omega) (by have:=HOL.out;omega) (by simp;omega) ?_;intro v1 w3 ho1 hg1 hnil1 hown1;obtain⟨a1,cap1,rfl⟩:=owns_sliceI ho1;have HH:=HP1.out.reord (l:=V.P.order.eraseIdx i++[n]) (Nat.le_trans HLO.out HB1.out.size) (use_grown HQ3.out HQ4.out hg1) (by rw[use_len HQ0.out.2 HOL.out,List.map_append];exact ho1) (use_own HQ3.out HQ4.out hown1);have HZ:Hid (PP (w3.setCell ⟨Gp,5,none⟩ (.slice a1 (ol+1) cap1)) B D Gp { V.b with vo:=(.slice a1 (ol+1) cap1)} { V.P with hits:=wrap64 (V.P.hits+1),order:=V.P.order.eraseIdx i++[n]} V.L V.S):=HH.1;have HBZ:Hid (BelP V.b.M ({ V.b with vo:=(.slice a1 (ol+1) cap1)}:Bk).M B w (w3.setCell ⟨Gp,5,none⟩ (.slice a1 (ol+1) cap1))):=HB1.out.trans HH.2.1;have e5:=HH.2.2.1;have f5:=HH.2.2.2.1;have l5:=HH.2.2.2.2;clear HH ho1 hg1 hnil1 hown1)
  | go_in)
 have HPZ:Hid (PI { V.P with hits:=wrap64 (V.P.hits+1),order:=V.P.order.eraseIdx i++[n]} V.L V.S C K V.N pk m):=((HPI.out.perm (erase_perm HQ0.out.2 HQ0.out.1)).stat _ _ _ _)
 go_ret2
 exact⟨⟨{ V.b with vo:=(.slice a1 (ol+1) cap1)},{ V.P with hits:=wrap64 (V.P.hits+1),order:=V.P.order.eraseIdx i++[n]},V.L,V.S,V.N⟩,⟨HZ.out,HPZ.out,Nat.le_trans HLO.out HBZ.out.size⟩,⟨HBZ.out,id⟩,rfl,rfl,rfl,rfl⟩
theorem cuse_miss (h:PO w B D Gp V C K pk m)(hm:m<=50000)(n:Int)(n0:0<=n)(n1:n<V.P.pages)(hf:V.P.fs n=none):Calls prog 76 #[(.pointer (some ⟨Gp,0,none⟩)),.int .i64 n] w λe w'=>∃V',PO w' B D Gp V' C K pk m∧St2 w w' B V V'∧V'.P.pages=V.P.pages∧V'.P.free=V.P.free∧(∀x f,V'.P.fs x=some f->f.dirty=true->V.P.fs x=some f)∧((∃f,V'.P.fs n=some f∧C n=some f.text∧e=.returned (.tuple #[(.pointer (some ⟨f.blk,0,none⟩)),.int .i64 0]))∨(e=.returned (.tuple #[.pointer none,.int .i64 2])∧V'.S.down=true)):=by
 have hpg:=h.pi.pg;have hn:i64 n:=i64_in (by omega) (by omega);have hn0:¬n<0:=by omega
 have hn1:¬(V.P.pages:Int)<=n:=by omega
 have hlk:=h.pp.fmap.look hn;simp only[hf,Option.map_none,ptrO,Option.isSome_none] at hlk;obtain⟨c0,c1,c2,c3,c4,c5,c6,c7,c8,c9⟩:=h.pp.cells;have HMR:=hide (cmakeRoom h hm);have HNR:Hid (0<=n∧n<V.P.pages∧V.P.fs n=none∧i64 n):=(⟨n0,n1,hf,hn⟩:0<=n∧n<V.P.pages∧V.P.fs n=none∧i64 n);clear h c0 c1 c3 c5 c6 c7 c8 c9 hf;go_enter func76,ntmps76;go_wp2_with fail
 refine HMR.out.mono ?_;rintro e w1⟨V1,k1,k2,k3,k4,k5,k6,(⟨rfl,k7⟩ | ⟨rfl,k7⟩)⟩
 ·have HP1:Hid (PO w1 B D Gp V1 C K pk m):=k1;have HS1:Hid (St2 w w1 B V V1):=k2;have hnone:V1.P.fs n=none:=by
   cases hq:V1.P.fs n with
   | none=>rfl
   | some f =>
    have:=k6 n f hq;rw[HNR.out.2.2.1] at this;cases this
  have HK1:=hide (show V1.P.pages=V.P.pages∧V1.P.free=V.P.free∧V1.P.fs n=none∧V1.P.order.length<V1.P.most from⟨k3,k4,hnone,k7⟩);clear hnone;have HSUB:=hide (k6);obtain⟨t,t1,t2,t3,t4⟩:=k1.pi.cur n n0 (by omega);have hN:=t4 HK1.out.2.2.1;obtain⟨nn,rfl⟩:∃k:Nat,n=k:=⟨n.toNat,by omega⟩;obtain⟨j,kk,i1,i2,i3,i4⟩:=k1.pi.inv;have hrd:=rd_out i1 (by omega) (by omega:nn<60000) hN (k1.pp.log.dsk.len 0 (by decide)) (k1.pp.log.dsk.len 2 (by decide));have HRD:=hide (creadL (nn:Int) w1 B D V1.b.G V1.b.bp V1.b.bf 60000 V1.L V1.S k1.pp.log (i1.okp (by omega)) (i1.okf (by omega)));obtain⟨c0,c1,c2,c3,c4,c5,c6,c7,c8,c9⟩:=k1.pp.cells;have HT:Hid (C nn=some t):=t1;clear k1 k2 k3 k4 k5 k6 k7 t1 t2 t3 t4 hN i1 i2 i3 i4 c1 c2 c3 c4 c5 c6 c7 c8 c9 HMR hlk;rcases hrd with hr | ⟨hdn,hr⟩
  ·rw[hr] at HRD;clear hr;go_wp2_with fail
   refine HRD.out.mono ?_;rintro e w2⟨rfl,hb2⟩;have HP2:Hid (PO w2 B D Gp V1 C K pk m):=(⟨HP1.out.pp.below hb2,HP1.out.pi,Nat.le_trans HP1.out.lo hb2.size⟩:PO w2 B D Gp V1 C K pk m);have HS2:Hid (St2 w w2 B V V1):=HS1.out.trans ⟨below_belP hb2 HP1.out.lo _,id⟩;obtain⟨d0,d1,d2,d3,d4,d5,d6,d7,d8,d9⟩:=HP2.out.pp.cells;have z8:=HP2.out.pp.unfrozen 8;have HP3:Hid (PP (w2.setCell ⟨Gp,8,none⟩ (.int .i64 (wrap64 (V1.P.misses+1)))) B D Gp V1.b { V1.P with misses:=wrap64 (V1.P.misses+1)} V1.L V1.S):=HP2.out.pp.own rfl rfl rfl rfl;have HS3:Hid (BelP V1.b.M V1.b.M B w2 (w2.setCell ⟨Gp,8,none⟩ (.int .i64 (wrap64 (V1.P.misses+1))))):=HP2.out.pp.own_bel 8 _ HP2.out.lo;have hml:=HP1.out.pi.most;have HH:=hide (chold (nn:Int) t HP3.out (Nat.le_trans HP2.out.lo HS3.out.size) HNR.out.2.2.2 (by have:=HK1.out.2.2.2;show V1.P.order.length<=63;omega) (λx hx=>(HP1.out.pi.keys x).2 hx) HK1.out.2.2.1);clear hb2 d0 d1 d2 d3 d4 d5 d6 d7 d9 HRD c0;generalize hW3:w2.setCell ⟨Gp,8,none⟩ (.int .i64 (wrap64 (V1.P.misses+1)))=w3 at *;go_wp2_with fail
   refine HH.out.mono ?_;rintro e w4⟨v,rfl,q1,q2⟩;have HQ1:=hide (q1);have HQ2:=hide (q2);clear q1 q2 HH;go_wp2
   go_ret2
   refine⟨⟨{ V1.b with vo:=v },_,V1.L,V1.S,V1.N⟩,⟨HQ1.out,?_,Nat.le_trans HP2.out.lo (Nat.le_trans HS3.out.size HQ2.out.size)⟩,HS2.out.trans ⟨HS3.out.trans HQ2.out,id⟩,HK1.out.1,HK1.out.2.1,λx f hx hd=>?_,.inl ⟨_,updR_at _ _ _,HT.out,rfl⟩⟩
   ·have hp:=HNR.out;have hq:=HK1.out;exact(HP1.out.pi.hold w3.heap.size hp.1 (by omega) hq.2.2.1 HT.out hq.2.2.2).stat V1.P.hits (wrap64 (V1.P.misses+1)) V1.P.spills V1.P.free
   ·have hx:updR V1.P.fs (nn:Int) ⟨w3.heap.size,t,false⟩ x=some f:=hx;by_cases e:x=(nn:Int)
    ·rw[e,updR_at] at hx;injection hx with hx;rw[<-hx] at hd;cases hd
    ·rw[updR_ne _ _ e] at hx;exact HSUB.out x f hx
  ·rw[hr] at HRD;have HDN:Hid (V1.S.down=true):=hdn;clear hr hdn;go_wp2_with fail
   refine HRD.out.mono ?_;rintro e w2⟨rfl,hb2⟩;have HP2:Hid (PO w2 B D Gp V1 C K pk m):=(⟨HP1.out.pp.below hb2,HP1.out.pi,Nat.le_trans HP1.out.lo hb2.size⟩:PO w2 B D Gp V1 C K pk m);have HS2:Hid (St2 w w2 B V V1):=HS1.out.trans ⟨below_belP hb2 HP1.out.lo _,id⟩;clear hb2 HRD;go_wp2
   go_ret2
   exact⟨V1,HP2.out,HS2.out,HK1.out.1,HK1.out.2.1,λx f hx _=>HSUB.out x f hx,.inr ⟨rfl,HDN.out⟩⟩
 ·have HP1:Hid (PO w1 B D Gp V1 C K pk m):=k1;have HS1:Hid (St2 w w1 B V V1):=k2;have HK1:Hid (V1.P.pages=V.P.pages∧V1.P.free=V.P.free∧V1.S.down=true):=(⟨k3,k4,k7⟩:V1.P.pages=V.P.pages∧V1.P.free=V.P.free∧V1.S.down=true);have HSUB:=hide (k6);clear k1 k2 k3 k4 k5 k6 k7 HMR;go_wp2
  go_ret2
  exact⟨V1,HP1.out,HS1.out,HK1.out.1,HK1.out.2.1,λx f hx _=>HSUB.out x f hx,.inr ⟨rfl,HK1.out.2.2⟩⟩
theorem cuse (h:PO w B D Gp V C K pk m)(hm:m<=50000)(n:Int)(n0:0<=n)(n1:n<V.P.pages):Calls prog 76 #[(.pointer (some ⟨Gp,0,none⟩)),.int .i64 n] w λe w'=>∃V',PO w' B D Gp V' C K pk m∧St2 w w' B V V'∧V'.P.pages=V.P.pages∧V'.P.free=V.P.free∧(∀x f,V'.P.fs x=some f->f.dirty=true->V.P.fs x=some f)∧((∃f,V'.P.fs n=some f∧C n=some f.text∧e=.returned (.tuple #[(.pointer (some ⟨f.blk,0,none⟩)),.int .i64 0]))∨(e=.returned (.tuple #[.pointer none,.int .i64 2])∧V'.S.down=true)):=by
 cases hf:V.P.fs n with
 | none=>exact cuse_miss h hm n n0 n1 hf
 | some f =>
  refine(cuse_hit h n f hf).mono ?_;rintro e w'⟨V',k1,k2,k3,k4,k5,rfl⟩;exact⟨V',k1,k2,k3,k4,λx g hx _=>by rw[k5] at hx;exact hx,.inl ⟨f,by rw[k5];exact hf,(h.pi.held hf).2.2.2.1,rfl⟩⟩
def noT:Nat->ByteArray:=λ_=>⟨#[]⟩
def pgB (K Lk:Nat):ByteArray:=⟨(sealed K Lk 0 noT).toArray⟩
theorem no_len (S:Nat->ByteArray):4*0+len S 0<=1012:=by simp[len]
theorem pgB_size (K Lk:Nat):(pgB K Lk).size=1024:=by unfold pgB;rw[size_mk,sealed_len (no_len _)]
theorem pgB_any (K Lk:Nat)(S:Nat->ByteArray):(⟨(sealed K Lk 0 S).toArray⟩:ByteArray)=pgB K Lk:=by unfold pgB;rw[sealed_congr (T:=noT) (λi hi=>absurd hi (Nat.not_lt_zero _))]
theorem pgB_good {K:Nat}(hK:1<=K∧K<=5)(hL:Lk<=2147483647):good (pgB K Lk)∧byt (pgB K Lk) 4=K∧four (pgB K Lk) 8=Lk∧cls (pgB K Lk)=[]:=
 ⟨sealed_good hK hL (no_len _),sealed_kind (no_len _) hK.2,sealed_link (no_len _) hL,by unfold pgB;rw[sealed_cls (no_len _)];rfl⟩
theorem copenB {K:Nat}(hK:1<=K∧K<=5)(hL:Lk<=2147483647)(w:World):Calls prog 28 #[.string (pgB K Lk)] w λe w'=>(∃a c,e=.returned (.tuple #[.agg #[.int .i64 K,.int .i64 Lk,.slice a 0 c],.int .i64 0]))∧Below w.heap.size w w':=by
 obtain⟨g1,g2,g3,g4⟩:=pgB_good hK hL;refine(copenq (pgB K Lk) w (pgB_size _ _)).mono ?_;rintro e w'⟨(⟨_,v,rfl,ho⟩|⟨k,_⟩),hb⟩
 ·rw[g4] at ho;rw[g2,g3];obtain⟨a,c,rfl,-⟩:=sta_own (L:=[]) ho;exact⟨⟨a,c,rfl⟩,hb⟩
 ·exact absurd g1 k
theorem csealB {K:Nat}(hK:1<=K∧K<=5)(hL:Lk<=2147483647)(a:Option Addr)(c:Nat)(w:World):Calls prog 64 #[.agg #[.int .i64 K,.int .i64 Lk,.slice a 0 c]] w λe w'=>e=.returned (.tuple #[.string (pgB K Lk),.int .i64 0])∧Below w.heap.size w w':=by
 refine(cseal_ok K Lk a 0 c noT w (.inl rfl) hK hL (no_len _)).mono ?_;rintro e w'⟨rfl,hb⟩;exact⟨rfl,hb⟩
theorem PO.chs (h:PO w B D Gp V C K pk m):∀x,V.P.chg x=true->0<=x∧x<59999:=λx hx=>by
 have:=h.pi.chr x hx;have:=h.pi.pg;omega
theorem PO.mono {m':Nat}(h:PO w B D Gp V C K pk m)(hm:m<=m'):PO w B D Gp V C K pk m':=⟨h.pp,h.pi.mono hm,h.lo⟩
theorem PO.below (h:PO w B D Gp V C K pk m)(hb:Below w.heap.size w w'):PO w' B D Gp V C K pk m∧St2 w w' B V V:=⟨⟨h.pp.below hb,h.pi,Nat.le_trans h.lo hb.size⟩,⟨below_belP hb h.lo _,id⟩⟩
theorem PO.stay (h:PO w B D Gp V C K pk m)(hs:St2 w w' B V V')(hc:w.heap[c]?=some (.cells cs t (0,0)))(ht:tyQ t=false):w'.heap[c]?=some (.cells cs t (0,0)):=by
 obtain⟨k1,k2,k3,k4,k5,k6,k7,k8⟩:=h.pp.kinds;refine(hs.bel.far c (gl hc) (λcur e fz he=>?_) (λhm=>?_)).trans hc
 ·rw[hc] at he;injection he with he;injection he with _ he _;rw[<-he];exact tyF_of ht
 ·simp only[Bk.M,List.mem_cons,Option.mem_toList] at hm;rcases hm with rfl | rfl | rfl | rfl | hm
  ·exact ne_CM ⟨_,hc⟩ k3 rfl
  ·exact ne_CM ⟨_,hc⟩ k4 rfl
  ·exact ne_CM ⟨_,hc⟩ k5 rfl
  ·exact ne_CM ⟨_,hc⟩ k6 rfl
  ·refine ne_CC ⟨_,hc⟩ (k8 c hm) (λe=>?_) rfl;rw[<-e] at ht;exact absurd ht (by decide)
theorem PO.stayI (h:PO w B D Gp V C K pk m)(hs:St2 w w' B V V')(hc:w.heap[c]?=some (.cells cs 3 (0,0)))(hn:¬V.b.vo.ownBlock=some c):w'.heap[c]?=some (.cells cs 3 (0,0))∧¬V'.b.vo.ownBlock=some c:=by
 obtain⟨k1,k2,k3,k4,k5,k6,k7,k8⟩:=h.pp.kinds;have hlt:=(gl hc);have hM:¬c∈V.b.M:=λhm=>by
  simp only[Bk.M,List.mem_cons,Option.mem_toList] at hm;rcases hm with rfl | rfl | rfl | rfl | hm
  ·exact ne_CM ⟨_,hc⟩ k3 rfl
  ·exact ne_CM ⟨_,hc⟩ k4 rfl
  ·exact ne_CM ⟨_,hc⟩ k5 rfl
  ·exact ne_CM ⟨_,hc⟩ k6 rfl
  ·exact hn hm
 refine⟨(hs.bel.far c hlt (λcur e fz he=>?_) hM).trans hc,λhm=>?_⟩
 ·rw[hc] at he;injection he with he;injection he with _ he _;rw[<-he];decide
 ·rcases hs.bel.maps c (by simp[Bk.M,hm]) with k | k
  ·exact hM k
  ·omega
theorem PO.other (h:PO w B D Gp V C K pk m)(hg:w.grownBy w' (some c))(hc:isC w c t)(ht:tyQ t=false):PO w' B D Gp V C K pk m:=⟨h.pp.other hg hc ht,h.pi,Nat.le_trans h.lo hg.size⟩
theorem St2.other {w'':World}(h:St2 w w' B V V')(hg:w'.grownBy w'' (some c))(hc:w.heap.size<=c)(hB:B<=w.heap.size):St2 w w'' B V V':=⟨h.bel.other hg hc hB,h.nf⟩
theorem cput (h:PO w B D Gp V C K pk m)(hm:m<=50000)(n:Int)(n0:0<=n)(n1:n<V.P.pages)(s:ByteArray)(hs:s.size=1024):Calls prog 127 #[(.pointer (some ⟨Gp,0,none⟩)),.int .i64 n,.string s] w λe w'=>∃V',St2 w w' B V V'∧V'.P.pages=V.P.pages∧V'.P.free=V.P.free∧((e=.returned (.int .i64 0)∧PO w' B D Gp V' (wth C n s) K pk (m+1))∨(e=.returned (.int .i64 2)∧V'.S.down=true∧PO w' B D Gp V' C K pk m)):=by
 have HU:=hide (cuse h hm n n0 n1);have hpg:=h.pi.pg;have HN:Hid (i64 n):=i64_in (by omega) (by omega);have HS:Hid (s.size=1024):=hs;clear h hs;go_enter func127,ntmps127;go_wp2_with fail
 refine HU.out.mono ?_;rintro e w1⟨V1,k1,k2,k3,k4,-,(⟨f,k5,k6,rfl⟩ | ⟨rfl,k5⟩)⟩
 ·have HC:=hide (cchange n f s k1.pp k5 k1.lo HN.out k1.chs);have HP:Hid (PO w1 B D Gp V1 C K pk m):=k1;have HS1:Hid (St2 w w1 B V V1):=k2;have HK:Hid (V1.P.pages=V.P.pages∧V1.P.free=V.P.free∧V1.P.fs n=some f):=(⟨k3,k4,k5⟩:V1.P.pages=V.P.pages∧V1.P.free=V.P.free∧V1.P.fs n=some f);clear k1 k2 k3 k4 k5 k6 HU;go_wp2_with fail
  refine HC.out.mono ?_;rintro e w2⟨rfl,q1,q2⟩;have HQ1:=hide (q1);have HQ2:=hide (q2);clear q1 q2 HC;go_wp2;go_ret;exact⟨⟨V1.b,chP V1.P n f.blk s,V1.L,V1.S,V1.N⟩,HS1.out.trans ⟨HQ2.out,id⟩,HK.out.1,HK.out.2.1,.inl ⟨rfl,⟨HQ1.out,HP.out.pi.change HK.out.2.2 HS.out,Nat.le_trans HP.out.lo HQ2.out.size⟩⟩⟩
 ·have HP:Hid (PO w1 B D Gp V1 C K pk m):=k1;have HS1:Hid (St2 w w1 B V V1):=k2;have HK:Hid (V1.P.pages=V.P.pages∧V1.P.free=V.P.free∧V1.S.down=true):=(⟨k3,k4,k5⟩:V1.P.pages=V.P.pages∧V1.P.free=V.P.free∧V1.S.down=true);clear k1 k2 k3 k4 k5 HU;go_wp2;go_ret;exact⟨V1,HS1.out,HK.out.1,HK.out.2.1,.inr ⟨rfl,HK.out.2.2,HP.out⟩⟩
theorem creadP (h:PO w B D Gp V C K pk m)(hm:m<=50000)(n:Int)(n0:0<=n)(n1:n<V.P.pages):Calls prog 100 #[(.pointer (some ⟨Gp,0,none⟩)),.int .i64 n] w λe w'=>∃V',PO w' B D Gp V' C K pk m∧St2 w w' B V V'∧V'.P.pages=V.P.pages∧V'.P.free=V.P.free∧((∃t,C n=some t∧e=.returned (.tuple #[.string t,.int .i64 0]))∨(e=.returned (.tuple #[.string ⟨#[]⟩,.int .i64 2])∧V'.S.down=true)):=by
 have HU:=hide (cuse h hm n n0 n1);clear h;go_enter func100,ntmps100;go_wp2_with fail
 refine HU.out.mono ?_;rintro e w1⟨V1,k1,k2,k3,k4,-,(⟨f,k5,k6,rfl⟩ | ⟨rfl,k5⟩)⟩
 ·obtain⟨f0,f1,f2,z0,z2,hlt⟩:=k1.pp.fcells k5;have HP:Hid (PO w1 B D Gp V1 C K pk m):=k1;have HS1:Hid (St2 w w1 B V V1):=k2;have HK:Hid (V1.P.pages=V.P.pages∧V1.P.free=V.P.free∧C n=some f.text):=(⟨k3,k4,k6⟩:V1.P.pages=V.P.pages∧V1.P.free=V.P.free∧C n=some f.text);clear k1 k2 k3 k4 k5 k6 HU f1 f2 z0 z2;go_wp2
  go_ret2
  exact⟨V1,HP.out,HS1.out,HK.out.1,HK.out.2.1,.inl ⟨_,HK.out.2.2,rfl⟩⟩
 ·have HP:Hid (PO w1 B D Gp V1 C K pk m):=k1;have HS1:Hid (St2 w w1 B V V1):=k2;have HK:Hid (V1.P.pages=V.P.pages∧V1.P.free=V.P.free∧V1.S.down=true):=(⟨k3,k4,k5⟩:V1.P.pages=V.P.pages∧V1.P.free=V.P.free∧V1.S.down=true);clear k1 k2 k3 k4 k5 HU;go_wp2
  go_ret2
  exact⟨V1,HP.out,HS1.out,HK.out.1,HK.out.2.1,.inr ⟨rfl,HK.out.2.2⟩⟩
theorem cwriteP (h:PO w B D Gp V C K pk m)(hm:m<=50000)(n:Int)(n0:0<n)(n1:n<V.P.pages)(s:ByteArray)(hs:s.size=1024):Calls prog 74 #[(.pointer (some ⟨Gp,0,none⟩)),.int .i64 n,.string s] w λe w'=>∃V',St2 w w' B V V'∧V'.P.pages=V.P.pages∧V'.P.free=V.P.free∧((e=.returned (.int .i64 0)∧PO w' B D Gp V' (wth C n s) K pk (m+1))∨(e=.returned (.int .i64 2)∧V'.S.down=true∧PO w' B D Gp V' C K pk m)):=by
 have HU:=hide (cput h hm n (by omega) n1 s hs);have e1:(n == 0)=false:=by simp;omega
 have e2:((s.size:Int) != 1024)=false:=by simp;omega
 have e3:¬n=0:=by omega
 have e4:(s.size:Int)=1024:=by omega
 clear h hs;go_enter func74,ntmps74;go_wp2_with fail
 refine HU.out.mono ?_;rintro e w1⟨V1,k1,k2,k3,(⟨rfl,k4⟩ | ⟨rfl,k4,k5⟩)⟩
 ·have HK:Hid (St2 w w1 B V V1∧V1.P.pages=V.P.pages∧V1.P.free=V.P.free∧PO w1 B D Gp V1 (wth C n s) K pk (m+1)):=(⟨k1,k2,k3,k4⟩:St2 w w1 B V V1∧V1.P.pages=V.P.pages∧V1.P.free=V.P.free∧PO w1 B D Gp V1 (wth C n s) K pk (m+1));clear k1 k2 k3 k4 HU;go_wp2;go_ret;exact⟨V1,HK.out.1,HK.out.2.1,HK.out.2.2.1,.inl ⟨rfl,HK.out.2.2.2⟩⟩
 ·have HK:Hid (St2 w w1 B V V1∧V1.P.pages=V.P.pages∧V1.P.free=V.P.free∧V1.S.down=true∧PO w1 B D Gp V1 C K pk m):=(⟨k1,k2,k3,k4,k5⟩:St2 w w1 B V V1∧V1.P.pages=V.P.pages∧V1.P.free=V.P.free∧V1.S.down=true∧PO w1 B D Gp V1 C K pk m);clear k1 k2 k3 k4 k5 HU;go_wp2;go_ret;exact⟨V1,HK.out.1,HK.out.2.1,HK.out.2.2.1,.inr ⟨rfl,HK.out.2.2.2⟩⟩
theorem copened (h:PO w B D Gp V C K pk m)(hm:m<=50000)(n:Int)(n0:0<=n)(n1:n<V.P.pages){lk:Nat}(hk:1<=kd∧kd<=5)(hl:lk<=2147483647)(hC:C n=some (pgB kd lk)):Calls prog 90 #[(.pointer (some ⟨Gp,0,none⟩)),.int .i64 n] w λe w'=>∃V',PO w' B D Gp V' C K pk m∧St2 w w' B V V'∧V'.P.pages=V.P.pages∧V'.P.free=V.P.free∧((∃a c,e=.returned (.tuple #[.agg #[.int .i64 kd,.int .i64 lk,.slice a 0 c],.int .i64 0]))∨(e=.returned (.tuple #[.agg #[.int .i64 0,.int .i64 0,.slice none 0 0],.int .i64 2])∧V'.S.down=true)):=by
 have hb:Below w.heap.size w (w.alloc (.cells #[.int .i64 0,.int .i64 0,.slice none 0 0] 82)):=((Below.refl _ _).alloc (Nat.le_refl _) _);obtain⟨h1,s1⟩:=h.below hb;have HU:=hide (cuse h1 hm n n0 n1);have HS1:Hid (St2 w (w.alloc (.cells #[.int .i64 0,.int .i64 0,.slice none 0 0] 82)) B V V):=s1;have HLO:Hid (B<=w.heap.size):=h.lo;have HX:Hid (Bx3 (w.alloc (.cells #[.int .i64 0,.int .i64 0,.slice none 0 0] 82)) w.heap.size (.int .i64 0) (.int .i64 0) (.slice none 0 0)):=Bx3.new _ _ _ _;have HH1:Hid (PO (w.alloc (.cells #[.int .i64 0,.int .i64 0,.slice none 0 0] 82)) B D Gp V C K pk m):=h1;clear h h1 s1 hb;go_enter func90,ntmps90;go_wp2_with fail
 refine HU.out.mono ?_;rintro e w1⟨V1,k1,k2,k3,k4,-,(⟨f,k5,k6,rfl⟩ | ⟨rfl,k5⟩)⟩
 ·obtain⟨f0,f1,f2,z0,z2,hlt⟩:=k1.pp.fcells k5;rw[hC] at k6;injection k6 with k6;rw[<-k6] at f0;have HB1:Hid (Bx3 w1 w.heap.size (.int .i64 0) (.int .i64 0) (.slice none 0 0)):=HH1.out.stay k2 HX.out (by decide);have HP:Hid (PO w1 B D Gp V1 C K pk m):=k1;have HS:Hid (St2 w w1 B V V1):=HS1.out.trans k2;have HK:Hid (V1.P.pages=V.P.pages∧V1.P.free=V.P.free):=(⟨k3,k4⟩:V1.P.pages=V.P.pages∧V1.P.free=V.P.free);clear k1 k2 k3 k4 k5 k6 HU f1 f2 z0 z2;go_wp2_with fail
  refine(copenB hk hl _).mono ?_;rintro e w2⟨⟨a,c,rfl⟩,hb2⟩;have hX2:=HB1.out.below hb2;have x0:=hX2.c0;have x1:=hX2.c1;have x2:=hX2.c2;have y0:=hX2.fz 0;have y1:=hX2.fz 1;have y2:=hX2.fz 2;have hXlt:=hX2.lt;obtain⟨p2,s2⟩:=HP.out.below hb2;have hg:=grown_put w2 w.heap.size (.int .i64 kd) (.int .i64 lk) (.slice a 0 c);have HP3:Hid (PO (((w2.setCell ⟨w.heap.size,0,none⟩ (.int .i64 kd)).setCell ⟨w.heap.size,1,none⟩ (.int .i64 lk)).setCell ⟨w.heap.size,2,none⟩ (.slice a 0 c)) B D Gp V1 C K pk m):=p2.other hg ⟨_,hX2⟩ (by decide);have HS3:Hid (St2 w (((w2.setCell ⟨w.heap.size,0,none⟩ (.int .i64 kd)).setCell ⟨w.heap.size,1,none⟩ (.int .i64 lk)).setCell ⟨w.heap.size,2,none⟩ (.slice a 0 c)) B V V1):=(HS.out.trans s2).other hg (Nat.le_refl _) HLO.out;clear hb2 hX2 p2 s2 hg;go_wp2;exact bodyPost_ret (v:=.tuple #[.agg #[.int .i64 kd,.int .i64 lk,.slice a 0 c],.int .i64 0]) (by simp[results,results90,go_sem, *]) rfl ⟨V1,HP3.out,HS3.out,HK.out.1,HK.out.2,.inl ⟨a,c,rfl⟩⟩
 ·have hX2:Bx3 w1 w.heap.size (.int .i64 0) (.int .i64 0) (.slice none 0 0):=HH1.out.stay k2 HX.out (by decide);have x0:=hX2.c0;have x1:=hX2.c1;have x2:=hX2.c2;have y0:=hX2.fz 0;have y1:=hX2.fz 1;have y2:=hX2.fz 2;have hXlt:=hX2.lt;have hg:=grown_put w1 w.heap.size (.int .i64 0) (.int .i64 0) (.slice none 0 0);have HP3:Hid (PO (((w1.setCell ⟨w.heap.size,0,none⟩ (.int .i64 0)).setCell ⟨w.heap.size,1,none⟩ (.int .i64 0)).setCell ⟨w.heap.size,2,none⟩ (.slice none 0 0)) B D Gp V1 C K pk m):=k1.other hg ⟨_,hX2⟩ (by decide);have HS3:Hid (St2 w (((w1.setCell ⟨w.heap.size,0,none⟩ (.int .i64 0)).setCell ⟨w.heap.size,1,none⟩ (.int .i64 0)).setCell ⟨w.heap.size,2,none⟩ (.slice none 0 0)) B V V1):=(HS1.out.trans k2).other hg (Nat.le_refl _) HLO.out;have HK:Hid (V1.P.pages=V.P.pages∧V1.P.free=V.P.free∧V1.S.down=true):=(⟨k3,k4,k5⟩:V1.P.pages=V.P.pages∧V1.P.free=V.P.free∧V1.S.down=true);clear k1 k2 k3 k4 k5 HU hX2 hg;go_wp2;exact bodyPost_ret (v:=.tuple #[.agg #[.int .i64 0,.int .i64 0,.slice none 0 0],.int .i64 2]) (by simp[results,results90,go_sem, *]) rfl ⟨V1,HP3.out,HS3.out,HK.out.1,HK.out.2.1,.inr ⟨rfl,HK.out.2.2⟩⟩
theorem csealP (h:PO w B D Gp V C K pk m)(hm:m<=50000)(n:Int)(n0:0<=n)(n1:n<V.P.pages){lk:Nat}(hk:1<=kd∧kd<=5)(hl:lk<=2147483647)(a:Option Addr)(c:Nat):Calls prog 126 #[(.pointer (some ⟨Gp,0,none⟩)),.int .i64 n,.agg #[.int .i64 kd,.int .i64 lk,.slice a 0 c]] w λe w'=>∃V',St2 w w' B V V'∧V'.P.pages=V.P.pages∧V'.P.free=V.P.free∧((e=.returned (.int .i64 0)∧PO w' B D Gp V' (wth C n (pgB kd lk)) K pk (m+1))∨(e=.returned (.int .i64 2)∧V'.S.down=true∧PO w' B D Gp V' C K pk m)):=by
 have HP:Hid (PO w B D Gp V C K pk m):=h;have HN:=hide (show 0<=n∧n<V.P.pages from⟨n0,n1⟩);have HB1:=hide (show Below w.heap.size w (w.alloc (.cells #[.int .i64 kd,.int .i64 lk,.slice a 0 c] 82)) from((Below.refl _ _).alloc (Nat.le_refl _) _));clear h;go_enter func126,ntmps126;go_wp2_with fail
 refine(csealB hk hl a c _).mono ?_;rintro e w1⟨rfl,hb1⟩;have hb2:Below w.heap.size w w1:=keepBelow HB1.out hb1;obtain⟨p1,s1⟩:=HP.out.below hb2;have HU:=hide (cput p1 hm n HN.out.1 HN.out.2 (pgB kd lk) (pgB_size _ _));have HS1:=hide (s1);clear hb1 hb2 p1 s1;go_wp2_with fail
 refine HU.out.mono ?_;rintro e w2⟨V1,k1,k2,k3,(⟨rfl,k4⟩ | ⟨rfl,k4,k5⟩)⟩
 ·have HK:=hide (show St2 w1 w2 B V V1∧V1.P.pages=V.P.pages∧V1.P.free=V.P.free∧PO w2 B D Gp V1 (wth C n (pgB kd lk)) K pk (m+1) from⟨k1,k2,k3,k4⟩);clear k1 k2 k3 k4 HU;go_wp2;go_ret;exact⟨V1,HS1.out.trans HK.out.1,HK.out.2.1,HK.out.2.2.1,.inl ⟨rfl,HK.out.2.2.2⟩⟩
 ·have HK:=hide (show St2 w1 w2 B V V1∧V1.P.pages=V.P.pages∧V1.P.free=V.P.free∧V1.S.down=true∧PO w2 B D Gp V1 C K pk m from⟨k1,k2,k3,k4,k5⟩);clear k1 k2 k3 k4 k5 HU;go_wp2;go_ret;exact⟨V1,HS1.out.trans HK.out.1,HK.out.2.1,HK.out.2.2.1,.inr ⟨rfl,HK.out.2.2.2⟩⟩
theorem csetFree (h:PO w B D Gp V C K pk m)(hm:m<=49000)(l:Nat)(hl:l<=2147483647){fr:Nat}(hf:fr<=2147483647)(hC:C 0=some (pgB 4 fr)):Calls prog 125 #[(.pointer (some ⟨Gp,0,none⟩)),.int .i64 (l:Int)] w λe w'=>∃V',St2 w w' B V V'∧V'.P.pages=V.P.pages∧((e=.returned (.int .i64 0)∧V'.P.free=l∧PO w' B D Gp V' (wth C 0 (pgB 4 l)) K pk (m+1))∨(e=.returned (.int .i64 2)∧V'.S.down=true∧PO w' B D Gp V' C K pk m)):=by
 have hpg:=h.pi.pg;have HO:=hide (copened h (by omega) 0 (by omega) (by omega) (kd:=4) (lk:=fr) ⟨by decide,by decide⟩ hf hC);have HPG:=hide (show 1<=V.P.pages by omega);clear h hpg;go_enter func125,ntmps125;go_wp2_with fail
 refine HO.out.mono ?_;rintro e w1⟨V1,k1,k2,k3,k4,(⟨a,c,rfl⟩ | ⟨rfl,k5⟩)⟩
 ·have HS1:=hide (k2);have HP1:=hide (k1);have HK:=hide (show V1.P.pages=V.P.pages from k3);have HU:=hide (λ(W:World) (hW:PO W B D Gp V1 C K pk m)=>csealP hW (by omega) 0 (by omega) (by have:=HPG.out;omega) (kd:=4) (lk:=l) ⟨by decide,by decide⟩ hl a c);clear k1 k2 k3 k4 HO;go_wp2_with fail
  refine(HU.out _ ?hPO).mono ?_
  case hPO=>exact(HP1.out.below (((Below.refl _ _).alloc (Nat.le_refl _) _))).1
  rintro e w2⟨V2,j1,j2,j3,(⟨rfl,j4⟩|⟨rfl,j4,j5⟩)⟩
  ·have HS2:Hid (St2 w w2 B V V2):=(HS1.out.trans (HP1.out.below (((Below.refl _ _).alloc (Nat.le_refl _) _))).2).trans j1;obtain⟨c0,c1,c2,c3,c4,c5,c6,c7,c8,c9⟩:=j4.pp.cells;have z3:=j4.pp.unfrozen 3;have HP3:Hid (PO (w2.setCell ⟨Gp,3,none⟩ (.int .i64 (l:Int))) B D Gp ⟨V2.b,{ V2.P with free:=l },V2.L,V2.S,V2.N⟩ (wth C 0 (pgB 4 l)) K pk (m+1)):=(⟨j4.pp.own rfl rfl rfl rfl,j4.pi.stat _ _ _ _,Nat.le_trans j4.lo (set_grown w2 Gp 3 _).size⟩:PO _ B D Gp ⟨V2.b,{ V2.P with free:=l },V2.L,V2.S,V2.N⟩ _ K pk (m+1));have HS3:Hid (St2 w (w2.setCell ⟨Gp,3,none⟩ (.int .i64 (l:Int))) B V ⟨V2.b,{ V2.P with free:=l },V2.L,V2.S,V2.N⟩):=HS2.out.trans (⟨j4.pp.own_bel 3 _ j4.lo,id⟩:St2 w2 _ B V2 ⟨V2.b,{ V2.P with free:=l },V2.L,V2.S,V2.N⟩);have HK2:=hide (show V2.P.pages=V.P.pages by rw[j2];exact HK.out);clear j1 j2 j3 j4 HU c0 c1 c2 c4 c5 c6 c7 c8 c9;go_wp2;go_ret;exact⟨_,HS3.out,HK2.out,.inl ⟨rfl,rfl,HP3.out⟩⟩
  ·have HS2:Hid (St2 w w2 B V V2):=(HS1.out.trans (HP1.out.below (((Below.refl _ _).alloc (Nat.le_refl _) _))).2).trans j1;have HK2:=hide (show V2.P.pages=V.P.pages∧V2.S.down=true∧PO w2 B D Gp V2 C K pk m from⟨by rw[j2];exact HK.out,j4,j5⟩);clear j1 j2 j3 j4 j5 HU;go_wp2;go_ret;exact⟨_,HS2.out,HK2.out.1,.inr ⟨rfl,HK2.out.2⟩⟩
 ·have HS1:=hide (k2);have HP1:=hide (k1);have HK:=hide (show V1.P.pages=V.P.pages∧V1.S.down=true from⟨k3,k5⟩);clear k1 k2 k3 k4 k5 HO;go_wp2;go_ret;exact⟨V1,HS1.out.trans (HP1.out.below (((Below.refl _ _).alloc (Nat.le_refl _) _))).2,HK.out.1,.inr ⟨rfl,HK.out.2,(HP1.out.below (((Below.refl _ _).alloc (Nat.le_refl _) _))).1⟩⟩
theorem cfree (h:PO w B D Gp V C K pk m)(hm:m<=48000)(n:Nat)(n0:0<n)(n1:n<V.P.pages)(hf:V.P.free<=2147483647)(hC:C 0=some (pgB 4 V.P.free)):Calls prog 162 #[(.pointer (some ⟨Gp,0,none⟩)),.int .i64 (n:Int)] w λe w'=>∃V' C',St2 w w' B V V'∧V'.P.pages=V.P.pages∧PO w' B D Gp V' C' K pk (m+2)∧((e=.returned (.int .i64 0)∧V'.P.free=n∧C'=wth (wth C n (pgB 3 V.P.free)) 0 (pgB 4 n))∨(e=.returned (.int .i64 2)∧V'.S.down=true)):=by
 have hpg:=h.pi.pg;have HU:=hide (csealP h (by omega) n (by omega) (by omega) (kd:=3) (lk:=V.P.free) ⟨by decide,by decide⟩ hf none 0);obtain⟨c0,c1,c2,c3,c4,c5,c6,c7,c8,c9⟩:=h.pp.cells;have hn0:¬(n:Int)=0:=by omega
 have hn1:((n:Int) == 0)=false:=by simp;omega
 have HN:=hide (show 0<n∧n<V.P.pages∧V.P.pages<=59000 from⟨n0,n1,hpg.2.2⟩);have HC:=hide (hC);clear h hpg c0 c1 c2 c4 c5 c6 c7 c8 c9 hC n0 n1;go_enter func162,ntmps162;go_wp2_with fail
 refine HU.out.mono ?_;rintro e w1⟨V1,k1,k2,k3,(⟨rfl,k4⟩ | ⟨rfl,k4,k5⟩)⟩
 ·have HS1:=hide (k1);have HK:=hide (show V1.P.pages=V.P.pages from k2);have hq:=HN.out;have HF:=hide (csetFree k4 (by omega) n (by omega) (fr:=V.P.free) hf (by rw[wth_ne _ _ (by omega)];exact HC.out));clear k1 k2 k3 k4 HU hq c3;go_wp2_with fail
  refine HF.out.mono ?_;rintro e w2⟨V2,j1,j2,(⟨rfl,j3,j4⟩ | ⟨rfl,j3,j4⟩)⟩
  ·have HR:=hide (show St2 w w2 B V V2∧V2.P.pages=V.P.pages∧V2.P.free=n∧PO w2 B D Gp V2 (wth (wth C n (pgB 3 V.P.free)) 0 (pgB 4 n)) K pk (m+2) from⟨HS1.out.trans j1,by rw[j2];exact HK.out,j3,j4⟩);clear j1 j2 j3 j4 HF;go_wp2;go_ret;exact⟨V2,_,HR.out.1,HR.out.2.1,HR.out.2.2.2,.inl ⟨rfl,HR.out.2.2.1,rfl⟩⟩
  ·have HR:=hide (show St2 w w2 B V V2∧V2.P.pages=V.P.pages∧V2.S.down=true∧PO w2 B D Gp V2 (wth C n (pgB 3 V.P.free)) K pk (m+2) from⟨HS1.out.trans j1,by rw[j2];exact HK.out,j3,j4.mono (by omega)⟩);clear j1 j2 j3 j4 HF;go_wp2;go_ret;exact⟨V2,_,HR.out.1,HR.out.2.1,HR.out.2.2.2,.inr ⟨rfl,HR.out.2.2.1⟩⟩
 ·have HR:=hide (show St2 w w1 B V V1∧V1.P.pages=V.P.pages∧V1.S.down=true∧PO w1 B D Gp V1 C K pk (m+2) from⟨k1,k2,k4,k5.mono (by omega)⟩);clear k1 k2 k3 k4 k5 HU;go_wp2;go_ret;exact⟨V1,_,HR.out.1,HR.out.2.1,HR.out.2.2.2,.inr ⟨rfl,HR.out.2.2.1⟩⟩
theorem updR_updR (F:Int->Option FrP)(n:Int)(x y:FrP):updR (updR F n x) n y=updR F n y:=by
 funext k;unfold updR;split<;>rfl
theorem poolC_pages (b:Bk)(P:PS):(poolC b P).setIfInBounds 2 (.int .i64 ((P.pages:Int)+1))=poolC b { P with pages:=P.pages+1 }:=by
 unfold poolC;simp
theorem cgrow (h:PO w B D Gp V C K pk m)(hm:m<=49000)(hp:V.P.pages<59000):Calls prog 124 #[(.pointer (some ⟨Gp,0,none⟩))] w λe w'=>∃V',St2 w w' B V V'∧V'.P.free=V.P.free∧((e=.returned (.tuple #[.int .i64 (V.P.pages:Int),.int .i64 0])∧V'.P.pages=V.P.pages+1∧PO w' B D Gp V' (wth C V.P.pages (pgB 3 0)) K pk (m+1))∨(e=.returned (.tuple #[.int .i64 0,.int .i64 2])∧V'.S.down=true∧PO w' B D Gp V' C K pk m)):=by
 obtain⟨c0,c1,c2,c3,c4,c5,c6,c7,c8,c9⟩:=h.pp.cells;have hlt:¬(65536:Int)<=(V.P.pages:Int):=by omega
 have HP:=hide (h);clear h c0 c1 c3 c4 c5 c6 c7 c8 c9;go_enter func124,ntmps124;go_wp2_with fail
 refine(csealB (K:=3) (Lk:=0) ⟨by decide,by decide⟩ (by decide) none 0 _).mono ?_;rintro e w1⟨rfl,hb1⟩;obtain⟨p1,s1⟩:=HP.out.below hb1;have HS1:=hide (s1);have HM:=hide (cmakeRoom p1 (by omega));clear p1 s1 hb1 c2 hlt;go_wp2_with fail
 refine HM.out.mono ?_;rintro e w2⟨V1,k1,k2,k3,k4,k5,k6,(⟨rfl,k7⟩ | ⟨rfl,k7⟩)⟩
 ·obtain⟨c0,c1,c2,c3,c4,c5,c6,c7,c8,c9⟩:=k1.pp.cells;have z2:=k1.pp.unfrozen 2;have hw:wrap64 ((V1.P.pages:Int)+1)=(V1.P.pages:Int)+1:=by
   unfold wrap64;have:=k1.pi.pg;omega
  have hmo:=k1.pi.most;have hch:=k1.pi.pg;have h3:PP (w2.setCell ⟨Gp,2,none⟩ (.int .i64 ((V1.P.pages:Int)+1))) B D Gp V1.b { V1.P with pages:=V1.P.pages+1 } V1.L V1.S:=k1.pp.own (poolC_pages _ _) rfl rfl rfl;have hb3:=k1.pp.own_bel 2 (.int .i64 ((V1.P.pages:Int)+1)) k1.lo;have hfn:V1.P.fs (V1.P.pages:Int)=none:=by
   cases hq:V1.P.fs (V1.P.pages:Int) with
   | none=>rfl
   | some f=>have:=(k1.pi.held hq).2.2.1;omega
  have hi64:i64 (V1.P.pages:Int):=i64_in (by omega) (by omega);have HH:=hide (chold (V1.P.pages:Int) (pgB 3 0) h3 (Nat.le_trans k1.lo hb3.size) hi64 (by show V1.P.order.length<=63;omega) (λx hx=>(k1.pi.keys x).2 hx) hfn);have HP1:=hide (k1);have HS2:=hide (HS1.out.trans k2);have HB3:=hide (hb3);have HK:=hide (show V1.P.pages=V.P.pages∧V1.P.free=V.P.free∧V1.P.order.length<V1.P.most∧i64 (V1.P.pages:Int)∧V1.P.pages<59000 from⟨k3,k4,k7,hi64,by omega⟩);clear k1 k2 k3 k4 k5 k6 k7 HM h3 hb3 hfn hi64 c0 c1 c3 c4 c5 c6 c7 c8 c9 hmo hch HS1;generalize hW3:w2.setCell ⟨Gp,2,none⟩ (.int .i64 ((V1.P.pages:Int)+1))=w3 at *;go_wp2_with fail
  refine HH.out.mono ?_;rintro e w4⟨v,rfl,q1,q2⟩;have hbd:=HK.out;have HCH:=hide (cchange (V1.P.pages:Int) ⟨w3.heap.size,pgB 3 0,false⟩ (pgB 3 0) q1 (updR_at _ _ _) (Nat.le_trans HP1.out.lo (Nat.le_trans HB3.out.size q2.size)) hbd.2.2.2.1 HP1.out.chs);have HQ2:=hide (q2);clear q1 q2 HH hbd;go_wp2_with fail
  refine HCH.out.mono ?_;rintro e w5⟨rfl,q1,q2⟩;have HQ1:=hide (q1);have HQ3:=hide (q2);clear q1 q2 HCH;go_wp2
  go_ret2
  have hk:=HK.out;refine⟨⟨{ V1.b with vo:=v },chP { V1.P with pages:=V1.P.pages+1,fs:=updR V1.P.fs (V1.P.pages:Int) ⟨w3.heap.size,pgB 3 0,false⟩,order:=V1.P.order++[(V1.P.pages:Int)]} (V1.P.pages:Int) w3.heap.size (pgB 3 0),V1.L,V1.S,V1.N⟩,HS2.out.trans ⟨HB3.out.trans (HQ2.out.trans HQ3.out),id⟩,hk.2.1,.inl ⟨by rw[hk.1];rfl,by show V1.P.pages+1=_;rw[hk.1],⟨HQ1.out,?_,Nat.le_trans HP1.out.lo (Nat.le_trans HB3.out.size (Nat.le_trans HQ2.out.size HQ3.out.size))⟩⟩⟩;have hpi:=HP1.out.pi.grow (s:=pgB 3 0) w3.heap.size (pgB_size _ _) hk.2.2.1 hk.2.2.2.2;rw[<-hk.1];unfold chP
  dsimp only
  rw[updR_updR];exact hpi
 ·have HK:=hide (show St2 w w2 B V V1∧V1.P.free=V.P.free∧V1.S.down=true∧PO w2 B D Gp V1 C K pk m from⟨HS1.out.trans k2,k4,k7,k1⟩);clear k1 k2 k3 k4 k5 k6 k7 HM;go_wp2
  go_ret2
  exact⟨V1,HK.out.1,HK.out.2.1,.inr ⟨rfl,HK.out.2.2⟩⟩
theorem calloc_new (h:PO w B D Gp V C K pk m)(hm:m<=49000)(hp:V.P.pages<59000)(hf:V.P.free=0):Calls prog 72 #[(.pointer (some ⟨Gp,0,none⟩))] w λe w'=>∃V',St2 w w' B V V'∧V'.P.free=V.P.free∧((e=.returned (.tuple #[.int .i64 (V.P.pages:Int),.int .i64 0])∧V'.P.pages=V.P.pages+1∧PO w' B D Gp V' (wth C V.P.pages (pgB 3 0)) K pk (m+1))∨(e=.returned (.tuple #[.int .i64 0,.int .i64 2])∧V'.S.down=true∧PO w' B D Gp V' C K pk m)):=by
 obtain⟨c0,c1,c2,c3,c4,c5,c6,c7,c8,c9⟩:=h.pp.cells;rw[hf] at c3;have HG:=hide (cgrow h hm hp);clear h c0 c1 c2 c4 c5 c6 c7 c8 c9;go_enter func72,ntmps72;go_wp2_with fail
 refine HG.out.mono ?_;rintro e w1⟨V1,k1,k2,(⟨rfl,k3,k4⟩ | ⟨rfl,k3,k4⟩)⟩
 ·have HK:=hide (show St2 w w1 B V V1∧V1.P.free=V.P.free∧V1.P.pages=V.P.pages+1∧PO w1 B D Gp V1 (wth C V.P.pages (pgB 3 0)) K pk (m+1) from⟨k1,k2,k3,k4⟩);clear k1 k2 k3 k4 HG;go_wp2
  go_ret2
  exact⟨V1,HK.out.1,HK.out.2.1,.inl ⟨rfl,HK.out.2.2⟩⟩
 ·have HK:=hide (show St2 w w1 B V V1∧V1.P.free=V.P.free∧V1.S.down=true∧PO w1 B D Gp V1 C K pk m from⟨k1,k2,k3,k4⟩);clear k1 k2 k3 k4 HG;go_wp2
  go_ret2
  exact⟨V1,HK.out.1,HK.out.2.1,.inr ⟨rfl,HK.out.2.2⟩⟩
theorem calloc_old (h:PO w B D Gp V C K pk m)(hm:m<=48000)(h0:0<V.P.free)(h1:V.P.free<V.P.pages){nx:Nat}(hn:nx<=2147483647)(hC:C V.P.free=some (pgB 3 nx))(hC0:C 0=some (pgB 4 V.P.free)):Calls prog 72 #[(.pointer (some ⟨Gp,0,none⟩))] w λe w'=>∃V' C',St2 w w' B V V'∧V'.P.pages=V.P.pages∧PO w' B D Gp V' C' K pk (m+2)∧((e=.returned (.tuple #[.int .i64 (V.P.free:Int),.int .i64 0])∧V'.P.free=nx∧C'=wth (wth C 0 (pgB 4 nx)) V.P.free (pgB 3 0))∨(e=.returned (.tuple #[.int .i64 0,.int .i64 2])∧V'.S.down=true)):=by
 obtain⟨c0,c1,c2,c3,c4,c5,c6,c7,c8,c9⟩:=h.pp.cells;have hpg:=h.pi.pg;have hf0:¬(V.P.free:Int)=0:=by omega
 have hf1:((V.P.free:Int) == 0)=false:=by simp;omega
 have HO:=hide (copened h (by omega) (V.P.free:Int) (by omega) (by omega) (kd:=3) (lk:=nx) ⟨by decide,by decide⟩ hn hC);have HN:=hide (show 0<V.P.free∧V.P.free<V.P.pages∧V.P.pages<=59000 from⟨h0,h1,hpg.2.2⟩);have HC0:=hide (hC0);have HLO:=hide (h.lo);clear h hpg c0 c1 c2 c4 c5 c6 c7 c8 c9 hC hC0 h0 h1;go_enter func72,ntmps72;go_wp2_with fail
 refine HO.out.mono ?_;rintro e w1⟨V1,k1,k2,k3,k4,(⟨a,c,rfl⟩ | ⟨rfl,k5⟩)⟩
 ·have HS1:=hide (k2);have HP1:=hide (k1);have HK:=hide (show V1.P.pages=V.P.pages∧V1.P.free=V.P.free from⟨k3,k4⟩);have hq:=HN.out;have HU:=hide (λ(W:World) (hW:PO W B D Gp V1 C K pk m)=>csetFree hW (by omega) nx hn (fr:=V.P.free) (by omega) HC0.out);clear k1 k2 k3 k4 HO c3;go_wp2_with fail
  refine(HU.out _ ?hPO).mono ?_
  case hPO=>exact(HP1.out.below (((Below.refl _ _).alloc (Nat.le_refl _) _))).1
  rintro e w2⟨V2,j1,j2,(⟨rfl,j3,j4⟩|⟨rfl,j3,j4⟩)⟩
  ·have hX:Bx3 w2 w1.heap.size (.int .i64 3) (.int .i64 nx) (.slice a 0 c):=(HP1.out.below (((Below.refl _ _).alloc (Nat.le_refl _) _))).1.stay j1 (Bx3.new _ _ _ _) (by decide);have x0:=hX.c0;have x1:=hX.c1;have x2:=hX.c2;have y1:=hX.fz 1;have y2:=hX.fz 2;have hXlt:=hX.lt;have HX:=hide (hX);have HP2:=hide (j4);have hle:=HS1.out.bel.size;have HS2:Hid (St2 w w2 B V V2):=(HS1.out.trans (HP1.out.below (((Below.refl _ _).alloc (Nat.le_refl _) _))).2).trans j1;have HK2:=hide (show V2.P.pages=V.P.pages∧V2.P.free=nx from⟨by rw[j2];exact HK.out.1,j3⟩);have HU2:=hide (λ(W:World) (hW:PO W B D Gp V2 (wth C 0 (pgB 4 nx)) K pk (m+1))=>csealP hW (by omega) (V.P.free:Int) (by omega) (by have:=HK2.out.1;omega) (kd:=3) (lk:=0) ⟨by decide,by decide⟩ (by decide) none 0);clear j1 j2 j3 j4 HU hX;go_wp2_with fail
   refine(HU2.out _ ?hPO).mono ?_
   case hPO=>exact HP2.out.other (c:=w1.heap.size) (((But.refl _ _).set 1 _).set 2 _) ⟨_,HX.out⟩ (by decide)
   rintro e w3⟨V3,l1,l2,l3,(⟨rfl,l4⟩|⟨rfl,l4,l5⟩)⟩
   ·have HR:=hide (show St2 w w3 B V V3∧V3.P.pages=V.P.pages∧V3.P.free=nx∧PO w3 B D Gp V3 (wth (wth C 0 (pgB 4 nx)) V.P.free (pgB 3 0)) K pk (m+2) from⟨(HS2.out.other (c:=w1.heap.size) (((But.refl _ _).set 1 _).set 2 _) hle HLO.out).trans l1,by rw[l2];exact HK2.out.1,by rw[l3];exact HK2.out.2,l4⟩);clear l1 l2 l3 l4 HU2;go_wp2
    go_ret2
    exact⟨V3,_,HR.out.1,HR.out.2.1,HR.out.2.2.2,.inl ⟨rfl,HR.out.2.2.1,rfl⟩⟩
   ·have HR:=hide (show St2 w w3 B V V3∧V3.P.pages=V.P.pages∧V3.S.down=true∧PO w3 B D Gp V3 (wth C 0 (pgB 4 nx)) K pk (m+2) from⟨(HS2.out.other (c:=w1.heap.size) (((But.refl _ _).set 1 _).set 2 _) hle HLO.out).trans l1,by rw[l2];exact HK2.out.1,l4,l5.mono (by omega)⟩);clear l1 l2 l3 l4 l5 HU2;go_wp2
    go_ret2
    exact⟨V3,_,HR.out.1,HR.out.2.1,HR.out.2.2.2,.inr ⟨rfl,HR.out.2.2.1⟩⟩
  ·have HR:=hide (show St2 w w2 B V V2∧V2.P.pages=V.P.pages∧V2.S.down=true∧PO w2 B D Gp V2 C K pk (m+2) from⟨(HS1.out.trans (HP1.out.below (((Below.refl _ _).alloc (Nat.le_refl _) _))).2).trans j1,by rw[j2];exact HK.out.1,j3,j4.mono (by omega)⟩);clear j1 j2 j3 j4 HU;go_wp2
   go_ret2
   exact⟨V2,_,HR.out.1,HR.out.2.1,HR.out.2.2.2,.inr ⟨rfl,HR.out.2.2.1⟩⟩
 ·have HP1:=hide (k1);have HR:=hide (show St2 w w1 B V V1∧V1.P.pages=V.P.pages∧V1.S.down=true from⟨k2,k3,k5⟩);clear k1 k2 k3 k4 k5 HO;go_wp2
  go_ret2
  exact⟨V1,C,HR.out.1.trans (HP1.out.below (((Below.refl _ _).alloc (Nat.le_refl _) _))).2,HR.out.2.1,((HP1.out.below (((Below.refl _ _).alloc (Nat.le_refl _) _))).1).mono (by omega),.inr ⟨rfl,HR.out.2.2⟩⟩
open Go.Shelf
section
variable {ops:Array Oper}{rest:List Oper}{o:Oper}{a:Act}{Q:Exit->Act->World->Prop}
theorem wpList_next_ptr (w:World)(hg:o.guard=none)(it:Operand)(hop:o.op=Op.next it false)(b r n:Nat)(D:DataW Unit)(left:Lit->Bool)(cnt:Nat)(F:Int->Option Nat)(hK:∀x,i64 x->(Maps.has D (.int .i64 x)=(F x).isSome∧∀v,F x=some v->∀z,D.atKey (.int .i64 x) z=.lit (.int .i64 v)))(hL:∀x,i64 x->left (.int .i64 x)=true->Maps.has D (.int .i64 x)=true)(hit:a.eval it=.pointer (some ⟨r,0,none⟩))(h:w.ranges prog 3 ptrElem b r n D left cnt)(hDone:cnt=0->(∀kl,left kl=false)->wpList prog ops Q rest (a.put o.dst (.tuple #[.bool false])) w)(hMore:∀(x:Int) (v:Nat) (w':World) (cnt':Nat),i64 x->left (.int .i64 x)=true->F x=some v->w'.ranges prog 3 ptrElem b r n D (λz=>left z && !z.sameKey (.int .i64 x)) cnt'->cnt'<cnt->w.grownBy w' (some r)->w'.heap.size=w.heap.size->(Instr.entry (.pointer (some ⟨r,0,none⟩))).run prog w'=.ok (.tuple #[.int .i64 x,.pointer (some ⟨v,0,none⟩)]) w'->wpList prog ops Q rest (a.put o.dst (.tuple #[.bool true,.int .i64 x,.pointer (some ⟨v,0,none⟩)])) w'):wpList prog ops Q (o::rest) a w:=
 wpList_next_ranges w hg it hop 3 lawI ptrElem (Value.int .i64) ptrO (λkey kl hkey=>by obtain⟨x,rfl,_⟩:=Maps.keyOf_int_inv underlying3 hkey;exact⟨x,rfl⟩)
  (λv y hv=>by
   unfold ptrElem at hv;split at hv
   ·exact⟨none,rfl⟩
   ·exact⟨some _,rfl⟩
   ·cases hv) b r n D left cnt hit h hDone (λx c kl y w' cnt' hkey hlk hv hat hrg hlt hgr hsz hen=>by
   obtain⟨x',ex,rfl,hwx⟩:=Maps.keyOf_int_inv underlying3 hkey;cases ex;obtain⟨k1,k2⟩:=hK x hwx;rw[hL x hwx hlk] at k1;obtain⟨v,hv'⟩:=Option.isSome_iff_exists.1 k1.symm;have e:=(hat .nil).symm.trans (k2 v hv' .nil);cases c with
   | none =>
    have hv:some (DataW.nil,[])=some y:=hv;injection hv with hv;rw[<-hv] at e;cases e
   | some q =>
    have hv:some (DataW.lit (.int .i64 (q:Int)),[])=some y:=hv;injection hv with hv;rw[<-hv] at e;have e:(DataW.lit (.int .i64 (q:Int)):DataW Unit)=.lit (.int .i64 (v:Int)):=e;injection e with e;injection e with _ e;obtain rfl:q=v:=by omega
    exact hMore x q w' cnt' hwx hlk hv' hrg hlt hgr hsz hen)
theorem wpList_next_unit (w:World)(hg:o.guard=none)(it:Operand)(hop:o.op=Op.next it false)(b r n:Nat)(D:DataW Unit)(left:Lit->Bool)(cnt:Nat)(hit:a.eval it=.pointer (some ⟨r,0,none⟩))(h:w.ranges prog 3 unitElem b r n D left cnt)(hDone:cnt=0->(∀kl,left kl=false)->wpList prog ops Q rest (a.put o.dst (.tuple #[.bool false])) w)(hMore:∀(x:Int) (w':World) (cnt':Nat),i64 x->left (.int .i64 x)=true->w'.ranges prog 3 unitElem b r n D (λz=>left z && !z.sameKey (.int .i64 x)) cnt'->cnt'<cnt->w.grownBy w' (some r)->w'.heap.size=w.heap.size->(Instr.entry (.pointer (some ⟨r,0,none⟩))).run prog w'=.ok (.tuple #[.int .i64 x,.agg #[]]) w'->wpList prog ops Q rest (a.put o.dst (.tuple #[.bool true,.int .i64 x,.agg #[]])) w'):wpList prog ops Q (o::rest) a w:=
 wpList_next_ranges w hg it hop 3 lawI unitElem (Value.int .i64) (λ_:Unit=>.agg #[]) (λkey kl hkey=>by obtain⟨x,rfl,_⟩:=Maps.keyOf_int_inv underlying3 hkey;exact⟨x,rfl⟩)
  (λv y hv=>⟨(),(unitElem_inv hv).1⟩) b r n D left cnt hit h hDone (λx c kl y w' cnt' hkey hlk hv hat hrg hlt hgr hsz hen=>by
   obtain⟨x',ex,rfl,hwx⟩:=Maps.keyOf_int_inv underlying3 hkey;cases ex;exact hMore x w' cnt' hwx hlk hrg hlt hgr hsz hen)
end
structure Drt (P:PS) (left:Lit->Bool) (ls:List Int):Prop where
 nd:ls.Nodup
 mem:∀x,x∈ls↔(isDr P x=true∧left (.int .i64 x)=false)
theorem Drt.skip (h:Drt P left ls)(hx:isDr P x=false):Drt P (λz=>left z && !z.sameKey (.int .i64 x)) ls:=
 ⟨h.nd,λy=>by
  rw[h.mem y];by_cases e:y=x
  ·subst e;simp[hx]
  ·have:(Lit.int .i64 y).sameKey (.int .i64 x)=false:=sameKey_ne (λh=>by injection h with _ h;exact e h);simp[this]⟩
theorem Drt.take (h:Drt P left ls)(hx:isDr P x=true)(hl:left (.int .i64 x)=true):Drt P (λz=>left z && !z.sameKey (.int .i64 x)) (ls++[x]):=by
 refine⟨?_,λy=>?_⟩
 ·rw[List.nodup_append];refine⟨h.nd,by simp,λa ha b hb e=>?_⟩;simp at hb;subst hb;subst e;have:=((h.mem a).1 ha).2;rw[hl] at this;cases this
 ·rw[List.mem_append,h.mem y,List.mem_singleton];by_cases e:y=x
  ·subst e;simp[hx,Lit.sameKey]
  ·have:(Lit.int .i64 y).sameKey (.int .i64 x)=false:=sameKey_ne (λh=>by injection h with _ h;exact e h);simp[this,e]
theorem row_ne {base e size n:Nat}{v:Value}{xs:List Value}(h:w.ownsRow base e size v n xs)(hk:k<base):some k≠v.ownBlock:=λq=>by
 have:=(World.ownsRow.lt h k q.symm).1;omega
theorem cdirty (h:PO w B D Gp V C K pk m):Calls prog 75 #[(.pointer (some ⟨Gp,0,none⟩))] w λe w'=>∃(ls:List Int) (a:Option Addr) (c:Nat),e=.returned (.slice a ls.length c)∧ls.Nodup∧(∀x,x∈ls↔isDr V.P x=true)∧w'.ownsRow w.heap.size 3 1 (.slice a ls.length c) ls.length (ls.map (Value.int .i64))∧Below w.heap.size w w':=by
 obtain⟨DF,hown,HKF⟩:=h.pp.fmap;have hbl:=hown.lt;have hsz:=hown.size_le;have HKK:=hide (HKF);obtain⟨c0,c1,c2,c3,c4,c5,c6,c7,c8,c9⟩:=h.pp.cells;have HPO:=hide (h);have HI:=hide (show ∀x,isDr V.P x=true->i64 x from λx hx=>by
  unfold isDr at hx;cases hq:V.P.fs x with
  | none=>rw[hq] at hx;cases hx
  | some f=>have:=h.pi.held hq;have:=h.pi.pg;exact i64_in (by omega) (by omega))
 obtain⟨i0,hi,hz⟩:=Option.map_eq_some_iff.1 infoIntP;simp only[Prod.mk.injEq] at hz;obtain⟨hz0,hz1,hz2⟩:=hz;clear h HKF c0 c1 c2 c3 c5 c6 c7 c8 c9;go_enter func75,ntmps75;go_wp2_with (first
  | (at_range;refine wpList_range_own _ rfl _ 85 rfl 3 100 lawI underlying85 _ V.b.bF 65 _ rfl hown ?_;intro w0 hrg0 hg0 hs0)
  | go_in)
 try go_frame
 have HB0:=hide (show Below w.heap.size w w0 from⟨hg0.os,hg0.tape,hg0.output,hg0.size,λi hi=>hg0.block i hi (by simp)⟩);have HD0:=hide (show Drt V.P (Maps.has DF) [] from⟨by simp,λx=>by
  constructor
  ·intro k;cases k
  ·rintro⟨k1,k2⟩;have:=(HKK.out x (HI.out x k1)).1;rw[k2] at this;unfold isDr at k1;cases hq:V.P.fs x with
   | none=>rw[hq] at k1;cases k1
   | some f=>rw[hq] at this;cases this⟩)
 clear hg0
 go_loopw [3] (λv wr=>∃(left:Lit->Bool) (cnt:Nat) (ls:List Int) (va:Option Addr) (vc:Nat),v=.slice va ls.length vc∧wr.ranges prog 3 ptrElem V.b.bF w.heap.size 65 DF left cnt∧ls.length+cnt<=65∧w.heap.size<wr.heap.size∧Hid (∀x,i64 x->left (.int .i64 x)=true->Maps.has DF (.int .i64 x)=true)∧Hid (Drt V.P left ls)∧Hid (wr.ownsRow (w.heap.size+1) 3 1 (.slice va ls.length vc) ls.length (ls.map (Value.int .i64)))∧Hid (Below w.heap.size w wr)) (λ_ wr=>wr.rangeLeft V.b.bF w.heap.size)
 case atStart=>exact⟨_,_,[],none,0,rfl,hrg0,by simpa using hsz,by omega,hide (λx _ h=>h),HD0,hide (World.ownsRow_nil _ _ _ _),HB0⟩
 case round =>
  obtain⟨left,cnt,ls,va,vc,rfl,hrg,hcnt,hlt0,HLF,HDR,HROW,HBr⟩:=hrel;clear hrg0 hs0 HD0 HB0;go_wp2_with (first
   | (at_next;refine wpList_next_ptr _ rfl _ rfl V.b.bF w.heap.size 65 DF left cnt _ HKK.out HLF.out rfl hrg ?_ ?_)
   | go_in)
  ·intro hc0 hl0;have HMEM:=hide (show ls.Nodup∧∀x,x∈ls↔isDr V.P x=true from⟨HDR.out.nd,λx=>by rw[HDR.out.mem x,hl0];simp⟩);rcases HROW.out.2 with⟨e0,h0⟩ | ⟨g,cap,cur,e0,hbs,hgg,hn1,hn2,hn3,hn4⟩
   ·injection e0 with ea el ec;subst ea ec;have hls:ls=[]:=List.length_eq_zero_iff.1 h0;subst hls;go_wp2_with fail
    refine(AnyM.slices_Sort_int_none Tryz.sortA none 0 wr).mono ?_;rintro e w1⟨rfl,hw⟩;rw[hw];clear hw;go_wp2;go_ret;exact⟨[],none,0,rfl,HMEM.out.1,HMEM.out.2,World.ownsRow_nil _ _ _ _,HBr.out⟩
   ·injection e0 with ea el ec;subst ea ec;have hH:=holds_of_blockI hgg (by rw[Nat.mul_one] at hn4;exact hn4);have HS:=hide (AnyM.slices_Sort_int Tryz.sortA g 0 vc ls wr hH (gl hgg) (by omega));have HG:=hide (show w.heap.size+1<=g∧wr.heap[g]?=some (.cells cur 3 (0,0))∧ls.length<=vc∧vc<=maxLen∧cur.size=vc*1 from⟨hbs,hgg,hn1,hn2,hn3⟩);clear hH hgg hn4;go_wp2_with fail
    refine HS.out.mono ?_;rintro e w2⟨rfl,q,os,rfl⟩;go_wp2;go_ret;have hperm:=List.mergeSort_perm ls (λx y=>decide (x<=y));have hl:(ls.mergeSort (λx y=>decide (x<=y))).length=ls.length:=hperm.length_eq;have hgs:=grownBy_sortedI (w:=wr) (g:=g) (n:=q) (os:=os) (ls.mergeSort (λx y=>decide (x<=y))).toArray;refine⟨ls.mergeSort (λx y=>decide (x<=y)),some ⟨g,0,none⟩,vc,by rw[hl];rfl,hperm.nodup_iff.2 HMEM.out.1,λx=>by rw[hperm.mem_iff];exact HMEM.out.2 x,?_,?_⟩
    ·rw[hl];exact ownsRow_sortedI hl (by have:=HG.out.1;omega) HG.out.2.1 HG.out.2.2.1 HG.out.2.2.2.1 HG.out.2.2.2.2
    ·exact HBr.out.trans ⟨hgs.os,hgs.tape,hgs.output,hgs.size,λi hi=>hgs.block i (Nat.lt_of_lt_of_le hi HBr.out.size) (λe=>by injection e with e;have:=HG.out.1;omega)⟩
  ·intro x v w5 cnt1 hwx hlx f hf hfb hrg1 hlt hg1 hs1 hen;subst hfb;have h5:w.heap.size<w5.heap.size:=by omega
   have HSZ:=hide (h5);clear hs1 h5;have HB5:=hide (show Below w.heap.size w w5 from HBr.out.trans ⟨hg1.os,hg1.tape,hg1.output,hg1.size,λi hi=>hg1.block i (Nat.lt_of_lt_of_le hi HBr.out.size) (λe=>by injection e with e;omega)⟩);obtain⟨f0,f1,f2,-,-,-⟩:=(HPO.out.pp.below HB5.out).fcells hf;have HR5:=hide (show w5.ownsRow (w.heap.size+1) 3 1 (.slice va ls.length vc) ls.length (ls.map (Value.int .i64)) from row_keep HROW.out λg hg=>hg1.block g (World.ownsRow.lt HROW.out g hg).2 (λe=>by
    injection e with e;have:=(World.ownsRow.lt HROW.out g hg).1;omega))
   have hisd:isDr V.P x=f.dirty:=by unfold isDr;rw[hf]
   clear f0 f1;cases hd:f.dirty with
   | false =>
    rw[hd] at f2 hisd;have HS:=hide (HDR.out.skip hisd);have HLF2:=hide (show ∀y,i64 y->(left (.int .i64 y) && !(Lit.int .i64 y).sameKey (.int .i64 x))=true->Maps.has DF (.int .i64 y)=true from λy hy k=>HLF.out y hy (by simp at k;exact k.1));clear hisd;go_wp2_with fail
    go_roundw
    case rel=>exact⟨_,cnt1,ls,va,vc,rfl,hrg1,by omega,HSZ.out,HLF2,HS,HR5,HB5⟩
    case measure=>rw[hrg1.left_eq,hrg.left_eq];exact hlt
   | true =>
    rw[hd] at f2 hisd;have HS:=hide (HDR.out.take hisd hlx);have HLF2:=hide (show ∀y,i64 y->(left (.int .i64 y) && !(Lit.int .i64 y).sameKey (.int .i64 x))=true->Maps.has DF (.int .i64 y)=true from λy hy k=>HLF.out y hy (by simp at k;exact k.1));clear hisd;go_wp2_with (first
     | (at_builtin;refine wpList_append_own_at _ rfl _ _ 42 rfl (w.heap.size+1) 3 i0 (.int .i64 0) 1 8 underlying42 hi hz0 hz1 hz2 rfl (by decide) (.slice va ls.length vc) ls.length (ls.map (Value.int .i64)) rfl (World.ownsRow.alloc HR5.out _) ⟨w5.heap.size,0,none⟩ 1 1 [.int .i64 x] rfl rfl (newsI _ _) (λx hx=>by simp at hx;subst hx;rfl) (by unfold maxLen;omega) (by omega) (by have:=HSZ.out;simp;omega) ?_;intro v1 w6 ho1 hg6 hnil1 hown1;obtain⟨a1,cap1,rfl⟩:=owns_sliceI ho1;have hgA:w5.grownBy w6 (Value.slice va ls.length vc).ownBlock:=But.trans (World.grownBy_alloc w5 _ _) hg6;have HR6:=hide (show w6.ownsRow (w.heap.size+1) 3 1 (.slice a1 (ls++[x]).length cap1) (ls++[x]).length ((ls++[x]).map (Value.int .i64)) by rw[List.length_append,List.map_append];exact ho1);have hrg2:=hrg1.kept hgA (row_ne HR5.out (by omega)) (row_ne HR5.out (by omega));have HB6:=hide (show Below w.heap.size w w6 from HB5.out.trans ⟨hgA.os,hgA.tape,hgA.output,hgA.size,λi hi=>hgA.block i (Nat.lt_of_lt_of_le hi HB5.out.size) (row_ne HR5.out (by omega))⟩);have hs6:=hgA.size;clear ho1 hg6 hnil1 hown1 hgA)
     | go_in)
    go_roundw
    case rel=>exact⟨_,cnt1,ls++[x],a1,cap1,by simp,hrg2,by simp;omega,Nat.lt_of_lt_of_le HSZ.out hs6,HLF2,HS,HR6,HB6⟩
    case measure=>rw[hrg2.left_eq,hrg.left_eq];exact hlt
theorem cpages (X:World)(B D G bp bf n:Nat)(L:LS)(S:DS)(h:PL X B D G bp bf n L S):Calls prog 29 #[(.pointer (some ⟨G,0,none⟩))] X λe w'=>e=.returned (.int .i64 L.last.pages)∧w'=X:=by
 obtain⟨c0,c1,c2,c3,c4,c5,c6,c7⟩:=h.cells;clear h;go_enter func29,ntmps29;go_wp2_with fail
 go_ret;exact⟨rfl,rfl⟩
theorem cframes (X:World)(B D G bp bf n:Nat)(L:LS)(S:DS)(h:PL X B D G bp bf n L S):Calls prog 36 #[(.pointer (some ⟨G,0,none⟩))] X λe w'=>e=.returned (.int .i64 L.fr)∧w'=X:=by
 obtain⟨c0,c1,c2,c3,c4,c5,c6,c7⟩:=h.cells;clear h;go_enter func36,ntmps36;go_wp2_with fail
 go_ret;exact⟨rfl,rfl⟩
theorem isD_some (h:isDr P x=true):∃f,P.fs x=some f∧f.dirty=true:=by
 unfold isDr at h;cases hq:P.fs x with
 | none=>rw[hq] at h;cases h
 | some f=>rw[hq] at h;exact⟨f,rfl,h⟩
theorem isD_mk (h:P.fs x=some f)(hd:f.dirty=true):isDr P x=true:=by unfold isDr;rw[h];exact hd
theorem drop_step {P':PS}(hn:ls.Nodup)(hi:i<ls.length)(h:∀x,isDr P x=true↔x∈ls.drop i)(hP:P'.fs=updR P.fs ls[i] { f with dirty:=false }):∀x,isDr P' x=true↔x∈ls.drop (i+1):=by
 intro x;have hd:ls.drop i=ls[i]::ls.drop (i+1):=List.drop_eq_getElem_cons hi;have hnd:(ls.drop i).Nodup:=hn.sublist (List.drop_sublist i ls);rw[hd,List.nodup_cons] at hnd;by_cases e:x=ls[i]
 ·subst e;constructor
  ·intro k;unfold isDr at k;rw[hP,updR_at] at k;cases k
  ·intro k;exact absurd k hnd.1
 ·have:isDr P' x=isDr P x:=by unfold isDr;rw[hP,updR_ne _ _ e]
  rw[this,h x,hd,List.mem_cons];exact⟨λk=>k.resolve_left e,.inr⟩
theorem cappendDirty (h:PO w B D Gp V C K pk m)(hm:m<=50000):Calls prog 34 #[(.pointer (some ⟨Gp,0,none⟩))] w λe w'=>∃V',PO w' B D Gp V' C K pk m∧St2 w w' B V V'∧V'.P.pages=V.P.pages∧V'.P.free=V.P.free∧((∃n f,e=.returned (.tuple #[.int .i64 n,.int .i64 0])∧V'.P.fs n=some f∧∀x,isDr V'.P x=true->x=n)∨(e=.returned (.tuple #[.int .i64 0,.int .i64 2])∧V'.S.down=true)):=by
 have HP:=hide (h);have HDI:=hide (cdirty h);clear h;go_enter func34,ntmps34;go_wp2_with fail
 refine HDI.out.mono ?_;rintro e w1⟨ls,a,c,rfl,q1,q2,q3,q4⟩;obtain⟨p1,s1⟩:=HP.out.below q4;have HP1:=hide (p1);have HS1:=hide (s1);have hpg:=p1.pi.pg;clear HDI p1 s1;by_cases hl:ls=[]
 ·subst hl;have HND:=hide (show ∀x,isDr V.P x=false from λx=>by
   cases hq:isDr V.P x with
   | false=>rfl
   | true=>exact absurd ((q2 x).2 hq) (List.not_mem_nil))
  have HU:=hide (cuse HP1.out hm 0 (by omega) (by omega));clear q1 q2 q3 q4;go_wp2_with fail
  refine HU.out.mono ?_;rintro e w2⟨V2,k1,k2,k3,k4,k5,(⟨f,k6,k7,rfl⟩ | ⟨rfl,k6⟩)⟩
  ·have HK:=hide (show PO w2 B D Gp V2 C K pk m∧St2 w w2 B V V2∧V2.P.pages=V.P.pages∧V2.P.free=V.P.free∧V2.P.fs 0=some f∧∀x,isDr V2.P x=true->x=0 from⟨k1,HS1.out.trans k2,k3,k4,k6,λx hx=>by
    obtain⟨g,hg,hd⟩:=isD_some hx;have:=isD_mk (k5 x g hg hd) hd;rw[HND.out x] at this;cases this⟩)
   clear k1 k2 k3 k4 k5 k6 k7 HU;go_wp2
   go_ret2
   exact⟨V2,HK.out.1,HK.out.2.1,HK.out.2.2.1,HK.out.2.2.2.1,.inl ⟨0,f,rfl,HK.out.2.2.2.2⟩⟩
  ·have HK:=hide (show PO w2 B D Gp V2 C K pk m∧St2 w w2 B V V2∧V2.P.pages=V.P.pages∧V2.P.free=V.P.free∧V2.S.down=true from⟨k1,HS1.out.trans k2,k3,k4,k6⟩);clear k1 k2 k3 k4 k5 k6 HU;go_wp2
   go_ret2
   exact⟨V2,HK.out.1,HK.out.2.1,HK.out.2.2.1,HK.out.2.2.2.1,.inr ⟨rfl,HK.out.2.2.2.2⟩⟩
 ·obtain⟨k,hk⟩:∃k,ls.length=k+1:=⟨ls.length-1,by
   cases ls with
   | nil=>exact absurd rfl hl
   | cons x r=>simp⟩
  obtain⟨g,cap,hv,hg1,hg2,hg3,hg4,hg5,hg6⟩:=holds_of_ownsRow q3 (λe=>by injection e with _ e _;omega);injection hv with ea _ ec;subst ea ec;have hkl:k+1<=64:=by
   have h1:=nodup_len (l:=V.P.order) q1 (λx hx=>(HP1.out.pi.keys x).2 (by obtain⟨f,hf,_⟩:=isD_some ((q2 x).1 hx);rw[hf];rfl));have:=HP1.out.pi.most;omega
  have HR1:=hide (q3);have HM1:=hide (show ls.Nodup∧∀x,isDr V.P x=true↔x∈ls from⟨q1,λx=>(q2 x).symm⟩);have hne2:(((k:Int)+1) == 0)=false:=by simp;omega
  have hcap:(k:Int)<=(c:Int):=by omega
  rw[hk];clear q1 q2 q3 q4 hl hg5 hg6 hg3 hg4;go_wp2_with fail
  go_loopw [29] (λu wr=>∃(i:Nat) (Vi:PV),u=.int .i64 (i:Int)∧i<=k∧Hid (PO wr B D Gp Vi C K pk m)∧Hid (St2 w wr B V Vi)∧Hid (Vi.P.pages=V.P.pages∧Vi.P.free=V.P.free∧∀x,isDr Vi.P x=true↔x∈ls.drop i)∧Hid (wr.ownsRow w.heap.size 3 1 (.slice (some ⟨g,0,none⟩) ls.length c) ls.length (ls.map (Value.int .i64)))) (λu _=>k-(intOf u).toNat)
  case atStart=>exact⟨0,V,rfl,Nat.zero_le _,HP1,HS1,hide ⟨rfl,rfl,by rw[List.drop_zero];exact HM1.out.2⟩,HR1⟩
  case round =>
   obtain⟨i,Vi,rfl,hik,HPi,HSi,HKi,HRi⟩:=hrel;obtain⟨g',cap',hv',t1,t2,t3,t4,t5,t6⟩:=holds_of_ownsRow HRi.out (λe=>by injection e with e _ _;cases e);injection hv' with ea' _ ec';injection ea' with ea';injection ea' with ea' _ _;subst ea' ec';by_cases hlt:i<k
   ·have hx:=holds_cell t6 i (by omega);rw[getD_at (show i<ls.length by omega)] at hx;have hlt':(i:Int)<(k:Int):=by omega
    obtain⟨f,hf,hd⟩:=isD_some ((HKi.out.2.2 ls[i]).2 (by rw[List.drop_eq_getElem_cons (show i<ls.length by omega)];exact List.mem_cons_self ..));have HT:=hide (ctoLog HPi.out hm ls[i] f hf hd);have HST:=hide (λ(P':PS) (hP:P'.fs=updR Vi.P.fs ls[i] { f with dirty:=false })=>drop_step (P':=P') HM1.out.1 (show i<ls.length by omega) HKi.out.2.2 hP);generalize ls[i]=x at *;clear t1 t2 t3 t4 t5 t6 hf hd;go_wp2_with fail
    refine HT.out.mono ?_;rintro e w3⟨V3,j1,j2,j3,-,(⟨rfl,j4⟩ | ⟨rfl,j4,j5⟩)⟩
    ·have HP3:=hide (j1);have HS3:=hide (HSi.out.trans j2);have HK3:=hide (show V3.P.pages=V.P.pages∧V3.P.free=V.P.free∧∀x,isDr V3.P x=true↔x∈ls.drop (i+1) from⟨by rw[j4];exact HKi.out.1,by rw[j4];exact HKi.out.2.1,HST.out V3.P (by rw[j4])⟩);have HR3:=hide (show w3.ownsRow w.heap.size 3 1 (.slice (some ⟨g,0,none⟩) ls.length c) ls.length (ls.map (Value.int .i64)) from row_keep HRi.out λg' hg'=>by
      rcases HRi.out.2 with⟨e0,_⟩|⟨g2,cap2,cur2,e0,_,hgg,_⟩
      ·cases e0
      ·rw[e0] at hg';injection hg' with hg';have hg':g2=g':=hg';subst hg';exact j3 g2 cur2 hgg)
     clear j1 j2 j3 j4 HT HST;go_wp2_with fail
     go_roundw
     case rel=>exact⟨i+1,V3,by go_num,by omega,HP3,HS3,HK3,HR3⟩
     case measure=>simp[intOf];omega
    ·have HK:=hide (show PO w3 B D Gp V3 C K pk m∧St2 w w3 B V V3∧V3.P.pages=V.P.pages∧V3.P.free=V.P.free∧V3.S.down=true from⟨j1,HSi.out.trans j2,by rw[j5];exact HKi.out.1,by rw[j5];exact HKi.out.2.1,j4⟩);clear j1 j2 j3 j4 j5 HT HST;go_wp2
     go_ret2
     exact⟨V3,HK.out.1,HK.out.2.1,HK.out.2.2.1,HK.out.2.2.2.1,.inr ⟨rfl,HK.out.2.2.2.2⟩⟩
   ·obtain rfl:i=k:=by omega
    have hx:=holds_cell t6 i (by omega);rw[getD_at (show i<ls.length by omega)] at hx;have hdr:ls.drop i=[ls[i]]:=by
     rw[List.drop_eq_getElem_cons (show i<ls.length by omega),List.drop_of_length_le (by omega)]
    obtain⟨f,hf,hd⟩:=isD_some ((HKi.out.2.2 ls[i]).2 (by rw[hdr];exact List.mem_cons_self ..));have HK:=hide (show Vi.P.fs ls[i]=some f∧∀x,isDr Vi.P x=true->x=ls[i] from⟨hf,λx hx=>by have:=(HKi.out.2.2 x).1 hx;rw[hdr] at this;exact List.mem_singleton.1 this⟩);generalize ls[i]=x at *;clear t1 t2 t3 t4 t5 t6 hf hd hdr;go_wp2
    go_ret2
    exact⟨Vi,HPi.out,HSi.out,HKi.out.1,HKi.out.2.1,.inl ⟨x,rfl,⟨f,HK.out.1⟩,HK.out.2⟩⟩
theorem PI.same (h:PI P L S C K N pk m)(hc:∀x,i64 x->P.chg x=false):pk=P.pages∧∀n:Int,0<=n->n<P.pages->K n=C n:=by
 have hpg:=h.pg;have hi:∀n:Int,0<=n->n<P.pages->i64 n:=λn n0 n1=>i64_in (by omega) (by omega)
 refine⟨?_,λn n0 n1=>?_⟩
 ·have:=(h.chg (P.pages-1:Int) (hc _ (hi _ (by omega) (by omega))) (by omega) (by omega)).1;omega
 ·obtain⟨a1,a2,a3⟩:=h.chg n (hc n (hi n n0 n1)) n0 n1;obtain⟨t,c1,c2,c3,c4⟩:=h.cur n n0 n1;rw[<-a2,c1];cases hf:P.fs n with
  | none=>exact c4 hf
  | some f=>rw[h.clean n f hf (a3 f hf),c3 f hf]
theorem PI.told (h:PI P L S C K N pk m)(hf:P.fs n=some f)(hd:∀x,isDr P x=true->x=n):∀x:Int,0<=x->x<P.pages->wth N n f.text x=C x:=λx x0 x1=>by
 by_cases e:x=n
 ·subst e;rw[wth_at];exact(h.held hf).2.2.2.1.symm
 ·rw[wth_ne _ _ e];obtain⟨t,c1,c2,c3,c4⟩:=h.cur x x0 x1;rw[c1];cases hq:P.fs x with
  | none=>exact c4 hq
  | some g =>
   have hg:g.dirty=false:=by
    cases hz:g.dirty with
    | false=>rfl
    | true=>exact absurd (hd x (isD_mk hq hz)) e
   rw[h.clean x g hq hg,c3 g hq]
theorem cisGone0 (c4:X.cell? ⟨Gp,4,none⟩=some (.map (some bF)))(hM:MF X bF k F)(n:Int)(hn:i64 n):Calls prog 142 #[(.pointer (some ⟨Gp,0,none⟩)),.int .i64 n] X λe w'=>e=.returned (.bool (!(F n).isSome))∧w'=X:=by
 have hl:=hM.look hn;generalize (F n).isSome=q at *;generalize ptrO (F n)=v at *;clear hM;go_enter func142,ntmps142;go_wp2;go_ret;exact⟨rfl,rfl⟩
theorem cindexG0 (fv:Value)(a:Option Addr)(c:Nat)(w:World):Calls prog 140 #[.slice a 0 c,fv] w λe w'=>e=.returned (.int .i64 (-1))∧w'=w:=by
 go_enter func140,ntmps140;go_wp2_with fail
 go_loop [5,8] (λ_ i=>i=.int .i64 0) (λ_ _=>0)
 case atStart=>rfl
 case round =>
  subst hrel;go_wp2;go_ret;exact⟨rfl,rfl⟩
theorem ccontains (h:PO w B D Gp V C K pk m):Calls prog 86 #[V.b.vo,.func (.func 87) #[(.pointer (some ⟨Gp,0,none⟩))] #[]] w λe w'=>e=.returned (.bool false)∧w'=w:=by
 have hmo:=h.pi.most;have hpg:=h.pi.pg;have HI:Hid (Calls prog 140 #[V.b.vo,.func (.func 87) #[(.pointer (some ⟨Gp,0,none⟩))] #[]] w λe w'=>e=.returned (.int .i64 (-1))∧w'=w):=by
  by_cases he:V.P.order=[]
  ·obtain⟨a,c,hv⟩:=h.pp.vo;rw[hv,he];exact cindexG0 _ a c w
  ·obtain⟨g,cap,e,h1,h2,h3,h4,h5⟩:=h.pp.row he;rw[e];have:=cindexP (.pointer (some ⟨Gp,0,none⟩)) (λ_=>false) g 0 V.P.order.length cap V.P.order w rfl (by omega) (λj hj=>by rw[Nat.zero_add];exact holds_cell h5 j hj) (λx hx=>by
    obtain⟨f,hf⟩:=Option.isSome_iff_exists.1 ((h.pi.keys x).1 hx);have:=h.pi.rng x hx;exact cisPinned h.pp hf (i64_in (by omega) (by omega)))
   rw[idxF_none (λ_ _=>rfl)] at this;exact this
 obtain⟨a,c,hv⟩:=h.pp.vo;rw[hv] at HI ⊢;clear h hv;go_enter func86,ntmps86;go_wp2_with fail
 refine HI.out.mono ?_;rintro e w1⟨rfl,hw⟩;rw[hw];clear hw;go_wp2;go_ret;exact⟨rfl,rfl⟩
theorem zeroI2 (w:World):(zeroValue 3).run prog w=.ok (.int .i64 0) w:=by kernel_rfl
theorem grownBy_put (d:Array Int):w.grownBy (putRow (Value.int .i64) w g 0 d) (some g):=by
 have:=grownBy_sortedI (w:=w) (g:=g) (n:=0) (os:=#[]) d;rw[grow_empty,ahead_zero] at this;exact this
theorem cdelG {cap:Nat}(d:Array Int)(c4:∀W,X.grownBy W (some g)->W.cell? ⟨Gp,4,none⟩=some (.map (some bF))∧MF W bF k F)(hH:Holds (Value.int .i64) X g 0 d)(hsz:d.size<=1000)(hcap:d.size<=cap)(hi:∀x∈d.toList,i64 x):Calls prog 141 #[.slice (some ⟨g,0,none⟩) d.size cap,.func (.func 142) #[(.pointer (some ⟨Gp,0,none⟩))] #[]] X λe w'=>e=.returned (.slice (some ⟨g,0,none⟩) (d.toList.filter λx=>(F x).isSome).length cap)∧w'=putRow (Value.int .i64) X g 0 ((d.toList.filter λx=>(F x).isSome)++List.replicate (d.size-(d.toList.filter λx=>(F x).isSome).length) 0).toArray:=by
 have tl:∀j,j<d.size->d.toList.getD j 0=d[j]!:=λj hj=>by rw[getD_at (by simpa using hj),getElem!_pos d j hj];simp
 have hrefl:X.grownBy X (some g):=But.refl X (some g);have hIF:=cindexG (.pointer (some ⟨Gp,0,none⟩)) (λx=>!(F x).isSome) g 0 d.size cap d.toList X (by simp) (by omega) (λj hj=>by rw[(hH j hj).1,tl j hj]) (λx hx=>cisGone0 (c4 X hrefl).1 (c4 X hrefl).2 x (hi x hx));obtain⟨kp,HK⟩:∃kp:Nat->Bool,Hid (kp=λj=>(F d[j]!).isSome):=⟨_,rfl⟩;have hfil:(d.toList.filter λx=>(F x).isSome)=keptUpTo kp d d.size:=by rw[HK.out];exact(keptUpTo_filter (λx=>(F x).isSome) d).symm
 rw[hfil];have HH:=hide (hH);rcases idxF_spec (q:=λx=>!(F x).isSome) (l:=d.toList) with⟨e1,hall⟩ | ⟨a,x,r,e0,h2,h3,e1⟩
 ·rw[e1] at hIF;have hkeep:∀j,j<d.size->kp j=true:=λj hj=>by
   rw[HK.out];have:=hall d[j]! (by rw[getElem!_pos d j hj];simp);simpa using this
  have e3:keptUpTo kp d d.size=d.toList:=by
   rw[<-hfil,List.filter_eq_self];intro y hy;have:=hall y hy;simpa using this
  have HI:=hide (hIF);rw[e3];clear hH hIF hfil tl hrefl c4 hall;go_enter func141,ntmps141;go_wp2_with fail
  refine HI.out.mono ?_;rintro e w1⟨rfl,hw⟩;rw[hw];clear hw;go_wp2;go_ret;refine⟨by simp,?_⟩;simp only[Array.length_toList,Nat.sub_self,List.replicate_zero,List.append_nil,Array.toArray_toList];exact(putRow_self (Value.int .i64) X g 0 d HH.out).symm
 ·rw[e1] at hIF;have hk0:a.length<d.size:=by
   have:=congrArg List.length e0;simp at this;omega
  have hat:∀j,j<d.size->d[j]! = (a++x::r).getD j 0:=λj hj=>by rw[<-tl j hj,e0]
  have hkeep:∀j,j<a.length->kp j=true:=λj hj=>by
   rw[HK.out];show(F d[j]!).isSome=true;rw[hat j (by omega)];have:(a++x::r).getD j 0=a[j]:=by simp[List.getD,List.getElem?_append_left hj,List.getElem?_eq_getElem hj]
   rw[this];have:=h2 a[j] (List.getElem_mem hj);simpa using this
  have hdrop:kp a.length=false:=by
   rw[HK.out];show(F d[a.length]!).isSome=false;rw[hat a.length hk0];have:(a++x::r).getD a.length 0=x:=by simp[List.getD]
   rw[this];simpa using h3
  have hne1:((a.length:Int) == -1)=false:=beq_eq_false_iff_ne.2 (by omega);have HC:=hide (show ∀(dk:Array Int) (u:Int),i64 u->Calls prog 142 #[(.pointer (some ⟨Gp,0,none⟩)),.int .i64 u] (putRow (Value.int .i64) X g 0 dk) λe w'=>e=.returned (.bool (!(F u).isSome))∧w'=putRow (Value.int .i64) X g 0 dk from λdk u hu=>cisGone0 (c4 _ (grownBy_put dk)).1 (c4 _ (grownBy_put dk)).2 u hu);have HI:=hide (hIF);have HU:=hide (show ∀j,j<d.size->i64 d[j]! from λj hj=>hi _ (by rw[getElem!_pos d j hj];simp));generalize a.length=k0 at *;clear hH hIF hfil tl hrefl c4 hat e0 h2 h3 e1 hi;go_enter func141,ntmps141;go_wp2_with fail
  refine HI.out.mono ?_;rintro e w1⟨rfl,hw⟩;rw[hw];clear hw;go_wp2_with fail
  go_loopw [5,6,7] (λs5 s6 _ wr=>∃(i j:Nat) (dk:Array Int),s5=.int .i64 i∧s6=.int .i64 j∧j<=d.size∧wr=putRow (Value.int .i64) X g 0 dk∧Hid (KeptInv kp d j i dk)) (λ_ s6 _ _=>d.size-(intOf s6).toNat)
  case atStart=>exact⟨k0,k0+1,d,rfl,by go_num,by omega,(putRow_self (Value.int .i64) X g 0 d HH.out).symm,hide (KeptInv.start hkeep hdrop)⟩
  case round =>
   obtain⟨i,j,dk,rfl,rfl,hjd,hwr,I2⟩:=hrel;have hI:=I2.out;have hij:=hI.lt;have hds:=hI.size;have hHk:Holds (Value.int .i64) wr g 0 dk:=by rw[hwr];exact holds_putRow (Value.int .i64) _ g 0 d dk HH.out hds
   have W2:=hide (hwr);by_cases hlt:j<d.size
   ·have hltz:(j:Int)<(d.size:Int):=by omega
    obtain⟨cj,_⟩:=hHk j (by omega);obtain⟨ci,fi⟩:=hHk i (by omega);rw[hI.high j (by omega),Nat.zero_add] at cj;rw[Nat.zero_add] at ci fi;have hcall:=HC.out dk d[j]! (HU.out j hlt);rw[<-hwr] at hcall;clear hHk hI hwr;generalize hu:d[j]! = u at cj hcall;generalize dk[i]! = old at ci;have C:=hide (hu);have HCL:=hide (hcall);clear hu hcall;cases hq:(F u).isSome with
    | true =>
     rw[hq] at HCL;go_wp2_with fail
     refine HCL.out.mono ?_;rintro e w1⟨rfl,hw⟩;rw[hw];clear hw;go_wp2_with fail
     go_roundw
     case rel =>
      refine⟨i+1,j+1,dk.setIfInBounds i u,by go_num,by go_num,by omega,?_,hide ?_⟩
      ·have:=putRow_set (Value.int .i64) X g 0 dk i u (by omega);rw[Nat.zero_add] at this;rw[W2.out,this]
      ·have:=I2.out.keep hlt (by rw[HK.out];show(F d[j]!).isSome=true;rw[C.out,hq])
       rwa [C.out] at this
     case measure=>simp[intOf];omega
    | false =>
     rw[hq] at HCL;go_wp2_with fail
     refine HCL.out.mono ?_;rintro e w1⟨rfl,hw⟩;rw[hw];clear hw;go_wp2_with fail
     go_roundw
     case rel=>exact⟨i,j+1,dk,rfl,by go_num,by omega,W2.out,hide (I2.out.skip (by rw[HK.out];show(F d[j]!).isSome=false;rw[C.out,hq]))⟩
     case measure=>simp[intOf];omega
   ·obtain rfl:j=d.size:=by omega
    have hltz:¬(d.size:Int)<(d.size:Int):=by omega
    have hcl:∀ty,(Builtin.clear_ #[42] ty #[.slice (some ⟨g,i,none⟩) (d.size-i) (cap-i)]).run prog wr=.ok (.tuple #[]) (wr.setCells g i (List.replicate (d.size-i) (.int .i64 0))):=
     λty=>Lib.run_clear_slice wr _ _ ty _ underlying42 zeroI2 rfl rfl g i _ _ (by omega) (λt ht=>by have:=(hHk (i+t) (by omega)).1;rw[Nat.zero_add] at this;rw[this];rfl) (λt ht=>by have:=(hHk (i+t) (by omega)).2;rw[Nat.zero_add] at this;exact this)
    have hci:(i:Int)<=(cap:Int):=by omega
    have hci2:(i:Int)<=(d.size:Int):=by omega
    clear hHk hI hwr;go_wp2;go_ret;have hI:=I2.out;refine⟨by rw[hI.len];rfl,?_⟩;have:=putRow_setCells (Value.int .i64) X g 0 (List.replicate (d.size-i) 0) dk i (by simp;omega);rw[Nat.zero_add] at this;rw[hI.len,<-hI.done 0,<-this,<-W2.out,List.map_replicate]
end Go.Proofs.YtiaibgfhigdgdaaGreat
