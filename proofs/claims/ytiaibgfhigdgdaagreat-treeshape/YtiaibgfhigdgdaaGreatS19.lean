/- a part -/
import Derived.Test.YtiaibgfhigdgdaaGreatS18
import Derived.Defers
import Derived.Recover
set_option maxRecDepth 100000
set_option maxHeartbeats 8000000
namespace Go.Proofs.YtiaibgfhigdgdaaGreat
open Go.RowKit Go.Lib Go.Maps Go.Sort
variable {w w' Y W:World}{p b d B D Gp m pages tb root rt n tk pages':Nat}{v:NV}{s:Value}{a:List It}{l l0:List PN}{V V' V1 V2:PV}{K:Pgs}{A A':Nat→PgV}{fl os X fl':List Nat}{es:List Ent}{z:PN}{i j:It}{lo hi k:ByteArray}{c:Cx 0}{x x1:T 0}
attribute [local go_sem ↓] Go.wp_at_zero Go.wp_at_succ
theorem page_set (hn:NB w p v s)(k l:Nat)(s':Value)(cs:List ByteArray)(hb:b≤p):NB ((((w).setCell ⟨p,0,none⟩ (.int .i64 (k:Int))).setCell ⟨p,1,none⟩ (.int .i64 (l:Int))).setCell ⟨p,2,none⟩ s') p { v with kind:=k,link:=l,cells:=cs } s'∧NF b w ((((w).setCell ⟨p,0,none⟩ (.int .i64 (k:Int))).setCell ⟨p,1,none⟩ (.int .i64 (l:Int))).setCell ⟨p,2,none⟩ s')∧w.grownBy ((((w).setCell ⟨p,0,none⟩ (.int .i64 (k:Int))).setCell ⟨p,1,none⟩ (.int .i64 (l:Int))).setCell ⟨p,2,none⟩ s') (some p):=by
 have hg:w.grownBy ((((w).setCell ⟨p,0,none⟩ (.int .i64 (k:Int))).setCell ⟨p,1,none⟩ (.int .i64 (l:Int))).setCell ⟨p,2,none⟩ s') (some p):=((But.refl w (some p)).set 0 _).set 1 _ |>.set 2 _
 refine⟨?_,(NF.refl w).set hg hb (.inr ⟨_,hn⟩),hg⟩;unfold NB;rw[set_blk (set_blk (set_blk hn))];rfl
theorem NB.grown {q:Nat}(hn:NB w q v s)(hg:w.grownBy w' (some p))(hne:¬q=p):NB w' q v s:=(hg.block q (Array.getElem?_eq_some_iff.1 hn).1 (fun e=>by injection e with e;exact hne e)).trans hn
theorem StB.grown {a:Option Addr}{l:List ByteArray}(h:StB w a l)(hn:NB w p v s)(hg:w.grownBy w' (some p)):StB w' a l:=by
 rcases h with h|⟨b,off,cur,e,hh,hc⟩
 ·exact .inl h
 ·exact .inr ⟨b,off,cur,e,(hg.block b (Array.getElem?_eq_some_iff.1 hh).1 (fun e=>by injection e with e;exact ne_CC ⟨_,hn⟩ ⟨_,hh⟩ (by decide) e)).trans hh,hc⟩
def setPost (w:World)(B D Gp:Nat)(V:PV)(K:Pgs)(pk m pages:Nat)(os:List Nat)(es:List Ent)(rt b:Nat)(w':World):Prop:=
 ∃(V':PV) (A':Nat→PgV) (fl':List Nat) (pages' d':Nat) (t:T d'),TS w' B D Gp V' K pk (m+7) A' fl' pages'∧Tr A' fl' pages' os t es∧numT d' t=rt∧TF b B w w' V V'∧pages'≤pages+2
theorem lo1:(Cx.top d).lo=⟨#[]⟩:=rfl
theorem hi1:(Cx.top d).hi=⟨#[]⟩:=rfl
section
variable {pk:Nat}
theorem Sx.wr {c:Cx d}{x:T d}(h:Sx A fl pages os c x es)(v:PgV):Sx (updA A (numT d x) v) fl pages os c x es:=h.upd (.inr (.inr (.inr rfl))) v
theorem croot0 {x:T d}(h:TS w B D Gp V K pk m A fl pages)(hm:m≤30000)(ht:TB w tb Gp root)(hS:Stl w A fl pages os es rt (.top d) x [z])(hu:usedC (cellsT d x)≤1012)(hs:d=0∨¬cellsT d x=[]):Calls Tryz.prog 158 #[(.pointer (some ⟨tb,0,none⟩)),(.pointer (some ⟨z.p,0,none⟩))] w fun e w'=>e=.returned (.tuple #[])∧setPost w B D Gp V K pk m pages os es rt z.b w':=by
 obtain⟨tk,hv⟩:=hS.vs;have hv:z.v=nvT d x ⟨#[]⟩ ⟨#[]⟩ tk:=by simpa[nvs1,lo1,hi1] using hv
 have hnr:NR w z.p (nvT d x ⟨#[]⟩ ⟨#[]⟩ tk):=by rw[←hv];exact(hS.nn z (by simp)).nr
 have hown:=hS.sx.ownX;have hk5:1≤kindT d∧kindT d≤5:=by rcases kind_cases d with⟨_,e⟩ | ⟨_,e⟩<;>rw[e]<;>omega
 have HW:=hide (fun(Y:World) (hY:Below w.heap.size w Y)=>ctwrite (h.below hY).1 (by omega) (h.stayTB (h.below hY).2 ht) (h.stayNR (h.below hY).2 hnr) (show okP (pgN (nvT d x ⟨#[]⟩ ⟨#[]⟩ tk)) from⟨hk5,hS.lks,hu⟩) hown.1 hown.2.1 hown.2.2);have HP:Hid (∀Y w' V',Below w.heap.size w Y→TS w' B D Gp V' K pk (m+1) (updA A (numT d x) (pgT d x)) fl pages→St2 Y w' B V V'→setPost w B D Gp V K pk m pages os es rt z.b w'):=fun Y w' V' hY k1 k2 =>
  ⟨V',_,fl,pages,d,x,k1.mono (by omega),⟨hS.sx.wr _,updA_at _ _ _,⟨hS.fk,.inl rfl,hu,hs⟩⟩,hS.rt,(h.tf ((h.below hY).2.trans k2) z.b),by omega⟩
 obtain⟨a,cp,nb,st⟩:=hnr;obtain⟨u0,u1,u2,u3,u4,u5,u6,u7,u8⟩:=nb.cells;have HUS:=hide (cusedB st cp (by have:=hu;show usedC (cellsT d x)≤_;omega));have hno:(kindT d=2∧(cellsT d x).length=0)→False:=fun⟨h1,h2⟩=>by
  rcases hs with e|e
  ·subst e;cases h1
  ·exact e (List.length_eq_zero_iff.1 h2)
 replace u0:w.cell? ⟨z.p,0,none⟩=some (.int .i64 (kindT d:Int)):=u0
 replace u2:w.cell? ⟨z.p,2,none⟩=some (.slice a (cellsT d x).length cp):=u2
 replace HUS:Hid (Calls Tryz.prog 118 #[.slice a (cellsT d x).length cp] w fun e w'=>e=.returned (.int .i64 (usedC (cellsT d x):Int))∧w'=w):=HUS
 generalize kindT d=kd at *;generalize usedC (cellsT d x)=us at *;generalize (cellsT d x).length=ln at *;have hus:¬(1012:Int)<(us:Int):=by omega
 clear h ht hS hv hown nb st u1 u3 u4 u5 u6 u7 hs;by_cases hk2:kd=2
 ·have hl0:¬ln=0:=fun e=>hno ⟨hk2,e⟩
  replace hl0:¬(ln:Int)=0:=by omega
  subst hk2;go_enter Tryz.func158,Tryz.ntmps158;go_wp2_with fail
  refine HUS.out.mono ?_;rintro e w1⟨rfl,hw⟩;rw[hw];clear hw;go_wp2_with fail
  refine(HW.out _ (Below.refl _ _)).mono ?_;rintro e w2⟨rfl,V2,k1,k2⟩;have HE:=hide (HP.out _ _ _ (Below.refl _ _) k1 k2);clear k1 k2;go_wp2;go_end0;exact⟨rfl,HE.out⟩
 ·replace hk2:¬(kd:Int)=2:=by omega
  go_enter Tryz.func158,Tryz.ntmps158;go_wp2_with fail
  refine HUS.out.mono ?_;rintro e w1⟨rfl,hw⟩;rw[hw];clear hw;go_wp2_with fail
  refine(HW.out _ (Below.refl _ _)).mono ?_;rintro e w2⟨rfl,V2,k1,k2⟩;have HE:=hide (HP.out _ _ _ (Below.refl _ _) k1 k2);clear k1 k2;go_wp2;go_end0;exact⟨rfl,HE.out⟩
theorem only_kid {x:T (d+1)}(hsx:Sx A fl pages os (.top (d+1)) x es)(hf:FilK (d+1) x)(h0:cellsT (d+1) x=[]):∃y:T d,x=(⟨x.num,[(⟨#[]⟩,y)]⟩:Inn (T d))∧A (numT d y)=pgT d y∧(0<numT d y∧numT d y<pages∧¬numT d y∈fl)∧Bnd d ⟨#[]⟩ ⟨#[]⟩ y∧FilN d y∧¬numT d y=x.num:=by
 obtain⟨lo,hi,⟨rfl,rfl⟩,⟨p,r,e,hp⟩,hb⟩:=hsx.wf.bnd;have hr:r=[]:=by
  have:cellsT (d+1) x=r.map cellK:=by show x.kids.tail.map _=_;rw[e];rfl
  rw[this] at h0;simpa using h0
 subst hr;obtain⟨pk',y⟩:=p;have hp:pk'=⟨#[]⟩:=hp;subst hp;rw[e] at hb;have hx:x=(⟨x.num,[(⟨#[]⟩,y)]⟩:Inn (T d)):=by rw[←e]
 have hin:(numT d y,pgT d y)∈restN (.top (d+1)) x:=by
  rw[hx,restN_s];simp only[nodS,List.flatMap_cons,List.flatMap_nil,List.append_nil,List.mem_append];exact .inl (by rw[nodT_eq];simp)
 obtain⟨e1,e2,e3,e4,e5⟩:=hsx.ne hin;exact⟨y,hx,hsx.rep _ hin,⟨Nat.pos_of_ne_zero e2,e5,fun e=>e4 _ e rfl⟩,hb.2.1,hf (⟨#[]⟩,y) (by rw[e];simp),e1⟩
theorem croot1 {x:T (d+1)}(h:TS w B D Gp V K pk m A fl pages)(hm:m≤30000)(ht:TB w tb Gp root)(hS:Stl w A fl pages os es rt (.top (d+1)) x [z])(h0:cellsT (d+1) x=[]):Calls Tryz.prog 158 #[(.pointer (some ⟨tb,0,none⟩)),(.pointer (some ⟨z.p,0,none⟩))] w fun e w'=>e=.returned (.tuple #[])∧setPost w B D Gp V K pk m pages os es rt z.b w':=by
 obtain⟨tk,hv⟩:=hS.vs;have hv:z.v=nvT (d+1) x ⟨#[]⟩ ⟨#[]⟩ tk:=by simpa[nvs1,lo1,hi1] using hv
 obtain⟨y,hx,y1,y2,y3,y4,y5⟩:=only_kid hS.sx hS.fk h0;obtain⟨f1,f2,f3⟩:=fil_some y4;have hlk:linkT (d+1) x=numT d y:=by rw[hx];rfl
 have hzb:=hS.pm;have hnd:NDb w z.b w.heap.size z.p z.v:=hzb.1;have hbp:z.b≤z.p:=by obtain⟨_,_,_,q,_⟩:=hnd;exact q
 have hnr:NR w z.p (nvT (d+1) x ⟨#[]⟩ ⟨#[]⟩ tk):=by rw[←hv];exact(hS.nn z (by simp)).nr
 have hown:=hS.sx.ownX;have HL:=hide (cload (lo:=⟨#[]⟩) (hi:=⟨#[]⟩) h (by omega) ht y2.2.1 y1 y3 (.inr (fun e=>by rw[e] at f3;simp at f3)));obtain⟨a,cp,nb,st⟩:=hnr;have HUS:=hide (cusedB st cp (by show usedC (cellsT (d+1) x)≤_;rw[h0];simp[usedC]));have e0:(nvT (d+1) x ⟨#[]⟩ ⟨#[]⟩ tk).cells=[]:=h0;rw[e0] at HUS;have hu0:usedC []=0:=rfl;rw[hu0] at HUS;obtain⟨u0,u1,u2,u3,u4,u5,u6,u7,u8⟩:=nb.cells;rw[e0] at u2
 replace u0:w.cell? ⟨z.p,0,none⟩=some (.int .i64 (2:Nat)):=u0
 replace u1:w.cell? ⟨z.p,1,none⟩=some (.int .i64 (numT d y:Int)):=by rw[←hlk];exact u1
 have hlen0:([]:List ByteArray).length=0:=rfl;rw[hlen0] at u2 HUS;have HZ:=hide (show TS w B D Gp V K pk m A fl pages∧TB w tb Gp root∧NB w z.p (nvT (d+1) x ⟨#[]⟩ ⟨#[]⟩ tk) (.slice a 0 cp) from⟨h,ht,by have:=nb;rw[e0] at this;exact this⟩);have HS:=hide (hS);have HY:=hide (show x=(⟨x.num,[(⟨#[]⟩,y)]⟩:Inn (T d))∧A (numT d y)=pgT d y∧(0<numT d y∧numT d y<pages∧¬numT d y∈fl)∧FilN d y∧¬numT d y=x.num∧z.b≤z.p∧m≤30000 from⟨hx,y1,y2,y4,y5,hbp,hm⟩);clear h ht hS hv hx y1 y2 y3 y4 y5 f1 f2 f3 hlk hzb hnd hbp hown nb st e0 hu0 hlen0 u3 u4 u5 u6 h0 hm;go_enter Tryz.func158,Tryz.ntmps158;go_wp2_with fail
 refine HUS.out.mono ?_;rintro e w1⟨rfl,hw⟩;rw[hw];clear hw;go_wp2_with fail
 refine HL.out.mono ?_;rintro e w2⟨V2,q,rfl,k1,k2,k3,k4⟩;obtain⟨h,ht,nb⟩:=HZ.out;have nb2:=h.stayNB k2 nb;obtain⟨s3,nq,ho3⟩:=k3;obtain⟨a3,c3,rfl,st3,-⟩:=StB.own (l:=cellsT d y) ho3;have hqz:¬q=z.p:=by have:=(Array.getElem?_eq_some_iff.1 nb).1;omega
 obtain⟨u0,u1,u2,u3,u4,u5,u6,u7,u8⟩:=nb2.cells;obtain⟨t0,t1,t2,t3,t4,t5,t6,t7,t8⟩:=nq.cells;have fz0:=u7 0;have fz1:=u7 1;have fz2:=u7 2
 replace t0:w2.cell? ⟨q,0,none⟩=some (.int .i64 (kindT d:Int)):=t0
 replace t1:w2.cell? ⟨q,1,none⟩=some (.int .i64 (linkT d y:Int)):=t1
 replace t2:w2.cell? ⟨q,2,none⟩=some (.slice a3 (cellsT d y).length c3):=t2
 replace t3:w2.cell? ⟨q,3,none⟩=some (.int .i64 (numT d y:Int)):=t3
 obtain⟨p1,p2,p3⟩:=page_set nb2 (kindT d) (linkT d y) (.slice a3 (cellsT d y).length c3) (cellsT d y) HY.out.2.2.2.2.2.1;have nq3:=nq.grown p3 hqz;have st4:=st3.grown nb2 p3;have ts3:=p2.ts k1;have tb3:=p2.stayTB (h.stayTB k2 ht);have HF:=hide (ctfree ts3 (by have:=HY.out;omega) tb3 (numT d y) HY.out.2.2.1.1 HY.out.2.2.1.2.1 HY.out.2.2.1.2.2);have HK:=hide (show TS w2 B D Gp V2 K pk m A fl pages∧St2 w w2 B V V2∧_∧_∧_∧_∧_∧_ from⟨k1,k2,p1,p2,nq3,st4,ts3,tb3⟩);clear k1 k2 p1 p2 p3 nq3 st4 ts3 tb3 nb2 nq ho3 st3 h ht nb u3 u4 u5 u6 u7 t4 t5 t6 t7 HL HUS;generalize hkd:kindT d=kd at *;generalize hlk:linkT d y=lk at *;generalize hcl:(cellsT d y).length=cl at *;generalize hny:numT d y=ny at *;go_wp2_with fail
 refine HF.out.mono ?_;rintro e w4⟨rfl,V4,k1,k2⟩;subst hkd hlk hcl hny;obtain⟨j1,j2,j3,j4,j5,j6,j7,j8⟩:=HK.out;have nb4:=j7.stayNB k2 j3;have st4:=j7.staySt k2 j6;have tb4:=j7.stayTB k2 j8;obtain⟨i1,i2,i3,i4,i5,i6,i7⟩:=HY.out;have hS:=HS.out;have hown:=hS.sx.ownX;obtain⟨f1,f2,f3⟩:=fil_some i4;have hsh:Sx A fl pages (numT d y::os) (.top d) (renT d x.num y) es:=by
  have:=hS.sx;rw[i1] at this;exact this.shrink
 have hnf:¬x.num∈numT d y::fl:=fun e=>by
  rcases List.mem_cons.1 e with e|e
  ·exact i5 e.symm
  ·exact hown.2.2 e
 have hlks:linkT d y≤2147483647:=by have:=(HZ.out.1.okA i3.2.1).link;rw[i2] at this;exact this
 have hk5:1≤kindT d∧kindT d≤5:=by rcases kind_cases d with⟨_,e⟩ | ⟨_,e⟩<;>rw[e]<;>omega
 have HW:=hide (ctwrite k1 (by omega) tb4 (v:={ nvT (d+1) x ⟨#[]⟩ ⟨#[]⟩ tk with kind:=kindT d,link:=linkT d y,cells:=cellsT d y }) ⟨a3,c3,nb4,st4⟩ ⟨hk5,hlks,f1.2⟩ hown.1 hown.2.1 hnf);have HE:Hid (∀w' V',TS w' B D Gp V' K pk (m+2+1) (updA (updA (updA A (numT d y) ⟨3,fl.headD 0,[]⟩) 0 ⟨4,numT d y,[]⟩) x.num ⟨kindT d,linkT d y,cellsT d y⟩) (numT d y::fl) pages→St2 w4 w' B V4 V'→setPost w B D Gp V K pk m pages os es rt z.b w'):=fun w' V' q1 q2 =>
  ⟨V',_,_,pages,d,renT d x.num y,q1.mono (by omega),⟨by
   have:=(hsh.free (v:=⟨3,fl.headD 0,[]⟩) (u:=⟨4,numT d y,[]⟩)).wr ⟨kindT d,linkT d y,cellsT d y⟩;rw[ren_num] at this;exact this,by rw[ren_num,ren_pg];exact updA_at _ _ _,⟨(ren_filK d _ y).2 f2,.inl rfl,by rw[ren_cells];exact f1.2,.inr (by rw[ren_cells];intro e;rw[e] at f3;simp at f3)⟩⟩,by rw[ren_num];exact hS.rt,(((HZ.out.1.tf j2 z.b).trans (j4.tf j1)).trans (j7.tf k2 z.b)).trans (k1.tf q2 z.b),by omega⟩
 clear k1 k2 j1 j2 j3 j4 j5 j6 j7 j8 nb4 st4 tb4 i1 i2 i3 i4 i5 i6 i7 hS hown f1 f2 f3 hsh hnf hlks hk5 HF HK;go_wp2_with fail
 refine HW.out.mono ?_;rintro e w5⟨rfl,V5,k1,k2⟩;have HE2:=hide (HE.out _ _ k1 k2);clear k1 k2;go_wp2;go_end0;exact⟨rfl,HE2.out⟩
end
theorem ren_link (d n:Nat)(x:T d):linkT d (renT d n x)=linkT d x:=by cases d<;>rfl
theorem ren_small (d n:Nat)(x:T d)(h:smallK d x):smallK d (renT d n x):=by cases d<;>exact h
section
variable {pk:Nat}
theorem set_taken (hn:NB w p v s)(i:Nat)(hb:b≤p):NB (w.setCell ⟨p,6,none⟩ (.int .i64 (i:Int))) p { v with taken:=i } s∧NF b w (w.setCell ⟨p,6,none⟩ (.int .i64 (i:Int)))∧w.grownBy (w.setCell ⟨p,6,none⟩ (.int .i64 (i:Int))) (some p):=by
 have hg:=set_grown w p 6 (.int .i64 (i:Int));refine⟨?_,(NF.refl w).set hg hb (.inr ⟨_,hn⟩),hg⟩;unfold NB;rw[set_blk hn];rfl
def rsPost (w:World)(B D Gp:Nat)(V:PV)(K:Pgs)(pk m pages:Nat)(os:List Nat)(es:List Ent)(tb root rt b p:Nat)(d:Nat)(w':World):Prop:=
 ∃(V':PV) (A':Nat→PgV) (fl':List Nat) (pages':Nat) (x':T (d+1)),TS w' B D Gp V' K pk (m+6) A' fl' pages'∧Sx A' fl' pages' os (.top (d+1)) x' es∧FilK (d+1) x'∧usedC (cellsT (d+1) x')≤1012∧¬cellsT (d+1) x'=[]∧numT (d+1) x'=rt∧linkT (d+1) x'≤2147483647∧TF b B w w' V V'∧NR w' p (nvT (d+1) x' ⟨#[]⟩ ⟨#[]⟩ 0)∧TB w' tb Gp root∧pages'≤pages+2
theorem croot2s {x:T d}{w1:World}{A1:Nat→PgV}{fl1:List Nat}{pages1 g cap:Nat}{sp:Value}(h:TS w B D Gp V K pk m A fl pages)(hm:m≤30000)(hpg:pages<57000)(hS:Stl w A fl pages os es rt (.top d) x [z])(hu:1012<usedC (cellsT d x))(hcap:(cellsT d x).length≤cap)(hbp:z.b≤z.p)(hpt:z.p<w.heap.size)(k1:TS w1 B D Gp V1 K pk (m+2) A1 fl1 pages1)(k2:St2 w w1 B V V1)(k3:AllR A fl pages n A1 fl1 pages1)(nb:NB w1 z.p (nvT d x ⟨#[]⟩ ⟨#[]⟩ tk) (.slice (some ⟨g,0,none⟩) (cellsT d x).length cap))(np:NB w1 p ⟨kindT d,0,[],n,⟨#[]⟩,⟨#[]⟩,0⟩ sp)(hst:StB w1 (some ⟨g,0,none⟩) (cellsT d x))(ht:TB w1 tb Gp root)(hwp:w.heap.size≤p):Calls Tryz.prog 156 #[(.pointer (some ⟨tb,0,none⟩)),(.pointer (some ⟨z.p,0,none⟩)),(.pointer (some ⟨p,0,none⟩))] (((((((w1.setCell ⟨p,0,none⟩ (.int .i64 (kindT d:Int))).setCell ⟨p,1,none⟩ (.int .i64 (linkT d x:Int))).setCell ⟨p,2,none⟩ (.slice (some ⟨g,0,none⟩) (cellsT d x).length cap)).setCell ⟨z.p,0,none⟩ (.int .i64 ((2:Nat):Int))).setCell ⟨z.p,1,none⟩ (.int .i64 (n:Int))).setCell ⟨z.p,2,none⟩ (.slice none 0 0)).setCell ⟨z.p,6,none⟩ (.int .i64 ((0:Nat):Int))) fun e w'=>e=.returned (.tuple #[])∧rsPost w B D Gp V K pk m pages os es tb root (numT d x) z.b z.p d w':=by
 have hsx:=hS.sx;have hsz:=hsx.wf.sz;have hbx:Bnd d ⟨#[]⟩ ⟨#[]⟩ x:=hsx.wf.at;have hsml:smallK d x:=hsx.small h.flsmall.2;obtain⟨a1,a2,a3,a4,a5⟩:=mid_ok hsz hu (by have:=hS.us;omega);have hne:¬p=z.p:=by omega
 have hne':¬z.p=p:=fun e=>hne e.symm
 obtain⟨p1,p2,p3⟩:=page_set np (kindT d) (linkT d x) (.slice (some ⟨g,0,none⟩) (cellsT d x).length cap) (cellsT d x) (b:=z.b) (by omega);have nb2:=nb.grown p3 hne';have st2:=hst.grown np p3;obtain⟨q1,q2,q3⟩:=page_set nb2 2 n (.slice none 0 0) [] hbp;have np3:=p1.grown q3 hne;have st3:=st2.grown nb2 q3;obtain⟨r1,r2,r3⟩:=set_taken q1 0 hbp;have np4:=np3.grown r3 hne;have st4:=st3.grown q1 r3;have nf:=(p2.trans q2).trans r2;have ts4:=nf.ts k1;have tb4:=nf.stayTB ht;generalize (((((((w1.setCell ⟨p,0,none⟩ (.int .i64 (kindT d:Int))).setCell ⟨p,1,none⟩ (.int .i64 (linkT d x:Int))).setCell ⟨p,2,none⟩ (.slice (some ⟨g,0,none⟩) (cellsT d x).length cap)).setCell ⟨z.p,0,none⟩ (.int .i64 ((2:Nat):Int))).setCell ⟨z.p,1,none⟩ (.int .i64 (n:Int))).setCell ⟨z.p,2,none⟩ (.slice none 0 0)).setCell ⟨z.p,6,none⟩ (.int .i64 ((0:Nat):Int)))=W4 at *;have hnd4:NDb W4 z.b w.heap.size z.p ⟨2,n,[],numT d x,⟨#[]⟩,⟨#[]⟩,0⟩:=⟨.slice none 0 0,r1,World.ownsRow_nil _ _ _ _,hbp,hpt,fun g hg=>by cases hg⟩;have hX:=k3.perm _ hsx.perm;have hr:=fun r=>spl_pg d (midC (cellsT d x)) r (renT d n x) ((ren_bnd d n x _ _).2 hbx) (by rw[ren_cells];exact a2) (ren_small d n x hsml)
 simp only[ren_cells,ren_link] at hr;have hpr:=hr 0;have hmid:midC (cellsT d x)+(kindT d-1)<(cellsT d x).length:=by
  rcases kind_cases d with⟨_,e⟩|⟨_,e⟩
  ·rw[e];exact a2
  ·rw[e];rcases Nat.lt_or_ge (midC (cellsT d x)+1) (cellsT d x).length with q | q
   ·exact q
   ·rw[List.drop_eq_nil_of_le q] at a5;simp[usedC] at a5
 have hlen:(cellsT d x).length≤400:=by have:=used_len4 (l:=cellsT d x);have:=hS.us;omega
 have hlk:∀n,n≤60000→okP (shrL (kindT d) (if kindT d=1 then n else linkT d x) (cellsT d x)):=fun n hn=>by
  refine⟨?_,?_,a3.2⟩
  ·show 1≤kindT d∧kindT d≤5;rcases kind_cases d with⟨_,e⟩ | ⟨_,e⟩<;>rw[e]<;>omega
  ·show(if kindT d=1 then n else linkT d x)≤_;have:=hS.lks;split<;>omega
 have hrp:okP (shrR (kindT d) (linkT d x) (cellsT d x)):=by
  unfold shrR;split
  ·exact⟨by show 1≤1∧1≤5;omega,hS.lks,a4.2⟩
  ·rename_i hk1
   refine⟨by show 1≤2∧2≤5;omega,?_,a5.2⟩;have q:=hpr.2.1;rw[if_neg hk1] at q;have q2:linkT d (splT d (midC (cellsT d x)) 0 (renT d n x)).2.2=numB (tx (cellsT d x) (midC (cellsT d x))) ((tx (cellsT d x) (midC (cellsT d x))).size-4):=congrArg PgV.link q;show numB _ _≤_;rw[←q2];rcases kind_cases d with⟨_,e⟩ | ⟨hd,_⟩
   ·exact absurd e hk1
   ·obtain⟨d',rfl⟩:∃d',d=d'+1:=⟨d-1,by omega⟩;exact link_small fun p hp=>hsml p (List.mem_of_mem_drop (i:=midC (cellsT (d'+1) x)+1) hp)
 have hC:=csplit (v0:=⟨2,n,[],numT d x,⟨#[]⟩,⟨#[]⟩,0⟩) (vn:=⟨kindT d,linkT d x,cellsT d x,n,⟨#[]⟩,⟨#[]⟩,0⟩) (l:=cellsT d x) ts4 (by omega) (by have:=k3.pgs;omega) tb4 hnd4 (Nat.le_refl _) (by show 0≤1000;omega) np4 hwp st4 hcap (kindT d) (by rcases kind_cases d with⟨_,e⟩ | ⟨_,e⟩<;>rw[e]<;>simp) rfl
  ⟨by omega,by have:=hS.us;omega,hmid,hpr.2.2.2.2.2,hpr.2.2.2.2.1,hsz _ (by rw[tx_get a2];exact List.getElem_mem a2)⟩ hlk hrp hX (by show n∈_;simp) hpr.2.2.2.1.2
 refine hC.mono ?_;rintro e w'⟨rfl,V',r,A2,fl2,pages2,j1,j2,j3,j4⟩;obtain⟨o1,o2,o3,o4,-⟩:=hr r;have hs2:=((hsx.alloc k3).alloc j1).rootSplit (midC (cellsT d x)) ⟨a1,a2⟩;have hnums:=spl_num d (midC (cellsT d x)) r (renT d n x);rw[ren_num] at hnums;have e1:pgT d (splT d (midC (cellsT d x)) r (renT d n x)).1=shrL (kindT d) (if kindT d=1 then r else linkT d x) (cellsT d x):=o1;have e2:pgT d (splT d (midC (cellsT d x)) r (renT d n x)).2.2=shrR (kindT d) (linkT d x) (cellsT d x):=by
  rw[o2];unfold shrR;rfl
 have hfs:FilN d (splT d (midC (cellsT d x)) r (renT d n x)).1∧FilN d (splT d (midC (cellsT d x)) r (renT d n x)).2.2:=by
  have:=fil_spl d r (renT d n x) (by rw[ren_cells];exact hsz) ((ren_filK d n x).2 hS.fk) (by rw[ren_cells];exact hu) (by rw[ren_cells];have:=hS.us;omega);rw[ren_cells] at this;exact this
 rw[e1,e2] at hs2;generalize splT d (midC (cellsT d x)) r (renT d n x)=q at *;have hcells:cellsT (d+1) (⟨numT d x,[(⟨#[]⟩,q.1),(q.2.1,q.2.2)]⟩:Inn (T d))=[childB (keyB (tx (cellsT d x) (midC (cellsT d x)))) r]:=by
  show [childB q.2.1 (numT d q.2.2)]=_;rw[o3,hnums.2]
 have hlink:linkT (d+1) (⟨numT d x,[(⟨#[]⟩,q.1),(q.2.1,q.2.2)]⟩:Inn (T d))=n:=hnums.1;have hks:=o4.2;refine⟨rfl,V',_,fl2,pages2,(⟨numT d x,[(⟨#[]⟩,q.1),(q.2.1,q.2.2)]⟩:Inn (T d)),j2,hs2,fun p hp=>?_,?_,?_,rfl,?_,((h.tf k2 z.b).trans (nf.tf k1)).trans j3,?_,j3.stayTB tb4,?_⟩
 ·have hp:p∈[(⟨#[]⟩,q.1),(q.2.1,q.2.2)]:=hp;simp only[List.mem_cons,List.not_mem_nil,or_false] at hp;rcases hp with rfl | rfl
  ·exact hfs.1
  ·exact hfs.2
 ·rw[hcells];simp only[usedC,List.map_cons,List.map_nil,List.sum_cons,List.sum_nil];rw[childB_sz];omega
 ·rw[hcells];simp
 ·rw[hlink];have:=k3.pos;have:=k3.pgs;omega
 ·have:=j4.nr;have e3:nvT (d+1) (⟨numT d x,[(⟨#[]⟩,q.1),(q.2.1,q.2.2)]⟩:Inn (T d)) ⟨#[]⟩ ⟨#[]⟩ 0=⟨2,n,insL [] 0 (childB (keyB (tx (cellsT d x) (midC (cellsT d x)))) r),numT d x,⟨#[]⟩,⟨#[]⟩,0⟩:=by
   unfold nvT;rw[hcells,hlink];rfl
  rw[e3];exact this
 ·have:=k3.pgs;have:=j1.pgs;omega
theorem croot2 {x:T d}(h:TS w B D Gp V K pk m A fl pages)(hm:m≤30000)(hpg:pages<57000)(ht:TB w tb Gp root)(hS:Stl w A fl pages os es rt (.top d) x [z])(hu:1012<usedC (cellsT d x)):Calls Tryz.prog 158 #[(.pointer (some ⟨tb,0,none⟩)),(.pointer (some ⟨z.p,0,none⟩))] w fun e w'=>e=.returned (.tuple #[])∧setPost w B D Gp V K pk m pages os es rt z.b w':=by
 obtain⟨tk,hv⟩:=hS.vs;have hv:z.v=nvT d x ⟨#[]⟩ ⟨#[]⟩ tk:=by simpa[nvs1,lo1,hi1] using hv
 have hnd:NDb w z.b w.heap.size z.p z.v:=hS.pm.1;obtain⟨s,nb,ho,hbp,hpt,-⟩:=hnd;rw[hv] at nb ho;have hsx:=hS.sx;have hsz:=hsx.wf.sz;have hbx:Bnd d ⟨#[]⟩ ⟨#[]⟩ x:=hsx.wf.at;have hsml:smallK d x:=hsx.small h.flsmall.2;obtain⟨a1,a2,a3,a4,a5⟩:=mid_ok hsz hu (by have:=hS.us;omega);have hfs:=fun r=>fil_spl d r x hsz hS.fk hu (by have:=hS.us;omega)
 obtain⟨g,cap,cur,rfl,hbg,hg,hc1,hc2,hc3,hc4,hc5⟩:=own_cur (n:=(cellsT d x).length) ho (by omega);have hst:StB w (some ⟨g,0,none⟩) (cellsT d x):=by
  obtain⟨a,c',e,st,-⟩:=StB.own (l:=cellsT d x) ho;injection e with e _ _;rw[e];exact st
 have HUS:=hide (cusedB hst cap (by have:=hS.us;omega));have HFR:=hide (cfresh h (by omega) (by omega) ht (kindT d));have hown:=hsx.ownX;obtain⟨u0,u1,u2,u3,u4,u5,u6,u7,u8⟩:=nb.cells
 replace u0:w.cell? ⟨z.p,0,none⟩=some (.int .i64 (kindT d:Int)):=u0
 replace u1:w.cell? ⟨z.p,1,none⟩=some (.int .i64 (linkT d x:Int)):=u1
 replace u2:w.cell? ⟨z.p,2,none⟩=some (.slice (some ⟨g,0,none⟩) (cellsT d x).length cap):=u2
 have HZ:=hide (show TS w B D Gp V K pk m A fl pages∧TB w tb Gp root∧NB w z.p (nvT d x ⟨#[]⟩ ⟨#[]⟩ tk) (.slice (some ⟨g,0,none⟩) (cellsT d x).length cap)∧StB w (some ⟨g,0,none⟩) (cellsT d x)∧z.b≤z.p∧z.p<w.heap.size∧m≤30000∧pages<57000∧(cellsT d x).length≤cap from⟨h,ht,nb,hst,hbp,hpt,hm,hpg,hc1⟩);have HS:=hide (hS);have HX:=hide (show Bnd d ⟨#[]⟩ ⟨#[]⟩ x∧smallK d x∧(0<midC (cellsT d x)∧midC (cellsT d x)<(cellsT d x).length)∧(∀y∈cellsT d x,y.size≤240)∧1012<usedC (cellsT d x) from⟨hbx,hsml,⟨a1,a2⟩,hsz,hu⟩);obtain⟨us,hus⟩:∃us,usedC (cellsT d x)=us:=⟨_,rfl⟩;rw[hus] at HUS hu;have hui:(1012:Int)<(us:Int):=by omega
 obtain⟨cl,hcl⟩:∃cl,(cellsT d x).length=cl:=⟨_,rfl⟩;rw[hcl] at HUS u2;obtain⟨kd,hkd⟩:∃kd,kindT d=kd:=⟨_,rfl⟩;rw[hkd] at HFR u0;obtain⟨lk,hlk⟩:∃lk,linkT d x=lk:=⟨_,rfl⟩;rw[hlk] at u1;have HG:=hide (show(cellsT d x).length=cl∧kindT d=kd∧linkT d x=lk from⟨hcl,hkd,hlk⟩);clear h ht hS hv nb ho hbp hpt hsx hsz hbx hsml a1 a2 a3 a4 a5 hfs hst hown hus hcl hkd hlk hbg hg hc1 hc2 hc3 hc4 hc5 u3 u4 u5 u6 u7 hu hm hpg;go_enter Tryz.func158,Tryz.ntmps158;go_wp2_with fail
 refine HUS.out.mono ?_;rintro e w1⟨rfl,hw⟩;rw[hw];clear hw;go_wp2_with fail
 refine HFR.out.mono ?_;rintro e w1⟨V1,n,A1,fl1,pages1,p,rfl,k1,k2,k3,k4,k5⟩;obtain⟨h,ht,nb,hst,hbp,hpt,hm,hpg,hcap⟩:=HZ.out;rw[HG.out.1] at nb;have nb1:=h.stayNB k2 nb;obtain⟨s0,np,ho0⟩:=k4;obtain⟨sa,sc,rfl,-⟩:=StB.own (l:=[]) ho0;have hne:¬p=z.p:=by omega
 have hne':¬z.p=p:=fun e=>hne e.symm
 obtain⟨u0,u1,u2,u3,u4,u5,u6,u7,u8⟩:=nb1.cells;obtain⟨t0,t1,t2,t3,t4,t5,t6,t7,t8⟩:=np.cells;have fz0:=u7 0;have fz1:=u7 1;have fz2:=u7 2;have fz6:=u7 6;have fp0:=t7 0;have fp1:=t7 1;have fp2:=t7 2
 replace u0:w1.cell? ⟨z.p,0,none⟩=some (.int .i64 (kd:Int)):=by rw[←HG.out.2.1];exact u0
 replace u1:w1.cell? ⟨z.p,1,none⟩=some (.int .i64 (lk:Int)):=by rw[←HG.out.2.2];exact u1
 replace t3:w1.cell? ⟨p,3,none⟩=some (.int .i64 (n:Int)):=t3
 clear t7 u7 u3 u4 u5 t4 t5 t6;have HK:=hide (show TS w1 B D Gp V1 K pk (m+2) A1 fl1 pages1∧St2 w w1 B V V1∧AllR A fl pages n A1 fl1 pages1∧NB w1 z.p (nvT d x ⟨#[]⟩ ⟨#[]⟩ tk) (.slice (some ⟨g,0,none⟩) cl cap)∧NB w1 p ⟨kd,0,[],n,⟨#[]⟩,⟨#[]⟩,0⟩ (.slice sa 0 sc)∧StB w1 (some ⟨g,0,none⟩) (cellsT d x)∧TB w1 tb Gp root∧w.heap.size≤p from⟨k1,k2,k3,nb1,np,h.staySt k2 hst,h.stayTB k2 ht,k5⟩);have HSP:Hid (Calls Tryz.prog 156 #[(.pointer (some ⟨tb,0,none⟩)),(.pointer (some ⟨z.p,0,none⟩)),(.pointer (some ⟨p,0,none⟩))] (((((((w1.setCell ⟨p,0,none⟩ (.int .i64 (kd:Int))).setCell ⟨p,1,none⟩ (.int .i64 (lk:Int))).setCell ⟨p,2,none⟩ (.slice (some ⟨g,0,none⟩) cl cap)).setCell ⟨z.p,0,none⟩ (.int .i64 2)).setCell ⟨z.p,1,none⟩ (.int .i64 (n:Int))).setCell ⟨z.p,2,none⟩ (.slice none 0 0)).setCell ⟨z.p,6,none⟩ (.int .i64 0)) fun e w'=>e=.returned (.tuple #[])∧rsPost w B D Gp V K pk m pages os es tb root (numT d x) z.b z.p d w'):=by
  have:=croot2s (tk:=tk) (sp:=.slice sa 0 sc) h hm hpg HS.out HX.out.2.2.2.2 hcap hbp hpt k1 k2 k3 (by rw[HG.out.1];exact nb1) (by rw[HG.out.2.1];exact np) (h.staySt k2 hst) (h.stayTB k2 ht) k5;rw[HG.out.1,HG.out.2.1,HG.out.2.2] at this;exact this
 clear h ht nb hst hbp hpt hm hpg hcap nb1 np ho0 k1 k2 k3 k5 HUS HFR;go_wp2_with fail
 refine HSP.out.mono ?_;rintro e w3⟨rfl,V3,A3,fl3,pages3,x',q1,q2,q3,q4,q5,q6,q7,q8,q9,q10,q11⟩;have hown:=q2.ownX;have HW:=hide (ctwrite q1 (by have:=HZ.out;omega) q10 q9 (show okP (pgN (nvT (d+1) x' ⟨#[]⟩ ⟨#[]⟩ 0)) from⟨by show 1≤2∧2≤5;omega,q7,q4⟩) hown.1 hown.2.1 hown.2.2);have HE:Hid (∀w' V',TS w' B D Gp V' K pk (m+6+1) (updA A3 (numT (d+1) x') (pgT (d+1) x')) fl3 pages3→St2 w3 w' B V3 V'→setPost w B D Gp V K pk m pages os es rt z.b w'):=fun w' V' y1 y2 =>
  ⟨V',_,_,pages3,d+1,x',y1,⟨q2.wr _,updA_at _ _ _,⟨q3,.inl rfl,q4,.inr q5⟩⟩,by rw[q6];exact HS.out.rt,q8.trans (q1.tf y2 z.b),q11⟩
 clear q1 q2 q3 q4 q5 q6 q7 q8 q9 q10 q11 hown HSP;go_wp2_with fail
 refine HW.out.mono ?_;rintro e w5⟨rfl,V5,k1,k2⟩;have HE2:=hide (HE.out _ _ k1 k2);clear k1 k2;go_wp2;go_end0;exact⟨rfl,HE2.out⟩
theorem croot {x:T d}(h:TS w B D Gp V K pk m A fl pages)(hm:m≤30000)(hpg:pages<57000)(ht:TB w tb Gp root)(hS:Stl w A fl pages os es rt (.top d) x [z]):Calls Tryz.prog 158 #[(.pointer (some ⟨tb,0,none⟩)),(.pointer (some ⟨z.p,0,none⟩))] w fun e w'=>e=.returned (.tuple #[])∧setPost w B D Gp V K pk m pages os es rt z.b w':=by
 by_cases hu:1012<usedC (cellsT d x)
 ·exact croot2 h hm hpg ht hS hu
 ·by_cases h0:cellsT d x=[]
  ·cases d with
   | zero=>exact croot0 h hm ht hS (by omega) (.inl rfl)
   | succ d=>exact croot1 h hm ht hS h0
  ·exact croot0 h hm ht hS (by omega) (.inr h0)
end
theorem PM.les:∀{l:List PN} {top:Nat},PM w l top→∀x∈l,hdB l top≤x.b
 | [y], _, _, x, hx => by
  have:x=y:=by simpa using hx
  subst this;exact Nat.le_refl _
 | y :: z :: r, top, ⟨h1, h2⟩, x, hx => by
  rcases List.mem_cons.1 hx with rfl|hx
  ·exact Nat.le_refl _
  ·have h3:=PM.les h2 x hx;obtain⟨_,_,_,q1,q2,_⟩:=h1;have q2:y.p<z.b:=q2;have h3:z.b≤x.b:=h3;show y.b≤x.b;omega
theorem nvs_top (c:Cx d)(n:Nat):c.nvs n=[]→c=.top d:=Cx.ind (P:=fun d c=>c.nvs n=[]→c=.top d) (fun _ _=>rfl) (fun _ _ _ _ _ _ _ h=>by simp[nvs2] at h) c
theorem nvs_up' (c:Cx d)(n:Nat):¬c.nvs n=[]→∃num s1 k s2 c',c=.up num s1 k s2 c':=Cx.ind (P:=fun _ c=>¬c.nvs n=[]→∃num s1 k s2 c',c=.up num s1 k s2 c') (fun _ h=>absurd rfl h) (fun _ num s1 k s2 c _ _=>⟨num,s1,k,s2,c,rfl⟩) c
def settPost (w:World)(B D Gp:Nat)(V:PV)(K:Pgs)(pk m pages:Nat)(os:List Nat)(es:List Ent)(rt b n:Nat)(w':World):Prop:=
 ∃(V':PV) (A':Nat→PgV) (fl':List Nat) (pages' d':Nat) (t:T d'),TS w' B D Gp V' K pk (m+4*n+8) A' fl' pages'∧Tr A' fl' pages' os t es∧numT d' t=rt∧TF b B w w' V V'∧pages'≤pages+n+2
structure SeS (w X:World) (B D Gp:Nat) (V Vi:PV) (K:Pgs) (pk m pages:Nat) (os:List Nat) (es:List Ent) (rt b n:Nat) (lp:List Nat) (i:Nat) {d:Nat} (c:Cx d) (x:T d) (l:List PN) (A:Nat→PgV) (fl:List Nat) (pgi:Nat):Prop where
 st:Stl X A fl pgi os es rt c x l
 len:l.length=i+1
 ps:l.map (·.p)=lp.take (i+1)
 low:b≤hdB l X.heap.size
 ts:TS X B D Gp Vi K pk (m+4*(n-(i+1))) A fl pgi
 tf:TF b B w X V Vi
 pg:pgi≤pages+(n-(i+1))
section
variable {pk:Nat}
theorem Stl.below {c:Cx d}{x:T d}(hS:Stl w A fl pages os es rt c x l)(h:TS w B D Gp V K pk m A fl pages)(hb:Below w.heap.size w w'):Stl w' A fl pages os es rt c x l:=
 ⟨hS.sx,hS.fk,hS.us,hS.two,hS.rt,hS.lks,(hS.pm.below hb).up hb.size,hS.vs,fun z hz=>h.stayNRs (h.below hb).2 (hS.nn z hz)⟩
theorem hdB_up {a:Nat}(h:l=[]→a≤b):hdB l a≤hdB l b:=by
 cases l with
 | nil=>exact h rfl
 | cons x r=>exact Nat.le_refl _
theorem SeS.below {X:World}{Vi:PV}{i:Nat}{lp:List Nat}{c:Cx d}{x:T d}{pgi:Nat}(h:SeS w X B D Gp V Vi K pk m pages os es rt b n lp i c x l A fl pgi)(hb:Below X.heap.size X Y):SeS w Y B D Gp V Vi K pk m pages os es rt b n lp i c x l A fl pgi:=
 ⟨h.st.below h.ts hb,h.len,h.ps,Nat.le_trans h.low (hdB_up fun _=>hb.size),(h.ts.below hb).1,h.tf.trans (h.ts.tf (h.ts.below hb).2 b),h.pg⟩
theorem ctsettle {c:Cx d}{x:T d}{lo:Nat}(h:TS w B D Gp V K pk m A fl pages)(hm:m+4*l.length≤29000)(hpg:pages+l.length<56000)(ht:TB w tb Gp root)(hS:Stl w A fl pages os es rt c x l)(hr:w.ownsRow lo 94 1 s l.length (rowP l)):Calls Tryz.prog 99 #[(.pointer (some ⟨tb,0,none⟩)),s] w fun e w'=>e=.returned (.tuple #[])∧settPost w B D Gp V K pk m pages os es rt (hdB l w.heap.size) l.length w':=by
 obtain⟨n,hn⟩:∃n,l.length=n:=⟨_,rfl⟩;obtain⟨b,hb⟩:∃b,hdB l w.heap.size=b:=⟨_,rfl⟩;have hn1:0<n:=by
  obtain⟨tk,hv⟩:=hS.vs;have:=congrArg List.length hv;simp at this;omega
 have HI:Hid (SeS w w B D Gp V V K pk m pages os es rt b n (l.map (·.p)) (n-1) c x l A fl pages):=⟨hS,by omega,(List.take_of_length_le (by rw[List.length_map];omega)).symm,by rw[hb];exact Nat.le_refl _,h.mono (by omega),TF.refl _ _ _ _,by omega⟩;rw[hn] at hr hm hpg ⊢;rw[hb];obtain⟨g,cap,cur,rfl,hbg,hg,hc1,hc2,hc3,hc4⟩:∃g cap cur,s=.slice (some ⟨g,0,none⟩) n cap∧lo≤g∧w.heap[g]?=some (.cells cur 94 (0,0))∧n≤cap∧cap≤maxLen∧cur.size=cap*1∧cur.toList.take (n*1)=rowP l:=by
  rcases hr.2 with⟨_,h0⟩|⟨g,cap,cur,e,rest⟩
  ·omega
  ·exact⟨g,cap,cur,e,rest⟩
 have HP:=hide (show ∀(X:World) (Vi:PV),TF b B w X V Vi→∀j,j<n→∃pj,(l.map (·.p))[j]?=some pj∧X.cell? ⟨g,j,none⟩=some (.pointer (some ⟨pj,0,none⟩)) from fun X Vi htf j hj=>by
  have hg':=htf.blk g cur _ hg (by decide) (by decide) (by decide);have hj':j<l.length:=by omega
  refine⟨l[j].p,by simp[hj'],?_⟩;have e1:(cur.toList.take (n*1))[j]?=(rowP l)[j]?:=by rw[hc4]
  rw[List.getElem?_take,if_pos (by omega)] at e1;simp only[World.cell?,hg'];rw[←Array.getElem?_toList,e1];simp[rowP,hj'])
 have HT:=hide (show TS w B D Gp V K pk m A fl pages∧TB w tb Gp root∧m+4 * n≤29000∧pages+n<56000 from⟨h,ht,hm,hpg⟩);generalize l.map (·.p)=lp at *;have hn2:n≤10000:=by omega
 clear h ht hS hr hn hb hg hc1 hc2 hc3 hc4 hbg hm hpg;have hwn:wrap64 ((n:Int)-1)=((n-1:Nat):Int):=by unfold wrap64;omega
 go_enter Tryz.func99,Tryz.ntmps99;go_wp2_with fail
 go_loopw [4] (fun x4 X=>∃(i d:Nat) (c:Cx d) (x:T d) (l:List PN) (Vi:PV) (Ai:Nat→PgV) (fli:List Nat) (pgi:Nat),x4=.int .i64 (i:Int)∧i<n∧Hid (SeS w X B D Gp V Vi K pk m pages os es rt b n lp i c x l Ai fli pgi)) (fun x4 _=>(intOf x4).toNat)
 case atStart=>exact⟨n-1,d,c,x,l,V,A,fl,pages,(by congr 1;omega),by omega,HI⟩
 case round =>
  obtain⟨i,d,c,x,l,Vi,Ai,fli,pgi,rfl,hi,HS⟩:=hrel;by_cases hi0:0<i
  ·have hne:¬c.nvs (numT d x)=[]:=fun e=>by
    obtain⟨tk,hv⟩:=HS.out.st.vs;rw[e] at hv;have:=congrArg List.length hv;simp at this;have:=HS.out.len;omega
   obtain⟨num,s1,k,s2,c,rfl⟩:=nvs_up' c _ hne;obtain⟨l0,y,z,tk,rfl,hy,hz,hl0,hpm,hny,hnz,hrs⟩:=HS.out.st.lastTwo;obtain⟨j,hj⟩:∃j,i=j+1:=⟨i-1,by omega⟩;have hll:l0.length=j:=by have:=HS.out.len;simp at this;omega
   have hps:=HS.out.ps;rw[List.map_append] at hps;obtain⟨pi,e1,e2⟩:=HP.out wr Vi HS.out.tf i hi;obtain⟨pj,e3,e4⟩:=HP.out wr Vi HS.out.tf j (by omega);have e5:pi=z.p:=by
    have q:(lp.take (i+1))[i]?=some pi:=by rw[List.getElem?_take,if_pos (by omega),e1]
    rw[←hps,List.getElem?_append_right (by simp;omega)] at q;simp only[List.length_map,hll,hj,show j+1-j=1 by omega] at q;simpa using q.symm
   have e6:pj=y.p:=by
    have q:(lp.take (i+1))[j]?=some pj:=by rw[List.getElem?_take,if_pos (by omega),e3]
    rw[←hps,List.getElem?_append_right (by simp;omega)] at q;simp only[List.length_map,hll,Nat.sub_self] at q;simpa using q.symm
   subst e5 e6;have e7:wr.cell? ⟨g,i-1,none⟩=some (.pointer (some ⟨y.p,0,none⟩)):=by rw[show i-1=j by omega];exact e4
   have hw1:wrap64 ((i:Int)-1)=(j:Int):=by unfold wrap64;omega
   have hin:(i:Int)<(n:Int):=by omega
   have hjn:(j:Int)<(n:Int):=by omega
   have h0i:(0:Int)<(i:Int):=by omega
   have hi00:(0:Int)≤(i:Int):=by omega
   have hj00:(0:Int)≤(j:Int):=by omega
   have hbj:b≤y.b:=Nat.le_trans HS.out.low (HS.out.st.pm.les y (by simp));have hbz:b≤z.b:=Nat.le_trans HS.out.low (HS.out.st.pm.les z (by simp));have hlow:∀(y':PN) (t:Nat),y'.b=y.b→b≤hdB (l0++[y']) t:=fun y' t e=>by
    cases l0 with
    | nil=>show b≤y'.b;omega
    | cons a r=>exact HS.out.low
   have hps':∀y':PN,y'.p=y.p→(l0++[y']).map (·.p)=lp.take (j+1):=fun y' e=>by
    have q:=congrArg (List.take (j+1)) hps;rw[List.take_take,show min (j+1) (i+1)=j+1 by omega] at q;rw[←q,List.map_append,List.take_append,List.take_of_length_le (by simp;omega)];simp[hll,e]
   obtain⟨a,cp,nb,st⟩:=hrs.nr;have hcz:z.v.cells=cellsT d x:=by rw[hz];rfl
   have HUS:=hide (fun(Y:World) (hY:Below wr.heap.size wr Y)=>cusedB (HS.out.ts.staySt (HS.out.ts.below hY).2 st) cp (by rw[hcz];have:=HS.out.st.us;omega));simp only[hcz] at HUS;obtain⟨u0,u1,u2,u3,u4,u5,u6,u7,u8⟩:=nb.cells;rw[hcz] at u2;have HJ:=hide (show i=j+1∧l0.length=j∧b≤y.b∧b≤z.b∧i<n from⟨hj,hll,hbj,hbz,hi⟩);have HL:=hide (show(∀(y':PN) (t:Nat),y'.b=y.b→b≤hdB (l0++[y']) t)∧(∀y':PN,y'.p=y.p→(l0++[y']).map (·.p)=lp.take (j+1)) from⟨hlow,hps'⟩);have hTB:=HS.out.tf.stayTB HT.out.2.1;have HTB:=hide (hTB);obtain⟨us,hus⟩:∃us,usedC (cellsT d x)=us:=⟨_,rfl⟩;simp only[hus] at HUS;obtain⟨cl,hcl⟩:∃cl,(cellsT d x).length=cl:=⟨_,rfl⟩;simp only[hcl] at HUS;rw[hcl] at u2;have HUU:=hide (hus);have hTT:=HT.out;clear hj hll hps e1 e3 hbj hbz hlow hps' nb st hcz u0 u1 u3 u4 u5 u6 u7 hTB hus hcl hny hnz hrs hpm hne hi;by_cases h1:1012<us
   ·have h1':(1012:Int)<(us:Int):=by omega
    have HSP:=hide (fun(Y:World) (hY:SeS w Y B D Gp V Vi K pk m pages os es rt b n lp i (.up num s1 k s2 c) x (l0++[y,z]) Ai fli pgi)=>Stl.split hY.ts (by omega) (by have:=hY.pg;omega) (hY.tf.stayTB HT.out.2.1) hY.st (by rw[HUU.out];exact h1));go_wp2_with fail
    go_region
    go_wp2_with fail
    refine(HUS.out _ (drawnB wr 1)).mono ?_;rintro e w1⟨rfl,hw⟩;rw[hw];clear hw;go_wp2_with fail
    refine(HSP.out _ (HS.out.below (drawnB wr 1))).mono ?_;rintro e w2⟨rfl,V2,A2,fl2,pg2,x2,y2,q1,q2,q3,q4,q5,q6⟩;have HN:Hid (SeS w w2 B D Gp V V2 K pk m pages os es rt b n lp j c x2 (l0++[y2]) A2 fl2 pg2):=by
     have hS:=HS.out.below (drawnB wr 1);have hJ:=HJ.out;exact⟨q3,by simp[hJ.2.1],HL.out.2 y2 q4,HL.out.1 y2 _ q5,q1.mono (by omega),hS.tf.trans (q2.mono hJ.2.2.1),by have:=hS.pg;omega⟩
    clear q1 q2 q3 q4 q5 q6 HSP HUS;go_wp2_with fail
    go_roundw
    case rel=>exact⟨j,d+1,c,x2,l0++[y2],V2,A2,fl2,pg2,(by have:=HJ.out;congr 1;omega),by have:=HJ.out;omega,HN⟩
    case measure=>simp[intOf];have:=HJ.out;omega
   ·by_cases h2:us<180
    ·have h1':¬(1012:Int)<(us:Int):=by omega
     have h2':(us:Int)<180:=by omega
     have HSP:=hide (fun(Y:World) (hY:SeS w Y B D Gp V Vi K pk m pages os es rt b n lp i (.up num s1 k s2 c) x (l0++[y,z]) Ai fli pgi)=>Stl.join hY.ts (by omega) (hY.tf.stayTB HT.out.2.1) hY.st (by rw[HUU.out];exact h2));go_wp2_with fail
     go_region
     go_wp2_with fail
     refine(HUS.out _ (drawnB wr 1)).mono ?_;rintro e w1⟨rfl,hw⟩;rw[hw];clear hw;go_wp2_with fail
     refine(HSP.out _ (HS.out.below (drawnB wr 1))).mono ?_;rintro e w2⟨rfl,V2,A2,fl2,x2,y2,q1,q2,q3,q4,q5⟩;have HN:Hid (SeS w w2 B D Gp V V2 K pk m pages os es rt b n lp j c x2 (l0++[y2]) A2 fl2 pgi):=by
      have hS:=HS.out.below (drawnB wr 1);have hJ:=HJ.out;exact⟨q3,by simp[hJ.2.1],HL.out.2 y2 q4,HL.out.1 y2 _ q5,q1.mono (by omega),hS.tf.trans (q2.mono hJ.2.2.1),by have:=hS.pg;omega⟩
     clear q1 q2 q3 q4 q5 HSP HUS;go_wp2_with fail
     go_roundw
     case rel=>exact⟨j,d+1,c,x2,l0++[y2],V2,A2,fl2,pgi,(by have:=HJ.out;congr 1;omega),by have:=HJ.out;omega,HN⟩
     case measure=>simp[intOf];have:=HJ.out;omega
    ·have h1':¬(1012:Int)<(us:Int):=by omega
     have h2':¬(us:Int)<180:=by omega
     have HWR:=hide (fun(Y:World) (hY:SeS w Y B D Gp V Vi K pk m pages os es rt b n lp i (.up num s1 k s2 c) x (l0++[y,z]) Ai fli pgi)=>ctwrite hY.ts (by omega) (hY.tf.stayTB HT.out.2.1) (hY.st.nn z (by simp)).nr (v:=z.v) (by rw[hz];exact⟨by show 1≤kindT d∧kindT d≤5;rcases kind_cases d with⟨_,e⟩ | ⟨_,e⟩<;>rw[e]<;>omega,hY.st.lks,by show usedC (cellsT d x)≤1012;rw[HUU.out];omega⟩) (by rw[hz];exact hY.st.sx.ownX.1) (by rw[hz];exact hY.st.sx.ownX.2.1) (by rw[hz];exact hY.st.sx.ownX.2.2));have HZZ:=hide (hz);go_wp2_with fail
     go_region
     go_wp2_with fail
     refine(HUS.out _ (drawnB wr 1)).mono ?_;rintro e w1⟨rfl,hw⟩;rw[hw];clear hw;go_wp2_with fail
     refine(HWR.out _ (HS.out.below (drawnB wr 1))).mono ?_;rintro e w2⟨rfl,V2,q1,q2⟩;have HE:Hid (settPost w B D Gp V K pk m pages os es rt b n w2):=by
      have hS:=HS.out.below (drawnB wr 1);have hJ:=HJ.out;rw[HZZ.out] at q1;have hsx:=hS.st.sx.wr (pgT d x);obtain⟨D',t,hT,hnum⟩:=Sx.whole _ x hsx (updA_at _ _ _) ⟨hS.st.fk,.inr (by rw[HUU.out];omega),by rw[HUU.out];omega,.inr (fun e=>by have:=HUU.out;rw[e] at this;simp[usedC] at this;omega)⟩ hS.st.two;exact⟨V2,_,fli,pgi,D',t,q1.mono (by omega),hT,by rw[hnum];exact hS.st.rt,hS.tf.trans (hS.ts.tf q2 b),by have:=hS.pg;omega⟩
     clear q1 q2 HWR HUS;go_wp2;refine bodyPost_ret (results_none rfl _ _ _) rfl ?_;exact⟨rfl,HE.out⟩
  ·have hi00:i=0:=by omega
   subst hi00;have hnil:c.nvs (numT d x)=[]:=by
    obtain⟨tk,hv⟩:=HS.out.st.vs;have q:=congrArg List.length hv;have:=HS.out.len;simp at q;exact List.length_eq_zero_iff.1 (by omega)
   have hct:=nvs_top c _ hnil;subst hct;obtain⟨z,hz⟩:∃z,l=[z]:=by
    have:=HS.out.len
    match l,this with
    | [z],_=>exact⟨z,rfl⟩
   subst hz;obtain⟨pi,e1,e2⟩:=HP.out wr Vi HS.out.tf 0 hi;have e5:pi=z.p:=by
    have hps:=HS.out.ps;have q:(lp.take 1)[0]?=some pi:=by rw[List.getElem?_take,if_pos (by omega),e1]
    have hps:[z.p]=lp.take 1:=hps;rw[←hps] at q;simpa using q.symm
   subst e5;have h0n:(0:Int)<(n:Int):=by omega
   have hTT:=HT.out;have HR:=hide (croot HS.out.ts (by omega) (by have:=HS.out.pg;omega) (HS.out.tf.stayTB HT.out.2.1) HS.out.st);go_wp2_with fail
   refine HR.out.mono ?_;rintro e w2⟨rfl,V2,A2,fl2,pg2,d2,t2,q1,q2,q3,q4,q5⟩;have HE:Hid (settPost w B D Gp V K pk m pages os es rt b n w2):=by
    have hS:=HS.out;exact⟨V2,A2,fl2,pg2,d2,t2,q1.mono (by omega),q2,q3,hS.tf.trans (q4.mono hS.low),by have:=hS.pg;omega⟩
   clear q1 q2 q3 q4 q5 HR;go_wp2;go_end0;exact⟨rfl,HE.out⟩
end
theorem pre_lt (c:Cx d):c.bnd lo hi→∀e∈c.pre,klt e.1 lo=true:=by
 refine Cx.ind (P:=fun _ c=>∀lo hi:ByteArray,c.bnd lo hi→∀e∈c.pre,klt e.1 lo=true) ?_ ?_ c lo hi
 ·intro _ _ _ _ e he;simp[pre1] at he
 ·intro d _ s1 k s2 c ih lo hi h e he;obtain⟨lo',hi',h1,rfl,h3,h4,h5,h6,h7,h8,h9,h10⟩:=bnd2.1 h;simp only[pre2,List.mem_append] at he;have hok:¬s1=[]→okK lo:=fun hn=>h10.resolve_left hn
  rcases he with he|he
  ·have q:=ih _ _ h1 e he;cases s1 with
   | nil =>
    have h7:lo=lo':=h7;rw[h7];exact q
   | cons p r =>
    have h7:p.1=lo':=h7;have hlt:ltB p.1 lo:=bs_ltB d (p::r) lo h4 (by simp);rw[h7] at hlt;exact klt_tr q (ltB_ne hlt (hok (by simp)))
  ·have hne:¬s1=[]:=fun e'=>by rw[e'] at he;simp[entS] at he
   exact ltB_ne (entS_in d s1 lo h4 e he).2.1 (hok hne)
theorem suf_gt (c:Cx d):c.bnd lo hi→∀e∈c.suf,¬hi=⟨#[]⟩∧klt e.1 hi=false:=by
 refine Cx.ind (P:=fun _ c=>∀lo hi:ByteArray,c.bnd lo hi→∀e∈c.suf,¬hi=⟨#[]⟩∧klt e.1 hi=false) ?_ ?_ c lo hi
 ·intro _ _ _ _ e he;simp[suf1] at he
 ·intro d _ s1 k s2 c ih lo hi h e he;obtain⟨lo',hi',h1,h2,h3,h4,h5,h6,h7,h8,h9,h10⟩:=bnd2.1 h;simp only[suf2,List.mem_append] at he;have hne2:∀q:ByteArray,okK q→¬q=⟨#[]⟩:=fun q hq e=>by rw[e] at hq;exact absurd hq.1 (by decide)
  rcases he with he|he
  ·cases s2 with
   | nil=>simp[entS] at he
   | cons p r =>
    rw[h3];have:=entS_in d (p::r) hi' h5 e he;exact⟨hne2 _ (h8 p (by simp)),this.1⟩
  ·have q:=ih _ _ h1 e he;cases s2 with
   | nil=>rw[h3];exact q
   | cons p r =>
    rw[h3];have hlt:ltB p.1 hi':=bs_ltB d (p::r) hi' h5 (by simp);refine⟨hne2 _ (h8 p (by simp)),?_⟩;exact klt_asy (klt_le (hlt.resolve_left q.1) q.2)
theorem BI_split {lo hi k:ByteArray}:∀{its:List It},BI lo its hi→∃a b,((its=a++b∧hasK (its.map (·.key)) k=false)∨∃j,j.key=k∧its=a++j::b∧hasK (its.map (·.key)) k=true)∧posK (its.map (·.key)) k=a.length∧(∀i∈a,klt i.key k=true)∧∀i∈b,klt k i.key=true
 | [],_=>⟨[],[],.inl ⟨rfl,by simp[hasK,posK]⟩,rfl,by simp,by simp⟩
 | i :: r, ⟨h1, h2, h3, h4, h5⟩ => by
  rcases klt_tri i.key k with e|e|e
  ·obtain⟨a,b,o,hp,ha,hb⟩:=BI_split (k:=k) h5;have hpos:posK ((i::r).map (·.key)) k=a.length+1:=by
    unfold posK at hp ⊢;rw[List.map_cons,List.countP_cons_of_pos (p:=fun q=>klt q k) e,hp]
   have hhas:hasK ((i::r).map (·.key)) k=hasK (r.map (·.key)) k:=by
    unfold hasK;rw[hpos,hp,List.map_cons,List.getElem?_cons_succ]
   refine⟨i::a,b,?_,by rw[hpos];rfl,fun x hx=>?_,hb⟩
   ·rcases o with⟨o1,o2⟩|⟨j,o1,o2,o3⟩
    ·exact .inl ⟨by rw[o1];rfl,by rw[hhas];exact o2⟩
    ·exact .inr ⟨j,o1,by rw[o2];rfl,by rw[hhas];exact o3⟩
   ·rcases List.mem_cons.1 hx with rfl|hx
    ·exact e
    ·exact ha x hx
  ·have hall:∀x∈r,klt k x.key=true:=fun x hx=>by rw[←e];exact h4 x hx
   have hpos:posK ((i::r).map (·.key)) k=0:=by
    unfold posK;rw[List.countP_eq_zero];intro x hx;rw[List.map_cons,List.mem_cons] at hx;rcases hx with rfl | hx
    ·rw[e,klt_irr];decide
    ·obtain⟨y,hy,rfl⟩:=List.mem_map.1 hx;rw[klt_asy (hall y hy)];decide
   exact⟨[],r,.inr ⟨i,e,rfl,by unfold hasK;rw[hpos];simp[e]⟩,hpos,by simp,hall⟩
  ·have hall:∀x∈i::r,klt k x.key=true:=fun x hx=>by
    rcases List.mem_cons.1 hx with rfl|hx
    ·exact e
    ·exact klt_tr e (h4 x hx)
   have hpos:posK ((i::r).map (·.key)) k=0:=by
    unfold posK;rw[List.countP_eq_zero];intro x hx;obtain⟨y,hy,rfl⟩:=List.mem_map.1 hx;rw[klt_asy (hall y hy)];decide
   refine⟨[],i::r,.inl ⟨rfl,?_⟩,hpos,by simp,hall⟩;unfold hasK;rw[hpos];simp;intro q;rw[q,klt_irr] at e;cases e
def entI (l:List It):List Ent:=l.map fun i=>(i.key,i.val)
def PutR (es:List Ent)(k v:ByteArray)(es':List Ent):Prop:=∃p s,(es=p++s∨∃v0,es=p++(k,v0)::s)∧es'=p++(k,v)::s∧(∀e∈p,klt e.1 k=true)∧∀e∈s,klt k e.1=true
def DelR (es:List Ent)(k:ByteArray)(is:Bool)(es':List Ent):Prop:=∃p s,((es=p++s∧is=false)∨∃v0,es=p++(k,v0)::s∧is=true)∧es'=p++s∧(∀e∈p,klt e.1 k=true)∧∀e∈s,klt k e.1=true
theorem nodI_fst (h:okI i):(nodI i).map (·.1)=i.pgs:=by
 have hl:=h.pgs;unfold nodI;split at hl
 ·rw[List.length_eq_zero_iff.1 hl];rfl
 ·exact valN_fst _ _ (by rw[piece_len];exact hl)
section
variable {num link:Nat}{b:List It}
def heldX (c:Cx 0)(num:Nat)(its:List It)(os:List Nat):List Nat:=num::((its.flatMap nodI++c.nod num).map (·.1)++os)
theorem held_perm (h:okI i):(heldX c num (a++i::b) os).Perm (i.pgs++heldX c num (a++b) os):=by
 unfold heldX;simp only[List.flatMap_append,List.flatMap_cons,List.map_append,nodI_fst h,List.append_assoc];refine List.Perm.trans (List.Perm.cons _ ?_) List.perm_middle.symm;rw[←List.append_assoc,←List.append_assoc i.pgs];exact List.Perm.append_right _ List.perm_append_comm
theorem Sx.held (h:Sx A fl pages os c (⟨num,link,a++i::b⟩:Lf) es)(hi:okI i):Hold fl pages (i.pgs++heldX c num (a++b) os):=by
 have hp:(0::(fl++heldX c num (a++i::b) os)).Perm (List.range pages):=h.perm;exact(List.Perm.cons _ (List.Perm.append_left _ (held_perm hi).symm)).trans hp
theorem held_same (h:Hold fl pages (i.pgs++heldX c num (a++b) os))(hs:∀x,¬x=0→¬x∈i.pgs→A' x=A x)(hA:∀p∈(a++b).flatMap nodI++c.nod num,A p.1=p.2):∀p∈(a++b).flatMap nodI++c.nod num,A' p.1=p.2:=fun p hp=>by
 have hin:p.1∈heldX c num (a++b) os:=by
  unfold heldX;exact List.mem_cons_of_mem _ (List.mem_append_left _ (List.mem_map_of_mem hp))
 have hnd:=h.nd;simp only[List.nodup_cons,List.nodup_append] at hnd;rw[hs p.1 (fun e=>by have:=(h.mem (n:=p.1) (List.mem_append_right _ hin)).1;omega) (fun e=>hnd.2.2.1.2.2 _ e _ hin rfl)];exact hA p hp
theorem BI_without (h:BI lo (a++i::b) hi):BI lo (a++b) hi:=by
 have h1:=(BI_app a (i::b) hi).1 h;exact(BI_app a b hi).2 ⟨h1.1,h1.2.1.2.2.2.2,fun x hx y hy=>h1.2.2 x hx y (by simp[hy])⟩
theorem BI_with (h:BI lo (a++b) hi)(hi':okI i)(h1:klt i.key lo=false)(h2:ltB i.key hi)(ha:∀x∈a,klt x.key i.key=true)(hb:∀x∈b,klt i.key x.key=true):BI lo (a++i::b) hi:=by
 have h0:=(BI_app a b hi).1 h;exact(BI_app a (i::b) hi).2 ⟨h0.1,⟨hi',h1,h2,hb,h0.2.1⟩,fun x hx y hy=>by
  rcases List.mem_cons.1 hy with rfl|hy
  ·exact ha x hx
  ·exact h0.2.2 x hx y hy⟩
theorem Sx.takeOut (h:Sx A fl pages os c (⟨num,link,a++i::b⟩:Lf) es)(hi:okI i)(hh:Hold fl' pages (heldX c num (a++b) os))(hs:∀x,¬x=0→¬x∈i.pgs→A' x=A x):Sx A' fl' pages os c (⟨num,link,a++b⟩:Lf) (c.pre++entI (a++b)++c.suf):=by
 refine h.leaf (its:=a++b) (fun lo hi' _ hb=>BI_without hb) rfl ?_ hh;refine held_same (h.held hi) hs fun p hp=>h.rep p ?_
 show p∈(a++i::b).flatMap nodI++c.nod num;simp only[List.flatMap_append,List.flatMap_cons,List.mem_append] at hp ⊢;rcases hp with(hp | hp) | hp<;>simp[hp]
theorem Sx.putIn (h:Sx A fl pages os c (⟨num,link,a++b⟩:Lf) es)(hi:okI i)(h1:∀lo hi',c.bnd lo hi'→klt i.key lo=false∧ltB i.key hi')(ha:∀x∈a,klt x.key i.key=true)(hb:∀x∈b,klt i.key x.key=true)(hh:Hold fl' pages' (i.pgs++heldX c num (a++b) os))(hn:∀q∈nodI i,A' q.1=q.2)(hs:∀x,¬x=0→¬x∈i.pgs→A' x=A x):Sx A' fl' pages' os c (⟨num,link,a++i::b⟩:Lf) (c.pre++entI (a++i::b)++c.suf):=by
 refine h.leaf (its:=a++i::b) (fun lo hi' hc hbi=>BI_with hbi hi (h1 lo hi' hc).1 (h1 lo hi' hc).2 ha hb) rfl (fun p hp=>?_) ((List.Perm.cons _ (List.Perm.append_left _ (held_perm hi))).trans hh);have hold:=held_same (num:=num) (c:=c) (os:=os) (a:=a) (b:=b) hh hs h.rep;simp only[List.flatMap_append,List.flatMap_cons,List.mem_append] at hp;rcases hp with(hp | hp | hp) | hp
 ·exact hold p (by simp[List.flatMap_append,hp])
 ·exact hn p hp
 ·exact hold p (by simp[List.flatMap_append,hp])
 ·exact hold p (by simp[hp])
end
def tkPost (w:World)(B D Gp:Nat)(V:PV)(K:Pgs)(pk m:Nat)(A:Nat→PgV)(pages:Nat)(ps X:List Nat)(b p:Nat)(v:NV)(w':World):Prop:=
 ∃(V':PV) (A':Nat→PgV) (fl':List Nat),TS w' B D Gp V' K pk (m+2*ps.length) A' fl' pages∧TF b B w w' V V'∧Hold fl' pages X∧(∀x,¬x=0→¬x∈ps→A' x=A x)∧NDb w' b w'.heap.size p v∧NRs w' p v
section
variable {pk:Nat}
theorem ctake (h:TS w B D Gp V K pk m A fl pages)(hm:m≤35000)(ht:TB w tb Gp root){top:Nat}(hn:NDb w b top p v)(j:Nat)(hj:j<v.cells.length)(hl:v.cells.length≤1000)(i:It)(hi:okI i)(hc:tx v.cells j=cellI i)(hA:∀q∈nodI i,A q.1=q.2)(hX:Hold fl pages (i.pgs++X)):Calls Tryz.prog 96 #[(.pointer (some ⟨tb,0,none⟩)),(.pointer (some ⟨p,0,none⟩)),.int .i64 (j:Int)] w fun e w'=>e=.returned (.tuple #[])∧tkPost w B D Gp V K pk m A pages i.pgs X b p { v with cells:=v.cells.eraseIdx j } w':=by
 obtain⟨s,nb,ho,hbp,hpt,hg⟩:=hn;have hn:NDb w b top p v:=⟨s,nb,ho,hbp,hpt,hg⟩;obtain⟨g,cap,cur,rfl,hbg,hgg,hc1,hc2,hc3,hc4,hc5⟩:=own_cur (n:=v.cells.length) ho (by omega);have hcell:w.cell? ⟨g,j,none⟩=some (.string (cellI i)):=by
  have:=hc5 j hj;rw[List.getElem?_eq_getElem hj,←tx_get hj,hc] at this;simp only[World.cell?,hgg];exact this
 obtain⟨u0,u1,u2,u3,u4,u5,u6,u7,u8⟩:=nb.cells;have HF:=hide (cfreeValue h (by omega) ht i hi hA hX);have HN:=hide (show TS w B D Gp V K pk m A fl pages∧NDb w b top p v from⟨h,hn⟩);have HJ:=hide (show j<v.cells.length∧v.cells.length≤1000 from⟨hj,hl⟩);obtain⟨cl,hcl⟩:∃cl,v.cells.length=cl:=⟨_,rfl⟩;rw[hcl] at u2;have hji:(j:Int)<(cl:Int):=by omega
 have hj0:(0:Int)≤(j:Int):=by omega
 have hglt:g<w.heap.size:=(Array.getElem?_eq_some_iff.1 hgg).1;generalize cellI i=ci at *;clear h ht hn nb ho hbp hpt hg hgg hc1 hc2 hc3 hc4 hc5 hi hc hA hX hj hl hcl u0 u1 u3 u4 u5 u6 u7;go_enter Tryz.func96,Tryz.ntmps96;go_wp2_with fail
 refine HF.out.mono ?_;rintro e w1⟨rfl,V1,A1,fl1,k1,k2,k3,k4⟩;have hn1:=HN.out.1.stayNDb k2 HN.out.2;have HR:=hide (cremoveN hn1 HJ.out.2 j HJ.out.1);have HK:=hide (show TS w1 B D Gp V1 K pk (m+2*i.pgs.length) A1 fl1 pages∧St2 w w1 B V V1∧Hold fl1 pages X∧∀x,¬x=0→¬x∈i.pgs→A1 x=A x from⟨k1,k2,k3,k4⟩);clear k1 k2 k3 k4 hn1 HF;go_wp2_with fail
 refine HR.out.mono ?_;rintro e w2⟨rfl,q1,q2,q3⟩;have HE:Hid (tkPost w B D Gp V K pk m A pages i.pgs X b p { v with cells:=v.cells.eraseIdx j } w2):=by
  obtain⟨k1,k2,k3,k4⟩:=HK.out;exact⟨V1,A1,fl1,q2.ts k1,(HN.out.1.tf k2 b).trans (q2.tf k1),k3,k4,q1,q3⟩
 clear q1 q2 q3 HR;go_wp2;go_end0;exact⟨rfl,HE.out⟩
end
theorem leaf_keys (h:Bnd 0 lo hi x):(cellsT 0 x).map keyB=x.its.map (·.key):=by
 simp only[cellsT,List.map_map];exact List.map_congr_left fun i hi=>(cellI_key (BI_mem h i hi).1).1
theorem leaf_cells (h:Bnd 0 lo hi x):∀c∈cellsT 0 x,kS c≤c.size∧c.size≤240:=fun c hc=>by
 simp only[cellsT,List.mem_map] at hc;obtain⟨i,hi,rfl⟩:=hc;exact⟨(cellI_key (BI_mem h i hi).1).2.1,cellI_sz (BI_mem h i hi).1⟩
section
variable {pk:Nat}
theorem Way.leaf {key:ByteArray}{lo:Nat}(hW:Way w A fl pages os es rt lo c x l key)(h:TS w B D Gp V K pk m A fl pages):∃l0 z,l=l0++[z]∧PM w l0 z.b∧NDb w z.b w.heap.size z.p (nvT 0 x c.lo c.hi 0)∧l0.map (·.v)=c.nvs (numT 0 x)∧x.link≤2147483647∧lo≤hdB l w.heap.size∧hdB l w.heap.size≤z.b∧z.b≤w.heap.size:=by
 obtain⟨l0,l1,e,h0,h1⟩:=List.map_eq_append_iff.1 hW.vs;obtain⟨z,l2,e2,hz,h2⟩:=List.map_eq_cons_iff.1 h1;have h2:l2=[]:=by simpa using h2
 subst h2 e2 e;have hpm:=PM.app.1 hW.pm;have hl:=(h.okA hW.sx.own.1).link;rw[hW.own] at hl;have hnz:NDb w z.b w.heap.size z.p z.v:=hpm.2.1;have hzb:z.b≤w.heap.size:=by obtain⟨_,_,_,q1,q2,_⟩:=hnz;omega
 rw[hz] at hnz;exact⟨l0,z,rfl,hpm.1,hnz,h0,hl,hW.lows,hW.pm.les z (by simp),hzb⟩
theorem TF.row (h:TF b B w w' V V'){lo:Nat}{xs:List Value}(hr:w.ownsRow lo 94 1 s n xs):w'.ownsRow lo 94 1 s n xs:=by
 refine row_keep hr fun g hg=>?_
 obtain⟨cs,hcs⟩:=row_isC hr hg;rw[h.blk g cs _ hcs (by decide) (by decide) (by decide),hcs]
theorem mkStl {es':List Ent}(hsx:Sx A' fl' pages' os c x1 es')(hus:usedC (cellsT 0 x1)≤1300)(htwo:c.two)(hrt:c.root (numT 0 x)=rt)(hnum:numT 0 x1=numT 0 x)(hlk:x1.link≤2147483647)(hpm:PM w l0 z.b)(htf:TF z.b B w W V1 V2)(hl0:l0.map (·.v)=c.nvs (numT 0 x))(hnd:NDb W z.b W.heap.size z.p (nvT 0 x1 c.lo c.hi 0))(hnn:NRs W z.p (nvT 0 x1 c.lo c.hi 0)):Stl W A' fl' pages' os es' rt c x1 (l0++[⟨z.b,z.p,nvT 0 x1 c.lo c.hi 0⟩]):=
 ⟨hsx,trivial,hus,htwo,by rw[hnum];exact hrt,hlk,PM.snoc (x:=⟨z.b,z.p,_⟩) (htf.pm l0 z.b (Nat.le_refl _) hpm) hnd,⟨0,by rw[hnum];simp[hl0]⟩,fun y hy=>by
  rw[List.getLast?_concat] at hy;cases hy;exact hnn⟩
def putPost (w:World)(B D Gp:Nat)(V:PV)(K:Pgs)(pk m pages:Nat)(os:List Nat)(rt d:Nat)(R:List Ent→Prop)(w':World):Prop:=
 ∃(V':PV) (A':Nat→PgV) (fl':List Nat) (pages' d':Nat) (t:T d') (es':List Ent),TS w' B D Gp V' K pk (m+4*d+30) A' fl' pages'∧Tr A' fl' pages' os t es'∧numT d' t=rt∧R es'∧St2 w w' B V V'∧pages'≤pages+d+7
theorem rowP_last {lo:Nat}(h:w.ownsRow lo 94 1 s (l0++[z]).length (rowP (l0++[z]))):∃g cap,s=.slice (some ⟨g,0,none⟩) (l0.length+1) cap∧w.cell? ⟨g,0+l0.length,none⟩=some (.pointer (some ⟨z.p,0,none⟩)):=by
 rcases h.2 with⟨_,h0⟩|⟨g,cap,cur,e,_,hg,h1,h2,h3,h4⟩
 ·simp at h0
 ·refine⟨g,cap,by rw[e];simp,?_⟩;have e1:(cur.toList.take ((l0++[z]).length*1))[l0.length]?=(rowP (l0++[z]))[l0.length]?:=by rw[h4]
  rw[List.getElem?_take,if_pos (by simp)] at e1;simp only[World.cell?,hg,Nat.zero_add];rw[←Array.getElem?_toList,e1];simp[rowP]
theorem Way.about {lo:Nat}(hW:Way w A fl pages os es rt lo c x l k):∃a b,((x.its=a++b∧hasK (x.its.map (·.key)) k=false)∨∃j,j.key=k∧x.its=a++j::b∧hasK (x.its.map (·.key)) k=true)∧posK (x.its.map (·.key)) k=a.length∧(∀i∈a,klt i.key k=true)∧(∀i∈b,klt k i.key=true)∧(∀e∈c.pre++entI a,klt e.1 k=true)∧(∀e∈entI b++c.suf,klt k e.1=true)∧(∀lo' hi',c.bnd lo' hi'→klt k lo'=false∧ltB k hi'):=by
 have hb:BI c.lo x.its c.hi:=hW.sx.wf.at;obtain⟨a,b,h1,h2,h3,h4⟩:=BI_split (k:=k) hb;obtain⟨lo',hi',hc,-⟩:=hW.sx.wf.bnd;obtain⟨e1,e2⟩:=bnd_eq c hc;refine⟨a,b,h1,h2,h3,h4,fun e he=>?_,fun e he=>?_,fun lo2 hi2 hc2=>?_⟩
 ·rcases List.mem_append.1 he with he|he
  ·have:=pre_lt c hc e he;rw[e1] at this;exact klt_le this hW.k1
  ·obtain⟨i,hi,rfl⟩:=List.mem_map.1 he;exact h3 i hi
 ·rcases List.mem_append.1 he with he|he
  ·obtain⟨i,hi,rfl⟩:=List.mem_map.1 he;exact h4 i hi
  ·have:=suf_gt c hc e he;rw[e2] at this;exact klt_le (hW.k2.resolve_left this.1) this.2
 ·obtain⟨e3,e4⟩:=bnd_eq c hc2;rw[e3,e4];exact⟨hW.k1,hW.k2⟩
theorem pgs_few (h:okI i):i.pgs.length≤3:=by
 rw[h.pgs];have:=h.val;split<;>omega
theorem hdB_z (l0:List PN)(z z':PN)(h:z'.b=z.b)(t t':Nat):hdB (l0++[z']) t'=hdB (l0++[z]) t:=by
 cases l0 with
 | nil=>exact h
 | cons a r=>rfl
theorem rowP_z (l0:List PN)(z z':PN)(h:z'.p=z.p):rowP (l0++[z'])=rowP (l0++[z]):=by simp[rowP,h]
theorem erase_mid {b:List It}:((a++j::b).map cellI).eraseIdx a.length=(a++b).map cellI:=by
 rw[List.map_append,List.eraseIdx_append_of_length_le (by simp)];simp
theorem ins_mid {b:List It}:insL ((a++b).map cellI) a.length (cellI j)=(a++j::b).map cellI:=by
 unfold insL;rw[List.map_append,List.take_left' (by simp),List.drop_left' (by simp)];simp
theorem Way.take {lo:Nat}{b:List It}(hW:Way w A fl pages os es rt lo c x (l0++[z]) k)(h:TS w B D Gp V K pk m A fl pages)(hm:m≤35000)(ht:TB w tb Gp root)(hnz:NDb w z.b w.heap.size z.p (nvT 0 x c.lo c.hi 0))(hits:x.its=a++j::b)(hcx:(cellsT 0 x).length≤1000)(hY:Below w.heap.size w Y):Calls Tryz.prog 96 #[(.pointer (some ⟨tb,0,none⟩)),(.pointer (some ⟨z.p,0,none⟩)),.int .i64 (a.length:Int)] Y fun e w'=>e=.returned (.tuple #[])∧∃(V':PV) (A':Nat→PgV) (fl':List Nat),TS w' B D Gp V' K pk (m+6) A' fl' pages∧TF z.b B w w' V V'∧Sx A' fl' pages os c (⟨x.num,x.link,a++b⟩:Lf) (c.pre++entI (a++b)++c.suf)∧NDb w' z.b w'.heap.size z.p (nvT 0 (⟨x.num,x.link,a++b⟩:Lf) c.lo c.hi 0)∧NRs w' z.p (nvT 0 (⟨x.num,x.link,a++b⟩:Lf) c.lo c.hi 0):=by
 have hx:x=(⟨x.num,x.link,a++j::b⟩:Lf):=by rw[←hits]
 have hbx:BI c.lo x.its c.hi:=hW.sx.wf.at;have hj:okI j:=(BI_mem hbx j (by rw[hits];simp)).1;have hsx:=hW.sx;rw[hx] at hsx;have hcells:cellsT 0 x=(a++j::b).map cellI:=by show x.its.map cellI=_;rw[hits]
 have hlt:a.length<(cellsT 0 x).length:=by rw[hcells];simp
 have htx:tx (cellsT 0 x) a.length=cellI j:=by
  rw[hcells,tx_map cellI (by simp)];simp
 have hA:∀q∈nodI j,A q.1=q.2:=fun q hq=>hsx.rep q (by
  show q∈(a++j::b).flatMap nodI++c.nod x.num;simp[List.flatMap_append,hq])
 refine(ctake (h.below hY).1 hm (h.stayTB (h.below hY).2 ht) (hnz.below hY) a.length hlt hcx j hj htx hA (hsx.held hj)).mono ?_;rintro e w'⟨rfl,V',A',fl',q1,q2,q3,q4,q5,q6⟩;have hnv:({ nvT 0 x c.lo c.hi 0 with cells:=(nvT 0 x c.lo c.hi 0).cells.eraseIdx a.length }:NV)=nvT 0 (⟨x.num,x.link,a++b⟩:Lf) c.lo c.hi 0:=by
  show(⟨1,x.link,(cellsT 0 x).eraseIdx a.length,x.num,c.lo,c.hi,0⟩:NV)=⟨1,x.link,(a++b).map cellI,x.num,c.lo,c.hi,0⟩;rw[hcells,erase_mid]
 rw[hnv] at q5 q6;exact⟨rfl,V',A',fl',q1.mono (by have:=pgs_few hj;omega),(h.tf (h.below hY).2 z.b).trans q2,hsx.takeOut hj q3 q4,q5,q6⟩
theorem Way.settle {w0:World}{V0:PV}{A2:Nat→PgV}{fl2:List Nat}{pages2 m2:Nat}{es2:List Ent}{R:List Ent→Prop}(hW:Way w A fl pages os es rt w0.heap.size c x (l0++[z]) k)(h0:St2 w0 w B V0 V)(hB:B≤w0.heap.size)(hdl:l0.length=d)(hd:d≤20)(hm2:m2≤m+15)(hm:m≤28000)(hp2:pages2≤pages+3)(hpg:pages≤55000)(h:TS W B D Gp V2 K pk m2 A2 fl2 pages2)(ht:TB w tb Gp root)(htf:TF z.b B w W V V2)(hpm:PM w l0 z.b)(hl0:l0.map (·.v)=c.nvs (numT 0 x))(hlo:w0.heap.size≤hdB (l0++[z]) w.heap.size)(hhd:hdB (l0++[z]) w.heap.size≤z.b)(hsx:Sx A2 fl2 pages2 os c x1 es2)(hus:usedC (cellsT 0 x1)≤1300)(hnum:numT 0 x1=numT 0 x)(hlk:x1.link≤2147483647)(hnd:NDb W z.b W.heap.size z.p (nvT 0 x1 c.lo c.hi 0))(hnn:NRs W z.p (nvT 0 x1 c.lo c.hi 0))(hrow:w.ownsRow w0.heap.size 94 1 s (l0++[z]).length (rowP (l0++[z])))(hR:R es2):Calls Tryz.prog 99 #[(.pointer (some ⟨tb,0,none⟩)),s] W fun e w'=>e=.returned (.tuple #[])∧putPost w0 B D Gp V0 K pk m pages os rt d R w':=by
 have hS:=mkStl (rt:=rt) hsx hus hW.two hW.rt hnum hlk hpm htf hl0 hnd hnn;have hr2:=htf.row hrow;rw[←rowP_z l0 z ⟨z.b,z.p,nvT 0 x1 c.lo c.hi 0⟩ rfl] at hr2;have hlen:(l0++[(⟨z.b,z.p,nvT 0 x1 c.lo c.hi 0⟩:PN)]).length=(l0++[z]).length:=by simp
 rw[←hlen] at hr2;have hlen2:(l0++[(⟨z.b,z.p,nvT 0 x1 c.lo c.hi 0⟩:PN)]).length=d+1:=by simp[hdl]
 refine(ctsettle h (by rw[hlen2];omega) (by rw[hlen2];omega) (htf.stayTB ht) hS hr2).mono ?_;rintro e w'⟨rfl,V',A',fl',pages',d',t,q1,q2,q3,q4,q5⟩;rw[hlen2] at q1 q5;rw[hdB_z l0 z ⟨z.b,z.p,nvT 0 x1 c.lo c.hi 0⟩ rfl w.heap.size] at q4;exact⟨rfl,V',A',fl',pages',d',t,es2,q1.mono (by omega),q2,q3,hR,(((htf.mono hhd).trans q4).st w0 V0 h0 hlo hB),by omega⟩
theorem ctdelete (h:TS w B D Gp V K pk m A fl pages)(hm:m≤28000)(hpg:pages≤55000){t:T d}(hT:Tr A fl pages os t es)(ht:TB w tb Gp (numT d t))(k:ByteArray)(hd:d≤20):Calls Tryz.prog 54 #[(.pointer (some ⟨tb,0,none⟩)),.string k] w fun e w'=>∃is:Bool,e=.returned (.bool is)∧putPost w B D Gp V K pk m pages os (numT d t) d (DelR es k is) w':=by
 have HPA:=hide (cpath h (by omega) hT ht k (by omega));have HT:=hide (show TS w B D Gp V K pk m A fl pages∧Tr A fl pages os t es∧TB w tb Gp (numT d t)∧m≤28000∧pages≤55000∧d≤20 from⟨h,hT,ht,hm,hpg,hd⟩);obtain⟨rt,hrt⟩:∃rt,numT d t=rt:=⟨_,rfl⟩;rw[hrt] at HPA;have HRT:=hide (hrt);clear h hT ht hrt;go_enter Tryz.func54,Tryz.ntmps54;go_wp2_with fail
 refine HPA.out.mono ?_;rintro e w1⟨V1,c,x,l,s,rfl,k1,k2,hW,hdep,hrow⟩;obtain⟨l0,z,rfl,hpm,hnz,hl0,hlk,hlo,hhd,hzs⟩:=hW.leaf k1;obtain⟨g,cap,rfl,hcl⟩:=rowP_last hrow;have hlen:l0.length=d:=by
  have q:=congrArg List.length hl0;rw[List.length_map] at q;have:=nvs_len c (numT 0 x);omega
 have hbx:Bnd 0 c.lo c.hi x:=hW.sx.wf.at;have hsort:=(keys_sort 0 hbx).2.1;have hcx:(cellsT 0 x).length≤1000:=used_few hW.ok.high;have HLA:=hide (clastN g 0 l0.length cap z.p w1 (by omega) hcl);have HFI:=hide (cfindN (NDb.nr hnz) (leaf_cells hbx) hcx (by show((cellsT 0 x).map keyB).Pairwise _;rw[leaf_keys hbx];exact hsort) k);have e1:(nvT 0 x c.lo c.hi 0).cells.map keyB=x.its.map (·.key):=leaf_keys hbx;rw[e1] at HFI;obtain⟨a,b,hab,hpos,ha,hb,hpre,hsuf,hkb⟩:=hW.about;rw[hpos] at HFI;have HK:=hide (show TS w1 B D Gp V1 K pk m A fl pages∧St2 w w1 B V V1∧Way w1 A fl pages os es rt w.heap.size c x (l0++[z]) k∧w1.ownsRow w.heap.size 94 1 (.slice (some ⟨g,0,none⟩) (l0.length+1) cap) (l0++[z]).length (rowP (l0++[z])) from⟨k1,k2,hW,hrow⟩);have HZ:=hide (show PM w1 l0 z.b∧NDb w1 z.b w1.heap.size z.p (nvT 0 x c.lo c.hi 0)∧l0.map (·.v)=c.nvs (numT 0 x)∧x.link≤2147483647∧w.heap.size≤hdB (l0++[z]) w1.heap.size∧hdB (l0++[z]) w1.heap.size≤z.b∧z.b≤w1.heap.size∧l0.length=d∧(cellsT 0 x).length≤1000 from⟨hpm,hnz,hl0,hlk,hlo,hhd,hzs,hlen,hcx⟩);have HQ:=hide (show(∀e∈c.pre++entI a,klt e.1 k=true)∧(∀e∈entI b++c.suf,klt k e.1=true) from⟨hpre,hsuf⟩);have hent:es=c.pre++entI x.its++c.suf:=hW.sx.wf.ent.symm;have HEN:=hide (hent);clear k1 k2 hW hdep hrow hpm hnz hl0 hlk hlo hhd hzs hlen hbx hsort hcx e1 hpos ha hb hpre hsuf hkb hcl HPA hent;rcases hab with⟨hits,hhas⟩ | ⟨j,hjk,hits,hhas⟩
 ·rw[hhas] at HFI;have HE:Hid (∀Y,Below w1.heap.size w1 Y→putPost w B D Gp V K pk m pages os rt d (DelR es k false) Y):=fun Y hY=>by
   obtain⟨k1,k2,hW,hrow⟩:=HK.out;refine⟨V1,A,fl,pages,d,t,es,((k1.below hY).1).mono (by omega),HT.out.2.1,HRT.out,⟨c.pre++entI a,entI b++c.suf,.inl ⟨?_,rfl⟩,?_,HQ.out.1,HQ.out.2⟩,k2.trans (k1.below hY).2,by omega⟩
   ·rw[HEN.out,hits];simp[entI]
   ·rw[HEN.out,hits];simp[entI]
  clear hits hhas;go_wp2_with fail
  refine HLA.out.mono ?_;rintro e w2⟨rfl,hw⟩;rw[hw];clear hw;go_wp2_with fail
  refine HFI.out.mono ?_;rintro e w3⟨rfl,hb3⟩;have HE2:=hide (HE.out _ hb3);clear hb3;go_wp2_with fail
  go_ret;exact⟨false,rfl,by rw[HRT.out];exact HE2.out⟩
 ·rw[hhas] at HFI;clear hhas;go_wp2_with fail
  refine HLA.out.mono ?_;rintro e w2⟨rfl,hw⟩;rw[hw];clear hw;go_wp2_with fail
  refine HFI.out.mono ?_;rintro e w3⟨rfl,hb3⟩;obtain⟨k1,k2,hW,hrow⟩:=HK.out;obtain⟨z1,z2,z3,z4,z5,z6,z7,z8,z9⟩:=HZ.out;obtain⟨t1,t2,t3,t4,t5,t6⟩:=HT.out;have HTK:=hide (hW.take k1 (by omega) (t1.stayTB k2 t3) z2 hits z9 hb3);have HIT:=hide (show x.its=a++j::b∧j.key=k from⟨hits,hjk⟩);have HST:=hide (fun(W:World) (V2:PV) (A2:Nat→PgV) (fl2:List Nat) (q1:TS W B D Gp V2 K pk (m+6) A2 fl2 pages) (q2:TF z.b B w1 W V1 V2) (q3:Sx A2 fl2 pages os c (⟨x.num,x.link,a++b⟩:Lf) (c.pre++entI (a++b)++c.suf)) (q4:NDb W z.b W.heap.size z.p (nvT 0 (⟨x.num,x.link,a++b⟩:Lf) c.lo c.hi 0)) (q5:NRs W z.p (nvT 0 (⟨x.num,x.link,a++b⟩:Lf) c.lo c.hi 0)) =>
   hW.settle (R:=DelR es k true) (d:=d) k2 t1.lo z8 t6 (show m+6≤m+15 by omega) t4 (show pages≤pages+3 by omega) t5 q1 (t1.stayTB k2 t3) q2 z1 z3 z5 z6 q3 (by
    have hu:=hW.ok.high;have e1:cellsT 0 x=(a++j::b).map cellI:=by show x.its.map cellI=_;rw[hits]
    have e2:cellsT 0 (⟨x.num,x.link,a++b⟩:Lf)=(cellsT 0 x).eraseIdx a.length:=by rw[e1,erase_mid];rfl
    rw[e2];have:=used_erase (cellsT 0 x) a.length;omega) rfl z4 q4 q5 hrow ⟨c.pre++entI a,entI b++c.suf,.inr ⟨j.val,by rw[HEN.out,hits];simp[entI,hjk],rfl⟩,by simp[entI],HQ.out.1,HQ.out.2⟩)
  clear k1 k2 hW hrow z1 z2 z3 z4 z5 z6 z7 z8 z9 t1 t2 t3 t4 t5 t6 hb3 hits hjk;go_wp2_with fail
  refine HTK.out.mono ?_;rintro e w4⟨rfl,V4,A4,fl4,q1,q2,q3,q4,q5⟩;have HS4:=hide (HST.out _ _ _ _ q1 q2 q3 q4 q5);clear q1 q2 q3 q4 q5 HST HTK;go_wp2_with fail
  refine HS4.out.mono ?_;rintro e w5⟨rfl,hpost⟩;have HE:=hide (hpost);clear hpost;go_wp2_with fail
  go_ret;exact⟨true,rfl,by rw[HRT.out];exact HE.out⟩
end
structure LfS (w Y:World) (B D Gp:Nat) (V VY:PV) (K:Pgs) (pk m:Nat) (A:Nat→PgV) (fl:List Nat) (pages:Nat) (os:List Nat) (c:Cx 0) (x:T 0) (a b:List It) (z:PN):Prop where
 ts:TS Y B D Gp VY K pk m A fl pages
 tf:TF z.b B w Y V VY
 sx:Sx A fl pages os c (⟨x.num,x.link,a++b⟩:Lf) (c.pre++entI (a++b)++c.suf)
 nd:NDb Y z.b Y.heap.size z.p (nvT 0 (⟨x.num,x.link,a++b⟩:Lf) c.lo c.hi 0)
section
variable {VY:PV}{pk:Nat}{b:List It}
theorem Sx.heldAll (h:Sx A fl pages os c (⟨x.num,x.link,a++b⟩:Lf) es):Hold fl pages (heldX c x.num (a++b) os):=h.perm
structure LfP (w Y:World) (B D Gp:Nat) (V VY:PV) (K:Pgs) (pk m:Nat) (A:Nat→PgV) (fl:List Nat) (pages:Nat) (os:List Nat) (c:Cx 0) (x:T 0) (a b:List It) (i:It) (z:PN):Prop where
 ts:TS Y B D Gp VY K pk m A fl pages
 tf:TF z.b B w Y V VY
 sx:Sx A fl pages os c (⟨x.num,x.link,a++i::b⟩:Lf) (c.pre++entI (a++i::b)++c.suf)
 nd:NDb Y z.b Y.heap.size z.p (nvT 0 (⟨x.num,x.link,a++i::b⟩:Lf) c.lo c.hi 0)
theorem ctput (h:TS w B D Gp V K pk m A fl pages)(hm:m≤28000)(hpg:pages≤55000){t:T d}(hT:Tr A fl pages os t es)(ht:TB w tb Gp (numT d t))(k v:ByteArray)(hk:okK k)(hv:v.size≤3000)(hd:d≤20):Calls Tryz.prog 52 #[(.pointer (some ⟨tb,0,none⟩)),.string k,.string v] w fun e w'=>e=.returned (.tuple #[])∧putPost w B D Gp V K pk m pages os (numT d t) d (PutR es k v) w':=by
 have HPA:=hide (cpath h (by omega) hT ht k (by omega));have HT:=hide (show TS w B D Gp V K pk m A fl pages∧TB w tb Gp (numT d t)∧m≤28000∧pages≤55000∧d≤20 from⟨h,ht,hm,hpg,hd⟩);have HV:=hide (show okK k∧v.size≤3000 from⟨hk,hv⟩);obtain⟨rt,hrt⟩:∃rt,numT d t=rt:=⟨_,rfl⟩;rw[hrt] at HPA HT ⊢;clear h hT ht hrt hk hv;go_enter Tryz.func52,Tryz.ntmps52;go_wp2_with fail
 refine HPA.out.mono ?_;rintro e w1⟨V1,c,x,l,s,rfl,k1,k2,hW,hdep,hrow⟩;obtain⟨l0,z,rfl,hpm,hnz,hl0,hlk,hlo,hhd,hzs⟩:=hW.leaf k1;obtain⟨g,cap,rfl,hcl⟩:=rowP_last hrow;have hlen:l0.length=d:=by
  have q:=congrArg List.length hl0;rw[List.length_map] at q;have:=nvs_len c (numT 0 x);omega
 have hbx:Bnd 0 c.lo c.hi x:=hW.sx.wf.at;have hsort:=(keys_sort 0 hbx).2.1;have hcx:(cellsT 0 x).length≤1000:=used_few hW.ok.high;have HLA:=hide (clastN g 0 l0.length cap z.p w1 (by omega) hcl);have HFI:=hide (cfindN (NDb.nr hnz) (leaf_cells hbx) hcx (by show((cellsT 0 x).map keyB).Pairwise _;rw[leaf_keys hbx];exact hsort) k);have e1:(nvT 0 x c.lo c.hi 0).cells.map keyB=x.its.map (·.key):=leaf_keys hbx;rw[e1] at HFI;obtain⟨a,b,hab,hpos,ha,hb,hpre,hsuf,hkb⟩:=hW.about;rw[hpos] at HFI;have hent:es=c.pre++entI x.its++c.suf:=hW.sx.wf.ent.symm;obtain⟨t1,t2,t3,t4,t5⟩:=HT.out;have htb:=t1.stayTB k2 t2;have hue:usedC ((a++b).map cellI)≤1012:=by
  have hu:=hW.ok.high;rcases hab with⟨q,_⟩ | ⟨j,_,q,_⟩
  ·have e2:cellsT 0 x=(a++b).map cellI:=by show x.its.map cellI=_;rw[q]
   rw[←e2];exact hu
  ·have e2:cellsT 0 x=(a++j::b).map cellI:=by show x.its.map cellI=_;rw[q]
   have:=used_erase (cellsT 0 x) a.length;rw[e2,erase_mid] at this;rw[e2] at hu;omega
 have hab2:es=(c.pre++entI a)++(entI b++c.suf)∨∃v0,es=(c.pre++entI a)++(k,v0)::(entI b++c.suf):=by
  rcases hab with⟨q,_⟩|⟨j,hj,q,_⟩
  ·exact .inl (by rw[hent,q];simp[entI])
  ·exact .inr ⟨j.val,by rw[hent,q];simp[entI,hj]⟩
 have hlen2:((a++b).map cellI).length≤400:=by have:=used_len4 (l:=(a++b).map cellI);omega
 have HEN:=hide (fun(Y:World) (VY:PV) (A1:Nat→PgV) (fl1:List Nat) (hY:LfS w1 Y B D Gp V1 VY K pk (m+6) A1 fl1 pages os c x a b z)=>centry hY.ts (by omega) (by omega) (hY.tf.stayTB htb) k v HV.out.1 HV.out.2 hY.sx.heldAll);have HIN:=hide (fun(X:World) (hX:NDb X z.b X.heap.size z.p (nvT 0 (⟨x.num,x.link,a++b⟩:Lf) c.lo c.hi 0)) (ci:ByteArray)=>cinsertN hX (by obtain⟨_,_,_,q1,q2,_⟩:=hX;omega) (show((a++b).map cellI).length≤1000 by omega) a.length (show a.length≤((a++b).map cellI).length by simp) ci);have HPI:=hide (fun(Y X Z:World) (VY VX:PV) (A1 A2:Nat→PgV) (fl1 fl2:List Nat) (pages2:Nat) (i:It) (hY:LfS w1 Y B D Gp V1 VY K pk (m+6) A1 fl1 pages os c x a b z) (j1:i.key=k) (j3:okI i) (j5:TS X B D Gp VX K pk (m+6+9) A2 fl2 pages2) (j6:St2 Y X B VY VX) (j7:Hold fl2 pages2 (i.pgs++heldX c x.num (a++b) os)) (j8:∀q∈nodI i,A2 q.1=q.2) (j9:∀y,¬y=0→¬y∈i.pgs→A2 y=A1 y) (i1:NDb Z z.b Z.heap.size z.p { nvT 0 (⟨x.num,x.link,a++b⟩:Lf) c.lo c.hi 0 with cells:=insL ((a++b).map cellI) a.length (cellI i)}) (i2:NF z.b X Z) =>
  (show LfP w1 Z B D Gp V1 VX K pk (m+15) A2 fl2 pages2 os c x a b i z from⟨i2.ts j5,(hY.tf.trans (hY.ts.tf j6 z.b)).trans (i2.tf j5),hY.sx.putIn j3 (by rw[j1];exact hkb) (by rw[j1];exact ha) (by rw[j1];exact hb) j7 j8 j9,by
   rw[ins_mid] at i1;exact i1⟩))
 have HST:=hide (fun(Z:World) (VZ:PV) (A2:Nat→PgV) (fl2:List Nat) (pages2:Nat) (i:It) (hp2:pages2≤pages+3) (j1:i.key=k) (j2:i.val=v) (j3:okI i) (hZ:LfP w1 Z B D Gp V1 VZ K pk (m+15) A2 fl2 pages2 os c x a b i z) =>
  hW.settle (x1:=(⟨x.num,x.link,a++i::b⟩:Lf)) (R:=PutR es k v) (d:=d) k2 t1.lo hlen t5 (show m+15≤m+15 by omega) t3 hp2 t4 hZ.ts htb hZ.tf hpm hl0 hlo hhd hZ.sx (by
   show usedC ((a++i::b).map cellI)≤1300;rw[List.map_append,List.map_cons,usedC_app,usedC_cons];rw[List.map_append,usedC_app] at hue;have:=cellI_sz j3;omega) rfl hlk hZ.nd (hZ.nd.nr.s (show 0<((a++i::b).map cellI).length by simp;omega)) hrow ⟨c.pre++entI a,entI b++c.suf,hab2,by simp[entI,j1,j2],hpre,hsuf⟩)
 have HL0:Hid (∀Y,Below w1.heap.size w1 Y→x.its=a++b→LfS w1 Y B D Gp V1 V1 K pk (m+6) A fl pages os c x a b z):=fun Y hY hits=>by
  have hx:x=(⟨x.num,x.link,a++b⟩:Lf):=by rw[←hits]
  have hsx:=hW.sx;rw[hent,hits] at hsx;have hn2:=(hnz.below hY).up hY.size;rw[hx] at hsx hn2;exact⟨((k1.below hY).1).mono (by omega),k1.tf (k1.below hY).2 z.b,hsx,hn2⟩
 have HL1:Hid (∀Y W V' A' fl',TS W B D Gp V' K pk (m+6) A' fl' pages→TF z.b B w1 W V1 V'→Sx A' fl' pages os c (⟨x.num,x.link,a++b⟩:Lf) (c.pre++entI (a++b)++c.suf)→NDb W z.b W.heap.size z.p (nvT 0 (⟨x.num,x.link,a++b⟩:Lf) c.lo c.hi 0)→Below w1.heap.size w1 Y→LfS w1 W B D Gp V1 V' K pk (m+6) A' fl' pages os c x a b z):=fun Y W V' A' fl' q1 q2 q3 q4 _=>⟨q1,q2,q3,q4⟩
 have HTK:=hide (fun(Y:World) (hY:Below w1.heap.size w1 Y) (j:It) (hits:x.its=a++j::b)=>hW.take k1 (by omega) htb hnz hits hcx hY);clear k1 k2 hW hdep hrow hpm hnz hl0 hlk hlo hhd hzs hlen hbx hsort hcx e1 hpos ha hb hpre hsuf hkb hcl HPA hent t1 t2 t3 t4 t5 htb hue hab2 hlen2;rcases hab with⟨hits,hhas⟩ | ⟨j,hjk,hits,hhas⟩
 ·rw[hhas] at HFI;have HIT:=hide (hits);clear hits hhas;go_wp2_with fail
  refine HLA.out.mono ?_;rintro e w2⟨rfl,hw⟩;rw[hw];clear hw;go_wp2_with fail
  refine HFI.out.mono ?_;rintro e w3⟨rfl,hb3⟩;have HLF:=hide (HL0.out _ hb3 HIT.out);clear hb3;go_wp2_with fail
  refine(HEN.out _ _ _ _ HLF.out).mono ?_;rintro e w4⟨ci,rfl,i,V4,A4,fl4,pg4,j1,j2,j3,rfl,j5,j6,j7,j8,j9,j10⟩;have HI4:=hide (HIN.out _ ((HLF.out.ts.stayNDb j6 HLF.out.nd).up j6.bel.size) (cellI i));have HJ:=hide (show i.key=k∧i.val=v∧okI i∧TS w4 B D Gp V4 K pk (m+6+9) A4 fl4 pg4∧St2 w3 w4 B V1 V4∧Hold fl4 pg4 (i.pgs++heldX c x.num (a++b) os)∧(∀q∈nodI i,A4 q.1=q.2)∧(∀y,¬y=0→¬y∈i.pgs→A4 y=A y)∧pg4≤pages+3 from⟨j1,j2,j3,j5,j6,j7,j8,j9,j10⟩);clear j1 j2 j3 j5 j6 j7 j8 j9 j10;go_wp2_with fail
  refine HI4.out.mono ?_;rintro e w5⟨rfl,i1,i2⟩;obtain⟨j1,j2,j3,j5,j6,j7,j8,j9,j10⟩:=HJ.out;have HS5:=hide (HST.out _ _ _ _ _ i j10 j1 j2 j3 (HPI.out _ _ _ _ _ _ _ _ _ _ i HLF.out j1 j3 j5 j6 j7 j8 j9 i1 i2));clear j1 j2 j3 j5 j6 j7 j8 j9 j10 i1 i2 HI4;go_wp2_with fail
  refine HS5.out.mono ?_;rintro e w6⟨rfl,hpost⟩;have HE:=hide (hpost);clear hpost;go_wp2;go_end0;exact⟨rfl,HE.out⟩
 ·rw[hhas] at HFI;have HIT:=hide (hits);clear hits hhas;go_wp2_with fail
  refine HLA.out.mono ?_;rintro e w2⟨rfl,hw⟩;rw[hw];clear hw;go_wp2_with fail
  refine HFI.out.mono ?_;rintro e w3⟨rfl,hb3⟩;have HT3:=hide (HTK.out _ hb3 j HIT.out);have HB3:=hide (hb3);clear hb3;go_wp2_with fail
  refine HT3.out.mono ?_;rintro e w7⟨rfl,V7,A7,fl7,q1,q2,q3,q4,q5⟩;have HLF:=hide (HL1.out _ _ _ _ _ q1 q2 q3 q4 HB3.out);clear q1 q2 q3 q4 q5 HT3;go_wp2_with fail
  refine(HEN.out _ _ _ _ HLF.out).mono ?_;rintro e w4⟨ci,rfl,i,V4,A4,fl4,pg4,j1,j2,j3,rfl,j5,j6,j7,j8,j9,j10⟩;have HI4:=hide (HIN.out _ ((HLF.out.ts.stayNDb j6 HLF.out.nd).up j6.bel.size) (cellI i));have HJ:=hide (show i.key=k∧i.val=v∧okI i∧TS w4 B D Gp V4 K pk (m+6+9) A4 fl4 pg4∧St2 w7 w4 B V7 V4∧Hold fl4 pg4 (i.pgs++heldX c x.num (a++b) os)∧(∀q∈nodI i,A4 q.1=q.2)∧(∀y,¬y=0→¬y∈i.pgs→A4 y=A7 y)∧pg4≤pages+3 from⟨j1,j2,j3,j5,j6,j7,j8,j9,j10⟩);clear j1 j2 j3 j5 j6 j7 j8 j9 j10;go_wp2_with fail
  refine HI4.out.mono ?_;rintro e w5⟨rfl,i1,i2⟩;obtain⟨j1,j2,j3,j5,j6,j7,j8,j9,j10⟩:=HJ.out;have HS5:=hide (HST.out _ _ _ _ _ i j10 j1 j2 j3 (HPI.out _ _ _ _ _ _ _ _ _ _ i HLF.out j1 j3 j5 j6 j7 j8 j9 i1 i2));clear j1 j2 j3 j5 j6 j7 j8 j9 j10 i1 i2 HI4;go_wp2_with fail
  refine HS5.out.mono ?_;rintro e w6⟨rfl,hpost⟩;have HE:=hide (hpost);clear hpost;go_wp2;go_end0;exact⟨rfl,HE.out⟩
end
theorem ccatch (p:Addr)(w:World):CallsD Tryz.prog 71 #[.pointer (some p)] .returning w fun e u' w'=>e=.returned (.tuple #[])∧u'=.returning∧w'=w:=by
 refine callsD_of_wpS Tryz.func71 rfl fun c₀ cs hu=>?_
 apply wpS_seq;apply wpS_region;simp[wpOpsS,go_sem,recoverD,hu,Tryz.ntmps71,Exit.thenS];apply wpS_seq;apply wpS_seq;apply wpS_region;simp[wpOpsS,go_sem,Exit.thenS];refine wpS_cond (t:=true) (by simp[Act.eval,Array.replicate]) ?_;simp only[if_true];refine wpS_of_wp (wp_ret ?_);cases c₀
 simp_all [bodyPostS,results,Tryz.results71,Exit.thenS]
theorem ccaught (f:Nat)(hen:∀args w,(callFunc f args).run Tryz.prog w=.ok (.enter f args) w)(caps:Array Value)(w:World)(tb Gp root:Nat)(ht:TB w tb Gp root)(Q:World→Prop)(hdo:Calls Tryz.prog f caps (w.alloc (.cells #[.int .i64 0] 26)) fun e w'=>e=.returned (.tuple #[])∧Q w')(hbox:∀w',Q w'→w'.heap[w.heap.size]?=some (.cells #[.int .i64 0] 26 (0,0))):Calls Tryz.prog 30 #[(.pointer (some ⟨tb,0,none⟩)),.func (.func f) #[] caps] w fun e w'=>e=.returned (.int .i64 0)∧∃w1,Q w1∧w'=w1.setCell ⟨w.heap.size,0,none⟩ (.int .i64 0):=by
 have hmf:∀(fn:Fn) (first cap:Array Value) (w:World),(Instr.makeFunc fn first cap).run Tryz.prog w=.ok (.func fn first cap) w:=fun _ _ _ _=>rfl
 obtain⟨t0,t1,t2⟩:=ht.cells;have HD:=hide (hdo);have HB:=hide (hbox);clear ht hdo hbox
 go_enter_defers Tryz.func30,Tryz.ntmps30
 go_wp2_with fail
 refine HD.out.mono ?_;rintro e w1⟨rfl,hq⟩;have hb:=HB.out _ hq;have c0:w1.cell? ⟨w.heap.size,0,none⟩=some (.int .i64 0):=by simp[World.cell?,hb]
 have z0:w1.frozen? ⟨w.heap.size,0,none⟩=false:=by simp[World.frozen?,hb]
 have HQ:=hide (hq);clear hq hb HD HB;go_wp2;refine leaves_cons (f:=71) (args:=#[(.pointer (some ⟨w.heap.size,0,none⟩))]) (by simp) (by simp[go_sem]) ?_;refine(ccatch ⟨w.heap.size,0,none⟩ _).mono ?_;rintro e u' w''⟨rfl,rfl,rfl⟩;have hcell:(w1.setCell ⟨w.heap.size,0,none⟩ (.int .i64 0)).cell? ⟨w.heap.size,0,none⟩=some (.int .i64 0):=by go_simp
 have HQ2:Hid (∃w2,Q w2∧w1.setCell ⟨w.heap.size,0,none⟩ (.int .i64 0)=w2.setCell ⟨w.heap.size,0,none⟩ (.int .i64 0)):=⟨w1,HQ.out,rfl⟩;generalize w1.setCell ⟨w.heap.size,0,none⟩ (.int .i64 0)=W at *;simp[Leaves,settle,results,Tryz.results30,go_sem,hcell];exact HQ2.out
def pgsI (l:List It):List Nat:=l.flatMap (·.pgs)
theorem leaf_pgs:∀{l:List It},BI lo l hi→(l.flatMap nodI).map (·.1)=pgsI l
 | [],_=>rfl
 | i :: r, ⟨h1, _, _, _, h5⟩ => by
  simp only[pgsI,List.flatMap_cons,List.map_append,nodI_fst h1]
  congr 1
  exact leaf_pgs h5
def numsT (d:Nat)(x:T d):List Nat:=(nodT d x).map (·.1)
def drPost (w:World)(B D Gp:Nat)(V:PV)(K:Pgs)(pk m:Nat)(A:Nat→PgV)(pages:Nat)(ps X:List Nat)(w':World):Prop:=
 ∃(V':PV) (A':Nat→PgV) (fl':List Nat),TS w' B D Gp V' K pk (m+2*ps.length) A' fl' pages∧St2 w w' B V V'∧Hold fl' pages X∧∀y,¬y=0→¬y∈ps→A' y=A y
theorem cchildren (h:NR w p v)(hl:v.cells.length≤1000):Calls Tryz.prog 102 #[(.pointer (some ⟨p,0,none⟩))] w fun e w'=>e=.returned (.int .i64 ((v.cells.length+1:Nat):Int))∧w'=w:=by
 obtain⟨a,c,nb,st⟩:=h;obtain⟨u0,u1,u2,u3,u4,u5,u6,u7,u8⟩:=nb.cells;obtain⟨cl,hcl⟩:∃cl,v.cells.length=cl:=⟨_,rfl⟩;rw[hcl] at u2 hl ⊢;have hw:wrap64 ((cl:Int)+1)=((cl+1:Nat):Int):=by unfold wrap64;omega
 clear nb st u0 u1 u3 u4 u5 u6 u7 hcl;go_enter Tryz.func102,Tryz.ntmps102;go_wp2;go_ret;exact⟨by simp,rfl⟩
section
variable {pk:Nat}
theorem cdrop0 (h:TS w B D Gp V K pk m A fl pages)(hm:m+2*(numsT 0 x).length≤38000)(ht:TB w tb Gp root)(hn:NR w p (nvT 0 x lo hi tk))(hb:Bnd 0 lo hi x)(hu:usedC (cellsT 0 x)≤1012)(hA:∀q∈nodT 0 x,A q.1=q.2)(hX:Hold fl pages (numsT 0 x++X)):Calls Tryz.prog 59 #[(.pointer (some ⟨tb,0,none⟩)),(.pointer (some ⟨p,0,none⟩))] w fun e w'=>e=.returned (.tuple #[])∧drPost w B D Gp V K pk m A pages (numsT 0 x) X w':=by
 have hbi:BI lo x.its hi:=hb;have hnums:numsT 0 x=x.num::pgsI x.its:=by
  show x.num::(x.its.flatMap nodI).map (·.1)=_;rw[leaf_pgs hbi]
 obtain⟨a,c,nb,st⟩:=hn;obtain⟨u0,u1,u2,u3,u4,u5,u6,u7,u8⟩:=nb.cells
 replace u0:w.cell? ⟨p,0,none⟩=some (.int .i64 (1:Nat)):=u0
 replace u2:w.cell? ⟨p,2,none⟩=some (.slice a (x.its.map cellI).length c):=u2
 have hlen:(x.its.map cellI).length=x.its.length:=by simp
 rw[hlen] at u2;have hl4:x.its.length≤400:=by have:=used_len4 (l:=cellsT 0 x);have e1:(cellsT 0 x).length=x.its.length:=hlen;omega
 have hX2:Hold fl pages (pgsI x.its++(x.num::X)):=by
  rw[hnums] at hX;exact(List.Perm.cons _ (List.Perm.append_left _ List.perm_middle)).trans hX
 have hmem:=hX2.mem (n:=x.num) (by simp);have H:=hide (show TS w B D Gp V K pk m A fl pages∧TB w tb Gp root∧NB w p (nvT 0 x lo hi tk) (.slice a x.its.length c)∧StB w a (x.its.map cellI)∧BI lo x.its hi∧(∀i∈x.its,∀q∈nodI i,A q.1=q.2) from⟨h,ht,by have:=nb;rw[show(nvT 0 x lo hi tk).cells.length=x.its.length from hlen] at this;exact this,st,hbi,fun i hi q hq=>hA q (by
  show q∈(x.num,pgT 0 x)::x.its.flatMap nodI;exact List.mem_cons_of_mem _ (List.mem_flatMap.2 ⟨i,hi,hq⟩))⟩)
 have HN:=hide (show numsT 0 x=x.num::pgsI x.its∧m+2*(numsT 0 x).length≤38000∧Hold fl pages (pgsI x.its++(x.num::X)) from⟨hnums,hm,hX2⟩);obtain⟨its,hits⟩:∃its,x.its=its:=⟨_,rfl⟩;rw[hits] at u2 H HN hl4;have HIT:=hide (hits);clear h ht nb st hb hbi hA hX hX2 hnums hlen hu hm hmem hits u1 u3 u4 u5 u6 u7;go_enter Tryz.func59,Tryz.ntmps59;go_wp2_with fail
 go_loopw [19] (fun x19 Y=>∃(j:Nat) (Vj:PV) (Aj:Nat→PgV) (flj:List Nat),x19=.int .i64 (j:Int)∧j≤its.length∧Hid (TS Y B D Gp Vj K pk (m+2*(pgsI (its.take j)).length) Aj flj pages∧St2 w Y B V Vj∧Hold flj pages (pgsI (its.drop j)++(x.num::X))∧∀y,¬y=0→¬y∈pgsI (its.take j)→Aj y=A y)) (fun x19 _=>its.length-(intOf x19).toNat)
 case atStart=>exact⟨0,V,A,fl,rfl,Nat.zero_le _,⟨H.out.1,St2.refl _ _ _,HN.out.2.2,fun _ _ _=>rfl⟩⟩
 case round =>
  obtain⟨j,Vj,Aj,flj,rfl,hj,HJ⟩:=hrel;by_cases hjc:j<its.length
  ·have hlt:(j:Int)<(its.length:Int):=by omega
   have h0:(0:Int)≤(j:Int):=by omega
   obtain⟨ij,hij⟩:∃ij,its[j]=ij:=⟨_,rfl⟩;obtain⟨k1,k2,k3,k4⟩:=HJ.out;obtain⟨h,ht,nb,st,hbi,hA⟩:=H.out;have hoi:okI ij:=(BI_mem hbi ij (by rw[←hij];exact List.getElem_mem hjc)).1;have hdr:its.drop j=ij::its.drop (j+1):=by rw[List.drop_eq_getElem_cons hjc,hij]
   have htk:pgsI (its.take (j+1))=pgsI (its.take j)++ij.pgs:=by rw[take_snoc hjc,hij];simp[pgsI]
   have hpd:pgsI (its.drop j)++(x.num::X)=ij.pgs++(pgsI (its.drop (j+1))++(x.num::X)):=by rw[hdr];simp[pgsI]
   rw[hpd] at k3;have hall:its=its.take j++ij::its.drop (j+1):=by rw[←hdr,List.take_append_drop]
   have hAj:∀q∈nodI ij,Aj q.1=q.2:=fun q hq=>by
    have hq1:q.1∈ij.pgs:=by rw[←nodI_fst hoi];exact List.mem_map_of_mem hq
    have hpos:=(k3.mem (n:=q.1) (List.mem_append_left _ hq1)).1;have hnd:=HN.out.2.2.nd;rw[k4 q.1 (by omega) (fun hin=>?_)]
    ·exact hA ij (by rw[←hij];exact List.getElem_mem hjc) q hq
    ·rw[hall] at hnd;simp only[pgsI,List.flatMap_append,List.flatMap_cons,List.nodup_cons,List.nodup_append] at hnd;exact hnd.2.2.1.1.2.2 _ hin _ (List.mem_append_left _ hq1) rfl
   have hmm:m+2*(pgsI (its.take j)).length≤38000:=by
    have e1:=congrArg (fun l=>(pgsI l).length) hall;simp only[pgsI,List.flatMap_append,List.length_append] at e1;have e2:=HN.out.2.1;rw[HN.out.1] at e2;simp only[pgsI,List.length_cons] at e2 ⊢;omega
   have HFV:=hide (cfreeValue k1 (by omega) (h.stayTB k2 ht) ij hoi hAj k3);have hst2:=h.staySt k2 st;have hcell:∃g off,a=some ⟨g,off,none⟩∧wr.cell? ⟨g,off+j,none⟩=some (.string (cellI ij)):=by
    rcases hst2 with e|⟨g,off,cur,e,hh,hc⟩
    ·rw[List.map_eq_nil_iff] at e;rw[e] at hjc;simp at hjc
    ·refine⟨g,off,e,?_⟩;have:=hc j (by simp;exact hjc);rw[tx_map cellI hjc,hij] at this;simp only[World.cell?,hh];exact this
   obtain⟨g,off,rfl,hcell⟩:=hcell;have HP:=hide (show j<its.length∧pgsI (its.take (j+1))=pgsI (its.take j)++ij.pgs from⟨hjc,htk⟩);generalize cellI ij=ci at *;clear k1 k2 k3 k4 h ht nb st hbi hA hoi hdr htk hpd hall hAj hst2 hij hj hmm;go_wp2_with fail
   refine HFV.out.mono ?_;rintro e w3⟨rfl,V3,A3,fl3,q1,q2,q3,q4⟩;have HNX:Hid (TS w3 B D Gp V3 K pk (m+2*(pgsI (its.take (j+1))).length) A3 fl3 pages∧St2 w w3 B V V3∧Hold fl3 pages (pgsI (its.drop (j+1))++(x.num::X))∧∀y,¬y=0→¬y∈pgsI (its.take (j+1))→A3 y=A y):=by
    obtain⟨k1,k2,k3,k4⟩:=HJ.out;refine⟨q1.mono (by rw[HP.out.2,List.length_append];omega),k2.trans q2,q3,fun y y0 hy=>?_⟩;rw[HP.out.2,List.mem_append] at hy;rw[q4 y y0 (fun e=>hy (.inr e)),k4 y y0 (fun e=>hy (.inl e))]
   clear q1 q2 q3 q4 HFV hcell;go_wp2_with fail
   go_roundw
   case rel=>exact⟨j+1,V3,A3,fl3,by go_num,HP.out.1,HNX⟩
   case measure=>simp[intOf];have:=HP.out.1;omega
  ·have hje:j=its.length:=by omega
   have hlt:¬(j:Int)<(its.length:Int):=by omega
   obtain⟨k1,k2,k3,k4⟩:=HJ.out;obtain⟨h,ht,nb,st,hbi,hA⟩:=H.out;have hd0:its.drop j=[]:=by rw[hje];exact List.drop_length
   have ht0:its.take j=its:=by rw[hje];exact List.take_length
   rw[hd0] at k3;rw[ht0] at k1 k4;have k3:Hold flj pages (x.num::X):=k3;have hmem:=k3.mem (n:=x.num) (by simp);have hmm:=HN.out.2.1;rw[HN.out.1,List.length_cons] at hmm;have HFR:=hide (ctfree k1 (by omega) (h.stayTB k2 ht) x.num hmem.1 hmem.2.1 hmem.2.2);have nb2:=h.stayNB k2 nb;obtain⟨u0,u1,u2,u3,u4,u5,u6,u7,u8⟩:=nb2.cells
   replace u3:wr.cell? ⟨p,3,none⟩=some (.int .i64 (x.num:Int)):=u3
   have HE:Hid (∀w3 V3,TS w3 B D Gp V3 K pk (m+2*(pgsI its).length+2) (updA (updA Aj x.num ⟨3,flj.headD 0,[]⟩) 0 ⟨4,x.num,[]⟩) (x.num::flj) pages→St2 wr w3 B Vj V3→drPost w B D Gp V K pk m A pages (numsT 0 x) X w3):=fun w3 V3 q1 q2=>by
    rw[HN.out.1];refine⟨V3,_,_,q1.mono (by simp only[List.length_cons];omega),k2.trans q2,Hold.toFree k3,fun y y0 hy=>?_⟩;rw[List.mem_cons,not_or] at hy;rw[updA_ne _ _ y0,updA_ne _ _ hy.1];exact k4 y y0 hy.2
   clear k1 k2 k3 k4 h ht nb st hbi hA hd0 ht0 hmem hmm nb2 u0 u1 u2 u4 u5 u6 u7 hj hjc hje;go_wp2_with fail
   refine HFR.out.mono ?_;rintro e w3⟨rfl,V3,q1,q2⟩;have HE2:=hide (HE.out _ _ q1 q2);clear q1 q2;go_wp2;go_end0;exact⟨rfl,HE2.out⟩
end
end Go.Proofs.YtiaibgfhigdgdaaGreat
