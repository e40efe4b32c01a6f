/- a part -/
import Derived.Test.YtiaibgfhigdgdaaGreatM22
import Derived.Deep.CutBlock
import Derived.ProofKit
import Derived.OpenShut
import Derived.ChangeSlices
import Derived.Deep.Slices
import Derived.Deep.Strs
import Derived.SizedLaws
set_option maxRecDepth 100000
set_option maxHeartbeats 8000000
namespace Go.Proofs.YtiaibgfhigdgdaaGreat
open Tryz
open Go.RowKit Go.Lib Go.Maps Go.Sort
variable {A A' Ak:Nat->PgV}{fl fl' flk tbs:List Nat}{pages n B D Gp pk m tb mb tg mg k tcap j kg m' pages' i b b0 b1 lo id:Nat}{es:List Ent}{w w' X Y w0 Z W wc:World}{V V':PV}{K K':Pgs}{v v':Value}{cur:Array Value}{α H:Type}{P:Program}{rt:Nat->Nat}{kd:Int}{Q:Exit->Act->World->Prop}{xs:List Value}{ops:Array Oper}{a0:Act}
attribute [local go_sem ↓] Go.wp_at_zero Go.wp_at_succ
theorem Tr.remade [Oth]{A1 A2:Nat->PgV}{fl1 fl2:List Nat}{pages2 d:Nat}{t:T d}(hT:Tr A fl pages [] t es)(hh:Hold fl1 pages (Oth.l.map (·.1)++[]))(hs:∀y,¬y=0->¬y∈numsT d t->A1 y=A y)(hr:AllR A1 fl1 pages n A2 fl2 pages2):Tr (updA A2 n ⟨1,0,[]⟩) fl2 pages2 [] (d:=0) (⟨n,0,[]⟩:Lf) []:=by
 have hp:=hr.perm _ hh;refine tr_new hp (updA_at _ _ _) (λp hpm=>?_);have hm1:p.1∈Oth.l.map (·.1):=List.mem_map.2 ⟨p,hpm,rfl⟩;have h0:=(hh.mem (n:=p.1) (by simp[hm1])).1;have hnn:¬p.1=n:=λe=>by
  have hd:=hp.nodup_iff.2 List.nodup_range;rw[List.nodup_cons,List.nodup_append] at hd;have:=hd.2.2.1;rw[List.nodup_cons] at this;exact this.1 (by rw[<-e];simp[hm1])
 have hnt:¬p.1∈numsT d t:=λhmem=>by
  have hd:=hT.sx.nd;rw[List.nodup_cons,List.nodup_append] at hd;have hd2:=hd.2.2.1;unfold restN at hd2;simp only[nod1,List.map_append,List.append_nil] at hd2;rw[List.nodup_cons,List.nodup_append] at hd2;unfold numsT at hmem;rw[nodT_eq,List.map_cons,List.mem_cons] at hmem;rcases hmem with e | hmem
  ·have e':p.1=numT d t:=e;exact hd2.1 (List.mem_append_right _ (by rw[<-e'];exact hm1))
  ·exact hd2.2.2.2 _ hmem _ hm1 rfl
 rw[updA_ne _ _ hnn,hr.same _ (by omega) hnn,hs _ (by omega) hnt];exact hT.sx.rep p (by unfold restN;exact List.mem_append_right _ hpm)
structure LF2 (B tg mb:Nat) (w w':World):Prop where
 keep:∀(c:Nat) (cs:Array Value) (t:TypeId),w.heap[c]?=some (.cells cs t (0,0))->tyQ t=false->¬c=mb->¬c=tg->w'.heap[c]?=some (.cells cs t (0,0))
 bel:Below B w w'
section
variable {mcap:Nat}{cum:Array Value}
theorem cdropped [Oth]{d:Nat}{t:T d}(h:TS w B D Gp V K pk m A fl pages)(hm:m+2*(numsT d t).length<=37000)(hpg:pages<=55000)(hT:Tr A fl pages [] t es)(ht:TB w tb Gp (numT d t))(hM:MpV w mb v es)(hB:B<=mb∧B<=tg)(hk:k<2)(hg:w.heap[tg]?=some (.cells cur 38 (0,0)))(hgk:cur[k]?=some (.pointer (some ⟨tb,0,none⟩)))(hmg:w.heap[mg]?=some (.cells cum 31 (0,0)))(hmk:cum[k]?=some (.pointer (some ⟨mb,0,none⟩))):Calls prog 13 #[(.pointer (some ⟨Gp,0,none⟩)),.slice (some ⟨tg,0,none⟩) 2 tcap,.slice (some ⟨mg,0,none⟩) 2 mcap,.int .i64 (k:Int)] w λe w'=>e=.returned (.bool true)∧∃(V':PV) (K':Pgs) (A':Nat->PgV) (fl':List Nat) (pages' n tb':Nat),TS w' B D Gp V' K' pages' (m+2*(numsT d t).length+5) A' fl' pages'∧KS K' pages' A' fl'∧Tr A' fl' pages' [] (d:=0) (⟨n,0,[]⟩:Lf) []∧TB w' tb' Gp n∧w.heap.size<=tb'∧w'.heap[tg]?=some (.cells (cur.setIfInBounds k (.pointer (some ⟨tb',0,none⟩))) 38 (0,0))∧MpV w' mb (.slice none 0 0) []∧LF2 B tg mb w w'∧pages'<=pages+1:=by
 have k0:(0:Int)<=(k:Int):=by omega
 have k2:(k:Int)<2:=by omega
 have c0:w.cell? ⟨tg,k,none⟩=some (.pointer (some ⟨tb,0,none⟩)):=by simp[World.cell?,hg,hgk]
 have HD:=hide (cDrop h (by omega) hT ht);have H:=hide (show TS w B D Gp V K pk m A fl pages∧Tr A fl pages [] t es∧MpV w mb v es∧w.heap[tg]?=some (.cells cur 38 (0,0))∧w.heap[mg]?=some (.cells cum 31 (0,0))∧B<=mb∧B<=tg from⟨h,hT,hM,hg,hmg,hB⟩);have hne:¬tg=mb:=λe=>by
  rw[e,hM.blk] at hg;injection hg with hg;injection hg with _ hg _;exact absurd hg (by decide)
 have hne2:¬mg=tg:=λe=>by
  rw[e,hg] at hmg;injection hmg with hmg;injection hmg with _ hmg _;exact absurd hmg (by decide)
 have hkl:k<cur.size:=(gl hgk);clear h hT ht hM hg hmg hgk;go_enter func13,ntmps13;go_wp2_with fail
 refine HD.out.mono ?_;rintro e w1⟨rfl,V1,A1,fl1,p1,p2,p3,p4⟩;have HC:=hide (cCreate p1 (by omega) (by omega) p3);have H1:=hide (show TS w1 B D Gp V1 K pk (m+2*(numsT d t).length) A1 fl1 pages∧St2 w w1 B V V1∧Hold fl1 pages (Oth.l.map (·.1)++[])∧∀y,¬y=0->¬y∈numsT d t->A1 y=A y from⟨p1,p2,p3,p4⟩);clear p1 p2 p3 p4 HD c0;go_wp2_with fail
 refine(cnumL 0 _).mono ?_;rintro e w9⟨rfl,hw⟩;rw[hw];clear hw;go_wp2_with fail
 refine HC.out.mono ?_;rintro e w2⟨n,rfl,V2,A2,fl2,pages2,r1,r2,r3⟩;have H2:=hide (show TS w2 B D Gp V2 K pk (m+2*(numsT d t).length+3) (updA A2 n ⟨1,0,[]⟩) fl2 pages2∧St2 w w2 B V V2∧Tr (updA A2 n ⟨1,0,[]⟩) fl2 pages2 [] (d:=0) (⟨n,0,[]⟩:Lf) []∧pages2<=pages+1 from⟨r1,H1.out.2.1.trans r2,H.out.2.1.remade H1.out.2.2.1 H1.out.2.2.2 r3,r3.pgs.2⟩);clear r1 r2 r3 HC H1;go_wp2_with fail
 refine(cOpenT Gp n w2).mono ?_;rintro e w3⟨rfl,t3,hb3⟩;obtain⟨h3,s3⟩:=H2.out.1.below hb3;have hs3:=H2.out.2.1.trans s3;have g3:w3.heap[tg]?=some (.cells cur 38 (0,0)):=H.out.1.stay hs3 H.out.2.2.2.1 (by decide);have m3:w3.heap[mg]?=some (.cells cum 31 (0,0)):=H.out.1.stay hs3 H.out.2.2.2.2.1 (by decide);have hM3:=H.out.1.stayMp hs3 H.out.2.2.1;have c1:w3.cell? ⟨tg,k,none⟩=some cur[k]:=by simp[World.cell?,g3,hkl]
 have c2:w3.frozen? ⟨tg,k,none⟩=false:=by simp[World.frozen?,g3]
 have hgl:tg<w3.heap.size:=(gl g3);have gr3:=set_grown w3 tg k (.pointer (some ⟨w2.heap.size,0,none⟩));have c3:(w3.setCell ⟨tg,k,none⟩ (.pointer (some ⟨w2.heap.size,0,none⟩))).cell? ⟨mg,k,none⟩=some (.pointer (some ⟨mb,0,none⟩)):=by
  have e:=(gr3.block mg (gl m3) (λe=>hne2 (by injection e))).trans m3;simp[World.cell?,e,hmk]
 have b4:(w3.setCell ⟨tg,k,none⟩ (.pointer (some ⟨w2.heap.size,0,none⟩))).heap[mb]?=some (.cells #[v] 34 (0,0)):=(gr3.block mb hM3.cells.2.2 (λe=>hne (by injection e with e;exact e.symm))).trans hM3.blk;have c4:(w3.setCell ⟨tg,k,none⟩ (.pointer (some ⟨w2.heap.size,0,none⟩))).cell? ⟨mb,0,none⟩=some v:=by simp[World.cell?,b4]
 have c5:(w3.setCell ⟨tg,k,none⟩ (.pointer (some ⟨w2.heap.size,0,none⟩))).frozen? ⟨mb,0,none⟩=false:=by simp[World.frozen?,b4]
 have hml:mb<(w3.setCell ⟨tg,k,none⟩ (.pointer (some ⟨w2.heap.size,0,none⟩))).heap.size:=(gl b4);have hT4:=h3.other gr3 ⟨_,g3⟩ (by decide);have gr4:=set_grown (w3.setCell ⟨tg,k,none⟩ (.pointer (some ⟨w2.heap.size,0,none⟩))) mb 0 (.slice none 0 0);have hT5:=hT4.other gr4 ⟨_,b4⟩ (by decide);have HF:=hide (show TS ((w3.setCell ⟨tg,k,none⟩ (.pointer (some ⟨w2.heap.size,0,none⟩))).setCell ⟨mb,0,none⟩ (.slice none 0 0)) B D Gp V2 K pk (m+2*(numsT d t).length+3) (updA A2 n ⟨1,0,[]⟩) fl2 pages2∧TB ((w3.setCell ⟨tg,k,none⟩ (.pointer (some ⟨w2.heap.size,0,none⟩))).setCell ⟨mb,0,none⟩ (.slice none 0 0)) w2.heap.size Gp n∧((w3.setCell ⟨tg,k,none⟩ (.pointer (some ⟨w2.heap.size,0,none⟩))).setCell ⟨mb,0,none⟩ (.slice none 0 0)).heap[tg]?=some (.cells (cur.setIfInBounds k (.pointer (some ⟨w2.heap.size,0,none⟩))) 38 (0,0))∧MpV ((w3.setCell ⟨tg,k,none⟩ (.pointer (some ⟨w2.heap.size,0,none⟩))).setCell ⟨mb,0,none⟩ (.slice none 0 0)) mb (.slice none 0 0) []∧LF2 B tg mb w ((w3.setCell ⟨tg,k,none⟩ (.pointer (some ⟨w2.heap.size,0,none⟩))).setCell ⟨mb,0,none⟩ (.slice none 0 0))∧w.heap.size<=w2.heap.size from by
  have t3':w3.heap[w2.heap.size]?=_:=t3;have hw2l:=H2.out.2.1.bel.size;have htl:tg<w.heap.size:=(gl H.out.2.2.2.1);have hmbl:=H.out.2.2.1.cells.2.2;refine⟨hT5,?_,?_,⟨set_blk b4,World.ownsRow_nil _ _ _ _⟩,⟨λc cs ty hc hty n1 n2=>?_,?_⟩,hw2l⟩
  ·exact(gr4.block _ (Nat.lt_of_lt_of_le (gl t3') gr3.size) (λe=>by injection e with e;omega)).trans ((gr3.block _ (gl t3') (λe=>by injection e with e;omega)).trans t3')
  ·exact(gr4.block tg (Nat.lt_of_lt_of_le hgl gr3.size) (λe=>hne (by injection e))).trans (set_blk g3)
  ·have hc3:=H.out.1.stay hs3 hc hty;have hcl:=(gl hc3);exact(gr4.block c (Nat.lt_of_lt_of_le hcl gr3.size) (λe=>n1 (by injection e))).trans ((gr3.block c hcl (λe=>n2 (by injection e))).trans hc3)
  ·exact below_grown (below_grown hs3.bel.toBelow gr3 (λg e=>by injection e with e;have:=H.out.2.2.2.2.2.2;omega) h3.lo) gr4 (λg e=>by injection e with e;have:=H.out.2.2.2.2.2.1;omega) hT4.lo)
 have HC:=hide (ctcommit hT5 (by omega));clear t3 hb3 h3 s3 hs3 g3 m3 hM3 gr3 b4 hT4 gr4 hT5;go_wp2_with fail
 refine(cnumL 0 _).mono ?_;rintro e w8⟨rfl,hw⟩;rw[hw];clear hw;go_wp2_with fail
 refine HC.out.mono ?_;rintro e w5⟨rfl,V5,K5,z1,z2,z3⟩;have HE:=hide (show TS w5 B D Gp V5 K5 pages2 (m+2*(numsT d t).length+5) (updA A2 n ⟨1,0,[]⟩) fl2 pages2∧KS K5 pages2 (updA A2 n ⟨1,0,[]⟩) fl2∧TB w5 w2.heap.size Gp n∧w5.heap[tg]?=some (.cells (cur.setIfInBounds k (.pointer (some ⟨w2.heap.size,0,none⟩))) 38 (0,0))∧MpV w5 mb (.slice none 0 0) []∧LF2 B tg mb w w5 from⟨z1,z2,HF.out.1.stayTB z3 HF.out.2.1,HF.out.1.stay z3 HF.out.2.2.1 (by decide),HF.out.1.stayMp z3 HF.out.2.2.2.1,⟨λc cs ty hc hty n1 n2=>HF.out.1.stay z3 (HF.out.2.2.2.2.1.keep c cs ty hc hty n1 n2) hty,HF.out.2.2.2.2.1.bel.trans z3.bel.toBelow⟩⟩);clear z1 z2 z3 HC;go_wp2_with fail
 refine(cnumL 0 _).mono ?_;rintro e w7⟨rfl,hw⟩;rw[hw];clear hw;go_wp2_with fail
 go_ret;exact⟨rfl,V5,K5,_,fl2,pages2,n,w2.heap.size,HE.out.1,HE.out.2.1,H2.out.2.2.1,HE.out.2.2.1,HF.out.2.2.2.2.2,HE.out.2.2.2.1,HE.out.2.2.2.2.1,HE.out.2.2.2.2.2,H2.out.2.2.2⟩
end
structure MD where
 tb:Nat
 rt:Nat
 mb:Nat
 kb:Nat
 v:Value
 vk:Value
 em:List Ent
 ekm:List Ent
structure Mem (w0 X:World) (Gp tg mg kg:Nat) (q:Nat->MD):Prop where
 tb:∀j,j<2->TB X (q j).tb Gp (q j).rt
 mp:∀j,j<2->MpV X (q j).mb (q j).v (q j).em
 kp:∀j,j<2->MpV X (q j).kb (q j).vk (q j).ekm
 tr:∃cur,X.heap[tg]?=some (.cells cur 38 (0,0))∧∀j,j<2->cur[j]?=some (.pointer (some ⟨(q j).tb,0,none⟩))
 mr:∃cur,X.heap[mg]?=some (.cells cur 31 (0,0))∧∀j,j<2->cur[j]?=some (.pointer (some ⟨(q j).mb,0,none⟩))
 kr:∃cur,X.heap[kg]?=some (.cells cur 31 (0,0))∧∀j,j<2->cur[j]?=some (.pointer (some ⟨(q j).kb,0,none⟩))
 dif:∀i j,i<2->j<2->¬i=j->¬(q i).mb=(q j).mb
 dik:∀i j,i<2->j<2->¬(q i).kb=(q j).mb
 dig:¬mg=kg
 low:w0.heap.size<=tg∧w0.heap.size<=mg∧w0.heap.size<=kg∧∀j,j<2->w0.heap.size<=(q j).mb
 bel:Below w0.heap.size w0 X
structure SD where
 d:Nat
 t:T d
 es:List Ent
 dk:Nat
 tk:T dk
 ek:List Ent
 N:Nat
def oth (j:Nat):Nat:=1-j
theorem oth_lt (j:Nat):oth j<2:=by unfold oth;omega
theorem oth_ne (h:j<2):¬oth j=j:=by unfold oth;omega
theorem oth_oth (h:j<2):oth (oth j)=j:=by unfold oth;omega
structure Sem2 (w0 X:World) (D Gp:Nat) (V:PV) (K:Pgs) (pk m:Nat) (A:Nat->PgV) (fl:List Nat) (pages:Nat) (Ak:Nat->PgV) (flk:List Nat) (s:Nat->SD) (rt:Nat->Nat) (i:Nat):Prop where
 ts:TS X w0.heap.size D Gp V K pk m A fl pages
 ks:KS K pk Ak flk
 tr:∀j,j<2->@Tr (besT (s (oth j)).d (s (oth j)).t) A fl pages [] (s j).d (s j).t (s j).es
 trk:∀j,j<2->@Tr (besT (s (oth j)).dk (s (oth j)).tk) Ak flk pk [] (s j).dk (s j).tk (s j).ek
 rt:∀j,j<2->numT (s j).d (s j).t=rt j∧numT (s j).dk (s j).tk=rt j
 len:∀j,j<2->(s j).es.length<=(s j).N∧(s j).ek.length<=(s j).N
 nn:(s 0).N+(s 1).N<=i
 mm:m+10*((s 0).N+(s 1).N)<=70*i+20
 pg:pages<=14*i+4∧pk<=14*i+4
def upS (f:Nat->α)(k:Nat)(x:α):Nat->α:=λj=>if j=k then x else f j
theorem upS_at (f:Nat->α)(k:Nat)(x:α):upS f k x k=x:=if_pos rfl
theorem upS_ne (f:Nat->α)(x:α)(h:¬j=k):upS f k x j=f j:=if_neg h
section
variable {s:Nat->SD}{q:Nat->MD}
theorem blk_ne {a:Nat}{ca cb:Array Value}{ta tb:TypeId}(h1:X.heap[a]?=some (.cells ca ta (0,0)))(h2:X.heap[b]?=some (.cells cb tb (0,0)))(hn:¬ta=tb):¬a=b:=λe=>by
 rw[e,h2] at h1;injection h1 with h1;injection h1 with _ h1 _;exact hn h1.symm
theorem Mem.stay (h:Mem w0 X Gp tg mg kg q)(ts:TS X w0.heap.size D Gp V K pk m A fl pages)(hs:St2 X Y w0.heap.size V V'):Mem w0 Y Gp tg mg kg q:=by
 obtain⟨c1,a1,a2⟩:=h.tr;obtain⟨c2,b1,b2⟩:=h.mr;obtain⟨c3,d1,d2⟩:=h.kr;exact⟨λj hj=>ts.stayTB hs (h.tb j hj),λj hj=>ts.stayMp hs (h.mp j hj),λj hj=>ts.stayMp hs (h.kp j hj),⟨c1,ts.stay hs a1 (by decide),a2⟩,⟨c2,ts.stay hs b1 (by decide),b2⟩,⟨c3,ts.stay hs d1 (by decide),d2⟩,h.dif,h.dik,h.dig,h.low,h.bel.trans hs.bel.toBelow⟩
theorem Mem.step {es':List Ent}(h:Mem w0 X Gp tg mg kg q)(hk:k<2)(hf:LF w0.heap.size (q k).mb X Y)(hM:MpV Y (q k).mb v' es'):Mem w0 Y Gp tg mg kg (upS q k { q k with v:=v',em:=es' }):=by
 obtain⟨c1,a1,a2⟩:=h.tr;obtain⟨c2,b1,b2⟩:=h.mr;obtain⟨c3,d1,d2⟩:=h.kr;have hMk:=h.mp k hk;have f:∀j,(upS q k { q k with v:=v',em:=es' } j).tb=(q j).tb∧(upS q k { q k with v:=v',em:=es' } j).rt=(q j).rt∧(upS q k { q k with v:=v',em:=es' } j).mb=(q j).mb∧(upS q k { q k with v:=v',em:=es' } j).kb=(q j).kb∧(upS q k { q k with v:=v',em:=es' } j).vk=(q j).vk∧(upS q k { q k with v:=v',em:=es' } j).ekm=(q j).ekm:=λj=>by
  by_cases e:j=k
  ·subst e;rw[upS_at];exact⟨rfl,rfl,rfl,rfl,rfl,rfl⟩
  ·rw[upS_ne _ _ e];exact⟨rfl,rfl,rfl,rfl,rfl,rfl⟩
 refine⟨λj hj=>?_,λj hj=>?_,λj hj=>?_,⟨c1,hf.keep _ _ _ a1 (by decide) (blk_ne a1 hMk.blk (by decide)),λj hj=>by rw[(f j).1];exact a2 j hj⟩,⟨c2,hf.keep _ _ _ b1 (by decide) (blk_ne b1 hMk.blk (by decide)),λj hj=>by rw[(f j).2.2.1];exact b2 j hj⟩,⟨c3,hf.keep _ _ _ d1 (by decide) (blk_ne d1 hMk.blk (by decide)),λj hj=>by rw[(f j).2.2.2.1];exact d2 j hj⟩,λi j hi hj hn=>by rw[(f i).2.2.1,(f j).2.2.1];exact h.dif i j hi hj hn,λi j hi hj=>by rw[(f i).2.2.2.1,(f j).2.2.1];exact h.dik i j hi hj,h.dig,⟨h.low.1,h.low.2.1,h.low.2.2.1,λj hj=>by rw[(f j).2.2.1];exact h.low.2.2.2 j hj⟩,h.bel.trans hf.bel⟩
 ·rw[(f j).1,(f j).2.1];exact hf.tb2 hMk (h.tb j hj)
 ·by_cases e:j=k
  ·subst e;rw[upS_at];exact hM
  ·rw[upS_ne _ _ e];exact hf.mp hMk (h.mp j hj) (h.dif j k hj hk e)
 ·rw[(f j).2.2.2.1,(f j).2.2.2.2.1,(f j).2.2.2.2.2];exact hf.mp hMk (h.kp j hj) (h.dik j k hj hk)
end
theorem two_of (hk:k<2){P:Nat->Prop}(h1:P k)(h2:P (oth k)):∀j,j<2->P j:=λj hj=>by
 by_cases e:j=k
 ·rw[e];exact h1
 ·have:j=oth k:=by unfold oth;omega
  rw[this];exact h2
theorem N_two (f:Nat->Nat)(hk:k<2):f 0+f 1=f k+f (oth k):=by
 have:k=0∨k=1:=by omega
 rcases this with rfl|rfl
 ·rfl
 ·show f 0+f 1=f 1+f 0;omega
section
variable {s:Nat->SD}{q:Nat->MD}
theorem Sem2.next (h:Sem2 w0 X D Gp V K pk m A fl pages Ak flk s rt i)(ts:TS Y w0.heap.size D Gp V' K pk m A fl pages):Sem2 w0 Y D Gp V' K pk m A fl pages Ak flk s rt (i+1):=
 ⟨ts,h.ks,h.tr,h.trk,h.rt,h.len,by have:=h.nn;omega,by have:=h.mm;omega,by have:=h.pg;omega⟩
theorem Sem2.stay (h:Sem2 w0 X D Gp V K pk m A fl pages Ak flk s rt i)(ts:TS Y w0.heap.size D Gp V' K pk m A fl pages):Sem2 w0 Y D Gp V' K pk m A fl pages Ak flk s rt i:=
 ⟨ts,h.ks,h.tr,h.trk,h.rt,h.len,h.nn,h.mm,h.pg⟩
theorem Sem2.small (h:Sem2 w0 X D Gp V K pk m A fl pages Ak flk s rt i)(hi:i<=250)(hj:j<2):m<=17520∧pages<=3504∧(s j).es.length<=250∧(s j).d<=7∧m+2*(nodT (s j).d (s j).t).length<=37000:=by
 have h1:=h.mm;have h2:=h.nn;have h3:=h.pg;have h4:=(h.len j hj).1;have h5:=@Tr.more (besT (s (oth j)).d (s (oth j)).t) _ _ _ _ _ _ _ (h.tr j hj);have h6:=N_two (λj=>(s j).N) hj;have h7:=h5.nod;have h6:(s 0).N+(s 1).N=(s j).N+(s (oth j)).N:=h6;have h8:(s j).es.length<=250:=by omega
 exact⟨by omega,by omega,h8,h5.dep h8,by omega⟩
theorem Sem2.commit (h:Sem2 w0 X D Gp V K pk m A fl pages Ak flk s rt i)(ts:TS Y w0.heap.size D Gp V' K' pages (m+2) A fl pages)(ks:KS K' pages A fl):Sem2 w0 Y D Gp V' K' pages (m+2) A fl pages A fl (λj=>⟨(s j).d,(s j).t,(s j).es,(s j).d,(s j).t,(s j).es,(s j).N⟩) rt (i+1):=
 ⟨ts,ks,h.tr,h.tr,λj hj=>⟨(h.rt j hj).1,(h.rt j hj).1⟩,λj hj=>⟨(h.len j hj).1,(h.len j hj).1⟩,by have:=h.nn;show(s 0).N+(s 1).N<=_;omega,by have:=h.mm;show m+2+10*((s 0).N+(s 1).N)<=_;omega,by have:=h.pg;omega⟩
theorem Sem2.back (h:Sem2 w0 X D Gp V K pk m A fl pages Ak flk s rt i)(ts:TS Y w0.heap.size D Gp V' K pk m Ak flk pk):Sem2 w0 Y D Gp V' K pk m Ak flk pk Ak flk (λj=>⟨(s j).dk,(s j).tk,(s j).ek,(s j).dk,(s j).tk,(s j).ek,(s j).N⟩) rt (i+1):=
 ⟨ts,h.ks,h.trk,h.trk,λj hj=>⟨(h.rt j hj).2,(h.rt j hj).2⟩,λj hj=>⟨(h.len j hj).2,(h.len j hj).2⟩,by have:=h.nn;show(s 0).N+(s 1).N<=_;omega,by have:=h.mm;show m+10*((s 0).N+(s 1).N)<=_;omega,by have:=h.pg;omega⟩
theorem Sem2.step (h:Sem2 w0 X D Gp V K pk m A fl pages Ak flk s rt i)(hk:k<2)(hi:i<=250)(hP:@stepP (besT (s (oth k)).d (s (oth k)).t) X w0.heap.size D Gp K pk m pages [] (numT (s k).d (s k).t) tb mb (s k).d (s k).es.length Y):∃(V':PV) (m':Nat) (A':Nat->PgV) (fl':List Nat) (pages':Nat) (x:SD) (v':Value),Sem2 w0 Y D Gp V' K pk m' A' fl' pages' Ak flk (upS s k x) rt (i+1)∧x.ek=(s k).ek∧MpV Y mb v' x.es∧LF w0.heap.size mb X Y:=by
 obtain⟨V',m',A',fl',pages',d',t',es',v',p1,p2,p3,p4,p5,p6,p7,p8,p9⟩:=hP;have hs:=h.small hi hk;have hlen:=h.len k hk;refine⟨V',m',A',fl',pages',⟨d',t',es',(s k).dk,(s k).tk,(s k).ek,(s k).N+1⟩,v',⟨p1,h.ks,two_of hk ?_ ?_,two_of hk ?_ ?_,two_of hk ?_ ?_,two_of hk ?_ ?_,?_,?_,?_⟩,rfl,p5,p6⟩
 ·rw[upS_at,upS_ne _ _ (oth_ne hk)];exact p2
 ·rw[oth_oth hk,upS_at,upS_ne _ _ (oth_ne hk)];exact @Tr.beside _ _ _ _ _ _ _ _ _ _ _ _ _ _ p2 (h.tr (oth k) (oth_lt k))
 ·rw[upS_at,upS_ne _ _ (oth_ne hk)];exact h.trk k hk
 ·rw[oth_oth hk,upS_at,upS_ne _ _ (oth_ne hk)];have:=h.trk (oth k) (oth_lt k);rw[oth_oth hk] at this;exact this
 ·rw[upS_at];exact⟨p3.trans (h.rt k hk).1,(h.rt k hk).2⟩
 ·rw[upS_ne _ _ (oth_ne hk)];exact h.rt _ (oth_lt k)
 ·rw[upS_at];exact⟨by show es'.length<=(s k).N+1;omega,by show(s k).ek.length<=(s k).N+1;omega⟩
 ·rw[upS_ne _ _ (oth_ne hk)];exact h.len _ (oth_lt k)
 ·have e:=N_two (λj=>(upS s k ⟨d',t',es',(s k).dk,(s k).tk,(s k).ek,(s k).N+1⟩ j).N) hk;have e2:=N_two (λj=>(s j).N) hk;simp only[upS_at,upS_ne _ _ (oth_ne hk)] at e;have:=h.nn;omega
 ·have e:=N_two (λj=>(upS s k ⟨d',t',es',(s k).dk,(s k).tk,(s k).ek,(s k).N+1⟩ j).N) hk;have e2:=N_two (λj=>(s j).N) hk;simp only[upS_at,upS_ne _ _ (oth_ne hk)] at e;have:=h.mm;omega
 ·have:=h.pg;omega
theorem Sem2.drop (h:Sem2 w0 X D Gp V K pk m A fl pages Ak flk s rt i)(hk:k<2)(hp:pages'<=pages+1)(ts:TS Y w0.heap.size D Gp V' K' pages' (m+2*(numsT (s k).d (s k).t).length+5) A' fl' pages')(ks:KS K' pages' A' fl')(hT:@Tr (besT (s (oth k)).d (s (oth k)).t) A' fl' pages' [] 0 (⟨n,0,[]⟩:Lf) []):∃m' s',Sem2 w0 Y D Gp V' K' pages' m' A' fl' pages' A' fl' s' (upS rt k n) (i+1)∧(∀j,j<2->(s' j).ek=(s' j).es)∧(s' k).es=[]∧(s' (oth k)).es=(s (oth k)).es:=by
 have hnod:=(@Tr.more (besT (s (oth k)).d (s (oth k)).t) _ _ _ _ _ _ _ (h.tr k hk)).nod;have hl:(numsT (s k).d (s k).t).length=(nodT (s k).d (s k).t).length:=by simp[numsT]
 have hlen:=(h.len k hk).1;have hob:=@Tr.beside _ _ _ _ _ _ _ _ _ _ _ _ _ _ hT (h.tr (oth k) (oth_lt k));let x:SD:=⟨0,(⟨n,0,[]⟩:Lf),[],0,(⟨n,0,[]⟩:Lf),[],0⟩;let y:SD:=⟨(s (oth k)).d,(s (oth k)).t,(s (oth k)).es,(s (oth k)).d,(s (oth k)).t,(s (oth k)).es,(s (oth k)).N⟩;have hx:upS (λ_=>y) k x k=x:=upS_at ..;have hy:upS (λ_=>y) k x (oth k)=y:=upS_ne _ _ (oth_ne hk);refine⟨m+2*(numsT (s k).d (s k).t).length+5,upS (λ_=>y) k x,⟨ts,ks,two_of hk ?_ ?_,two_of hk ?_ ?_,two_of hk ?_ ?_,two_of hk ?_ ?_,?_,?_,?_⟩,two_of hk ?_ ?_,by rw[hx],by rw[hy]⟩
 ·rw[hx,hy];exact hT
 ·rw[oth_oth hk,hx,hy];exact hob
 ·rw[hx,hy];exact hT
 ·rw[oth_oth hk,hx,hy];exact hob
 ·rw[hx,upS_at];exact⟨rfl,rfl⟩
 ·rw[hy,upS_ne _ _ (oth_ne hk)];exact⟨(h.rt _ (oth_lt k)).1,(h.rt _ (oth_lt k)).1⟩
 ·rw[hx];exact⟨Nat.le_refl _,Nat.le_refl _⟩
 ·rw[hy];exact⟨(h.len _ (oth_lt k)).1,(h.len _ (oth_lt k)).1⟩
 ·have e:=N_two (λj=>(upS (λ_=>y) k x j).N) hk;have e2:=N_two (λj=>(s j).N) hk;simp only[hx,hy] at e;have e3:x.N=0:=rfl;have e4:y.N=(s (oth k)).N:=rfl;have:=h.nn;omega
 ·have e:=N_two (λj=>(upS (λ_=>y) k x j).N) hk;have e2:=N_two (λj=>(s j).N) hk;simp only[hx,hy] at e;have e3:x.N=0:=rfl;have e4:y.N=(s (oth k)).N:=rfl;have:=h.mm;omega
 ·have:=h.pg;omega
 ·rw[hx]
 ·rw[hy]
end
section
variable {s:Nat->SD}{q:Nat->MD}
theorem MpV.kept (h2:MpV X mb v es)(h1:∀cs:Array Value,X.heap[mb]?=some (Obj.cells cs 34 (0,0))->Y.heap[mb]?=some (.cells cs 34 (0,0)))(h3:∀(c:Nat) (cs:Array Value),X.heap[c]?=some (Obj.cells cs 116 (0,0))->Y.heap[c]?=some (.cells cs 116 (0,0))):MpV Y mb v es:=
 ⟨h1 _ h2.blk,row_keep h2.row λg hg=>by
  obtain⟨cs,hcs⟩:=row_isN h2.row hg;exact(h3 g cs hcs).trans hcs.symm⟩
theorem Mem.drop {tb':Nat}(h:Mem w0 X Gp tg mg kg q)(hk:k<2)(hc:X.heap[tg]?=some (.cells cur 38 (0,0)))(hcs:∀j,j<2->cur[j]?=some (.pointer (some ⟨(q j).tb,0,none⟩)))(hf:LF2 w0.heap.size tg (q k).mb X Y)(hM:MpV Y (q k).mb v' [])(htb:TB Y tb' Gp n)(htg:Y.heap[tg]?=some (.cells (cur.setIfInBounds k (.pointer (some ⟨tb',0,none⟩))) 38 (0,0))):Mem w0 Y Gp tg mg kg (upS q k { q k with tb:=tb',rt:=n,v:=v',em:=[]}):=by
 obtain⟨c2,b1,b2⟩:=h.mr;obtain⟨c3,d1,d2⟩:=h.kr;have hMk:=h.mp k hk;have f:∀j,(upS q k { q k with tb:=tb',rt:=n,v:=v',em:=[]} j).mb=(q j).mb∧(upS q k { q k with tb:=tb',rt:=n,v:=v',em:=[]} j).kb=(q j).kb∧(upS q k { q k with tb:=tb',rt:=n,v:=v',em:=[]} j).vk=(q j).vk∧(upS q k { q k with tb:=tb',rt:=n,v:=v',em:=[]} j).ekm=(q j).ekm:=λj=>by
  by_cases e:j=k
  ·subst e;rw[upS_at];exact⟨rfl,rfl,rfl,rfl⟩
  ·rw[upS_ne _ _ e];exact⟨rfl,rfl,rfl,rfl⟩
 have kp:∀(c:Nat) (cs:Array Value) (t:TypeId),X.heap[c]?=some (.cells cs t (0,0))->tyQ t=false->¬t=34->¬t=38->Y.heap[c]?=some (.cells cs t (0,0)):=λc cs t a b n1 n2=>hf.keep c cs t a b (blk_ne a hMk.blk n1) (blk_ne a hc n2)
 have mk:∀(mb2:Nat) (v2:Value) (es2:List Ent),MpV X mb2 v2 es2->¬mb2=(q k).mb->MpV Y mb2 v2 es2:=λmb2 v2 es2 a n=>a.kept (λcs hb=>hf.keep _ _ _ hb (by decide) n (blk_ne hb hc (by decide))) (λc cs hb=>kp _ _ _ hb (by decide) (by decide) (by decide))
 refine⟨λj hj=>?_,λj hj=>?_,λj hj=>?_,⟨_,htg,λj hj=>?_⟩,⟨c2,kp _ _ _ b1 (by decide) (by decide) (by decide),λj hj=>by rw[(f j).1];exact b2 j hj⟩,⟨c3,kp _ _ _ d1 (by decide) (by decide) (by decide),λj hj=>by rw[(f j).2.1];exact d2 j hj⟩,λi j hi hj hn=>by rw[(f i).1,(f j).1];exact h.dif i j hi hj hn,λi j hi hj=>by rw[(f i).2.1,(f j).1];exact h.dik i j hi hj,h.dig,⟨h.low.1,h.low.2.1,h.low.2.2.1,λj hj=>by rw[(f j).1];exact h.low.2.2.2 j hj⟩,h.bel.trans hf.bel⟩
 ·by_cases e:j=k
  ·subst e;rw[upS_at];exact htb
  ·rw[upS_ne _ _ e];exact kp _ _ _ (h.tb j hj) (by decide) (by decide) (by decide)
 ·by_cases e:j=k
  ·subst e;rw[upS_at];exact hM
  ·rw[upS_ne _ _ e];exact mk _ _ _ (h.mp j hj) (h.dif j k hj hk e)
 ·rw[(f j).2.1,(f j).2.2.1,(f j).2.2.2];exact mk _ _ _ (h.kp j hj) (h.dik j k hj hk)
 ·by_cases e:j=k
  ·subst e;rw[upS_at];have hl:=(gl (hcs j hj));simp[hl]
  ·rw[upS_ne _ _ e];have:=hcs j hj;rw[Array.getElem?_setIfInBounds_ne (λe2=>e e2.symm)];exact this
theorem Mem.keep (h:Mem w0 X Gp tg mg kg q)(ts:TS X w0.heap.size D Gp V K pk m A fl pages)(hn:n<2):Mem w0 ((X.alloc (.cells #[(q n).v] 34)).setCell ⟨kg,n,none⟩ (.pointer (some ⟨X.heap.size,0,none⟩))) Gp tg mg kg (upS q n { q n with kb:=X.heap.size,vk:=(q n).v,ekm:=(q n).em })∧TS ((X.alloc (.cells #[(q n).v] 34)).setCell ⟨kg,n,none⟩ (.pointer (some ⟨X.heap.size,0,none⟩))) w0.heap.size D Gp V K pk m A fl pages∧(∀(c:Nat) (cs:Array Value) (t:TypeId),X.heap[c]?=some (.cells cs t (0,0))->¬t=31->((X.alloc (.cells #[(q n).v] 34)).setCell ⟨kg,n,none⟩ (.pointer (some ⟨X.heap.size,0,none⟩))).heap[c]?=some (.cells cs t (0,0))):=by
 have hb:Below X.heap.size X (X.alloc (.cells #[(q n).v] 34)):=(Below.refl _ _).alloc (Nat.le_refl _) _;have hq:(X.alloc (.cells #[(q n).v] 34)).heap[X.heap.size]?=some (.cells #[(q n).v] 34 (0,0)):=heap_alloc_new X _;obtain⟨t1,s1⟩:=ts.below hb;have h1:=h.stay ts s1;generalize hX1:X.alloc (.cells #[(q n).v] 34)=X1 at hb hq t1 s1 h1 ⊢;obtain⟨c1,a1,a2⟩:=h1.tr;obtain⟨c2,b1,b2⟩:=h1.mr;obtain⟨c3,d1,d2⟩:=h1.kr;have hg:=set_grown X1 kg n (.pointer (some ⟨X.heap.size,0,none⟩));generalize hY:X1.setCell ⟨kg,n,none⟩ (.pointer (some ⟨X.heap.size,0,none⟩))=Y at hg ⊢;have hkl:=(gl d1);have hYk:Y.heap[kg]?=some (.cells (c3.setIfInBounds n (.pointer (some ⟨X.heap.size,0,none⟩))) 31 (0,0)):=by
  rw[<-hY];exact set_blk d1
 have kb:∀(c:Nat) (cs:Array Value) (t:TypeId),X1.heap[c]?=some (.cells cs t (0,0))->¬c=kg->Y.heap[c]?=some (.cells cs t (0,0)):=λc cs t hc hn=>(hg.block c (gl hc) (λe=>hn (by injection e))).trans hc
 have kp:∀(c:Nat) (cs:Array Value) (t:TypeId),X1.heap[c]?=some (.cells cs t (0,0))->¬t=31->Y.heap[c]?=some (.cells cs t (0,0)):=λc cs t hc ht=>kb c cs t hc (blk_ne hc d1 ht)
 have f:∀j,(upS q n { q n with kb:=X.heap.size,vk:=(q n).v,ekm:=(q n).em } j).tb=(q j).tb∧(upS q n { q n with kb:=X.heap.size,vk:=(q n).v,ekm:=(q n).em } j).rt=(q j).rt∧(upS q n { q n with kb:=X.heap.size,vk:=(q n).v,ekm:=(q n).em } j).mb=(q j).mb∧(upS q n { q n with kb:=X.heap.size,vk:=(q n).v,ekm:=(q n).em } j).v=(q j).v∧(upS q n { q n with kb:=X.heap.size,vk:=(q n).v,ekm:=(q n).em } j).em=(q j).em:=λj=>by
  by_cases e:j=n
  ·subst e;rw[upS_at];exact⟨rfl,rfl,rfl,rfl,rfl⟩
  ·rw[upS_ne _ _ e];exact⟨rfl,rfl,rfl,rfl,rfl⟩
 have mk:∀(mb2:Nat) (v2:Value) (es2:List Ent),MpV X1 mb2 v2 es2->MpV Y mb2 v2 es2:=λmb2 v2 es2 a=>a.kept (λcs hb=>kp _ _ _ hb (by decide)) (λc cs hb=>kp _ _ _ hb (by decide))
 refine⟨⟨λj hj=>by rw[(f j).1,(f j).2.1];exact kp _ _ _ (h1.tb j hj) (by decide),λj hj=>by rw[(f j).2.2.1,(f j).2.2.2.1,(f j).2.2.2.2];exact mk _ _ _ (h1.mp j hj),λj hj=>?_,⟨c1,kp _ _ _ a1 (by decide),λj hj=>by rw[(f j).1];exact a2 j hj⟩,⟨c2,kb _ _ _ b1 h.dig,λj hj=>by rw[(f j).2.2.1];exact b2 j hj⟩,⟨_,hYk,λj hj=>?_⟩,λi j hi hj hn=>by rw[(f i).2.2.1,(f j).2.2.1];exact h.dif i j hi hj hn,λi j hi hj=>?_,h.dig,⟨h.low.1,h.low.2.1,h.low.2.2.1,λj hj=>by rw[(f j).2.2.1];exact h.low.2.2.2 j hj⟩,below_grown h1.bel hg (λg e=>by injection e with e;rw[<-e];exact h.low.2.2.1) t1.lo⟩,t1.other hg ⟨_,d1⟩ (by decide),λc cs t hc ht=>kp c cs t ((hb.block c (gl hc)).trans hc) ht⟩
 ·by_cases e:j=n
  ·subst e;rw[upS_at];exact⟨kp _ _ _ hq (by decide),(mk _ _ _ (h1.mp j hj)).row⟩
  ·rw[upS_ne _ _ e];exact mk _ _ _ (h1.kp j hj)
 ·by_cases e:j=n
  ·subst e;rw[upS_at];have hl:=(gl (d2 j hj));simp[hl]
  ·rw[upS_ne _ _ e];rw[Array.getElem?_setIfInBounds_ne (λe2=>e e2.symm)];exact d2 j hj
 ·rw[(f j).2.2.1];by_cases e:i=n
  ·subst e;rw[upS_at];have:=(gl (h.mp j hj).blk);show ¬X.heap.size=(q j).mb;omega
  ·rw[upS_ne _ _ e];exact h.dik i j hi hj
theorem Mem.back (h:Mem w0 X Gp tg mg kg q)(ts:TS X w0.heap.size D Gp V K pk m A fl pages)(hn:n<2):Mem w0 (X.setCell ⟨(q n).mb,0,none⟩ (q n).vk) Gp tg mg kg (upS q n { q n with v:=(q n).vk,em:=(q n).ekm })∧TS (X.setCell ⟨(q n).mb,0,none⟩ (q n).vk) w0.heap.size D Gp V K pk m A fl pages∧LF w0.heap.size (q n).mb X (X.setCell ⟨(q n).mb,0,none⟩ (q n).vk):=by
 have hg:=set_grown X (q n).mb 0 (q n).vk;have hM:=h.mp n hn;have hf:=lf_map hg (h.low.2.2.2 n hn) ts.lo;have hY:(X.setCell ⟨(q n).mb,0,none⟩ (q n).vk).heap[(q n).mb]?=some (.cells (#[(q n).v].setIfInBounds 0 (q n).vk) 34 (0,0)):=set_blk hM.blk;refine⟨h.step hn hf ⟨hY,?_⟩,ts.other hg ⟨_,hM.blk⟩ (by decide),hf⟩;exact(hf.mp hM (h.kp n hn) (h.dik n n hn hn)).row
end
def InK (kd:Int)(n:Nat)(s:Nat->SD)(q:Nat->MD):Prop:=∀j,j<2 ->
 (kd=6∨kd=7->(q j).em=(s j).es∧(s j).ek=(s j).es∧(j<n->(q j).ekm=(s j).ek)) ∧
 (kd=8->(q j).ekm=(s j).ek∧(s j).es=(s j).ek∧(j<n->(q j).em=(s j).es)) ∧
 (¬(kd=6∨kd=7)->¬kd=8->(q j).em=(s j).es∧(q j).ekm=(s j).ek)
def Eqs (s:Nat->SD)(q:Nat->MD):Prop:=∀j,j<2->(q j).em=(s j).es∧(q j).ekm=(s j).ek
theorem InK.done {s:Nat->SD}{q:Nat->MD}(h:InK kd 2 s q):Eqs s q:=λj hj=>by
 obtain⟨h1,h2,h3⟩:=h j hj;by_cases a:kd=6∨kd=7
 ·exact⟨(h1 a).1,(h1 a).2.2 hj⟩
 ·by_cases b:kd=8
  ·exact⟨(h2 b).2.2 hj,(h2 b).1⟩
  ·exact h3 a b
structure LwM (w0 Y:World) (D Gp tg mg kg:Nat) (V:PV) (K:Pgs) (pk m:Nat) (A:Nat->PgV) (fl:List Nat) (pages:Nat) (Ak:Nat->PgV) (flk:List Nat) (s:Nat->SD) (q:Nat->MD) (i:Nat):Prop where
 sem:Sem2 w0 Y D Gp V K pk m A fl pages Ak flk s (λj=>(q j).rt) i
 mem:Mem w0 Y Gp tg mg kg q
def LwI (w0 Y:World)(D Gp tg mg kg:Nat)(kd:Int)(n i:Nat):Prop:=∃(V:PV) (K:Pgs) (pk m:Nat) (A:Nat->PgV) (fl:List Nat) (pages:Nat) (Ak:Nat->PgV) (flk:List Nat) (s:Nat->SD) (q:Nat->MD),LwM w0 Y D Gp tg mg kg V K pk m A fl pages Ak flk s q i∧InK kd n s q
def KpA (X Y:World):Prop:=∀(c:Nat) (cs:Array Value),X.heap[c]?=some (.cells cs 45 (0,0))->Y.heap[c]?=some (.cells cs 45 (0,0))
section
variable {s:Nat->SD}{q:Nat->MD}
theorem Sem2.rts {rt':Nat->Nat}(h:Sem2 w0 X D Gp V K pk m A fl pages Ak flk s rt i)(e:∀j,j<2->rt' j=rt j):Sem2 w0 X D Gp V K pk m A fl pages Ak flk s rt' i:=
 ⟨h.ts,h.ks,h.tr,h.trk,λj hj=>by rw[e j hj];exact h.rt j hj,h.len,h.nn,h.mm,h.pg⟩
theorem Mem.kpA (h:Mem w0 X Gp tg mg kg q)(hk:k<2)(hf:LF w0.heap.size (q k).mb X Y):KpA X Y:=λc cs hc=>hf.keep c cs _ hc (by decide) (blk_ne hc (h.mp k hk).blk (by decide))
theorem TS.kpA (ts:TS X w0.heap.size D Gp V K pk m A fl pages)(hs:St2 X Y w0.heap.size V V'):KpA X Y:=λc cs hc=>ts.stay hs hc (by decide)
theorem kpA_below (hb:Below X.heap.size X Y):KpA X Y:=λc _ hc=>(hb.block c (gl hc)).trans hc
theorem LwM.below (h:LwM w0 X D Gp tg mg kg V K pk m A fl pages Ak flk s q i)(hb:Below X.heap.size X Y):LwM w0 Y D Gp tg mg kg V K pk m A fl pages Ak flk s q i:=
 ⟨h.sem.stay (h.sem.ts.below hb).1,h.mem.stay h.sem.ts (h.sem.ts.below hb).2⟩
theorem LwM.step (h:LwM w0 X D Gp tg mg kg V K pk m A fl pages Ak flk s q i)(he:Eqs s q)(hk:k<2)(hi:i<=250)(h6:¬(kd=6∨kd=7))(h8:¬kd=8)(hP:@stepP (besT (s (oth k)).d (s (oth k)).t) X w0.heap.size D Gp K pk m pages [] (numT (s k).d (s k).t) (q k).tb (q k).mb (s k).d (s k).es.length Y):LwI w0 Y D Gp tg mg kg kd 0 (i+1)∧KpA X Y:=by
 obtain⟨V',m',A',fl',pages',x,v',p1,p2,p3,p4⟩:=h.sem.step hk hi hP;refine⟨⟨V',K,pk,m',A',fl',pages',Ak,flk,upS s k x,upS q k { q k with v:=v',em:=x.es },⟨p1.rts λj _=>?_,h.mem.step hk p4 p3⟩,λj hj=>⟨λe=>absurd e h6,λe=>absurd e h8,λ_ _=>?_⟩⟩,h.mem.kpA hk p4⟩
 ·by_cases e:j=k
  ·subst e;rw[upS_at]
  ·rw[upS_ne _ _ e]
 ·by_cases e:j=k
  ·subst e;rw[upS_at,upS_at];exact⟨rfl,(he j hj).2.trans p2.symm⟩
  ·rw[upS_ne _ _ e,upS_ne _ _ e];exact he j hj
variable {af aa an:Int}{sx tt:ByteArray}{kp ca:Option Addr}{kn kc cn cc:Nat}
theorem callsW {f:FuncId}{args:Array Value}{P Q:Ending->World->Prop}(h:Calls prog f args w P)(hi:∀e w',P e w'->Q e w'):Calls prog f args w Q:=λcs=>by
 obtain⟨e,w',fr,p,r⟩:=h cs;exact⟨e,w',fr,hi e w' p,r⟩
theorem kstep (kd:Int)(h:LwM w0 X D Gp tg mg kg V K pk m A fl pages Ak flk s q i)(he:Eqs s q)(hk:k<2)(hi:i<=250)(h7:¬kd=7)(hsz:sx.size<=140737488355328)(htz:tt.size<=140737488355328)(han:-9223372036854775808<=an∧an<=9223372036854775807):Calls prog 14 #[(.pointer (some ⟨Gp,0,none⟩)),(.pointer (some ⟨(q k).tb,0,none⟩)),(.pointer (some ⟨(q k).mb,0,none⟩)),(.agg #[.int .i64 kd,.int .i64 af,.int .i64 aa,.int .i64 an,.string sx,.string tt,.slice kp kn kc,.slice ca cn cc])] X λe w'=>e=.returned (.bool true)∧LwI w0 w' D Gp tg mg kg kd 0 (i+1)∧KpA X w':=by
 have hs:=h.sem.small hi hk;have hT:=h.sem.tr k hk;have ht:TB X (q k).tb Gp (numT (s k).d (s k).t):=by rw[(h.sem.rt k hk).1];exact h.mem.tb k hk
 have hM:MpV X (q k).mb (q k).v (s k).es:=by rw[<-(he k hk).1];exact h.mem.mp k hk
 have hB:=h.mem.low.2.2.2 k hk;have ts:=h.sem.ts;by_cases e1:kd=1
 ·subst e1;refine callsW (@cstep1 X w0.heap.size D Gp V K pk m A fl [] pages (q k).tb (q k).mb (s k).es (q k).v af aa an sx tt kp ca kn kc cn cc (besT (s (oth k)).d (s (oth k)).t) (s k).d (s k).t ts (by omega) hT ht hM (by omega) (by omega) hsz) ?_;rintro e w'⟨rfl,V',p1,p2⟩;exact⟨rfl,h.step he hk hi (by decide) (by decide) (@stepP.same X w' w0.heap.size D Gp V V' K pk m A fl [] pages (q k).tb (q k).mb (s k).es (q k).v (besT (s (oth k)).d (s (oth k)).t) (s k).d (s k).t ts hT ht hM p1 p2)⟩
 by_cases e2:kd=2
 ·subst e2;refine callsW (@cstep2 X w0.heap.size D Gp V K pk m A fl [] pages (q k).tb (q k).mb (s k).es (q k).v af aa an sx tt kp ca kn kc cn cc (besT (s (oth k)).d (s (oth k)).t) (s k).d (s k).t ts (by omega) (by omega) hT ht hM hB (by omega) (by omega) hsz htz han) ?_;rintro e w'⟨rfl,p⟩;exact⟨rfl,h.step he hk hi (by decide) (by decide) p⟩
 by_cases e3:kd=3
 ·subst e3;refine callsW (@cstep3 X w0.heap.size D Gp V K pk m A fl [] pages (q k).tb (q k).mb (s k).es (q k).v af aa an sx tt kp ca kn kc cn cc (besT (s (oth k)).d (s (oth k)).t) (s k).d (s k).t ts (by omega) (by omega) hT ht hM hB (by omega) (by omega) hsz) ?_;rintro e w'⟨rfl,p⟩;exact⟨rfl,h.step he hk hi (by decide) (by decide) p⟩
 by_cases e4:kd=4
 ·subst e4;refine callsW (@cstep4 X w0.heap.size D Gp V K pk m A fl [] pages (q k).tb (q k).mb (s k).es (q k).v af aa an sx tt kp ca kn kc cn cc (besT (s (oth k)).d (s (oth k)).t) (s k).d (s k).t ts (by omega) hT ht hM (by omega) hsz) ?_;rintro e w'⟨rfl,p⟩;exact⟨rfl,h.step he hk hi (by decide) (by decide) p⟩
 by_cases e5:kd=5
 ·subst e5;refine callsW (@cstep5 X w0.heap.size D Gp V K pk m A fl [] pages (q k).tb (q k).mb (s k).es (q k).v af aa an sx tt kp ca kn kc cn cc (besT (s (oth k)).d (s (oth k)).t) (s k).d (s k).t ts (by omega) hT ht hM (by omega) hsz) ?_;rintro e w'⟨rfl,p⟩;exact⟨rfl,h.step he hk hi (by decide) (by decide) p⟩
 by_cases e6:kd=6
 ·subst e6;refine callsW (cstep6 (af:=af) (aa:=aa) (an:=an) (s:=sx) (tt:=tt) (kp:=kp) (ca:=ca) (kn:=kn) (kc:=kc) (cn:=cn) (cc:=cc) (tb:=(q k).tb) (mb:=(q k).mb) ts (by omega) hsz) ?_;rintro e w'⟨rfl,V',K',p1,p2,p3⟩;refine⟨rfl,⟨V',K',pages,m+2,A,fl,pages,A,fl,_,q,⟨h.sem.commit p1 p2,h.mem.stay ts p3⟩,λj hj=>⟨λ_=>⟨(he j hj).1,rfl,λe=>absurd e (Nat.not_lt_zero _)⟩,λe=>absurd e (by decide),λe=>absurd (.inl rfl) e⟩⟩,ts.kpA p3⟩
 by_cases e8:kd=8
 ·subst e8;refine callsW (cstep8 (af:=af) (aa:=aa) (an:=an) (s:=sx) (tt:=tt) (kp:=kp) (ca:=ca) (kn:=kn) (kc:=kc) (cn:=cn) (cc:=cc) (tb:=(q k).tb) (mb:=(q k).mb) ts (by omega) h.sem.ks hsz) ?_;rintro e w'⟨rfl,V',p1,p2⟩;refine⟨rfl,⟨V',K,pk,m,Ak,flk,pk,Ak,flk,_,q,⟨h.sem.back p1,h.mem.stay ts p2⟩,λj hj=>⟨λe=>absurd e (by decide),λ_=>⟨(he j hj).2,rfl,λe=>absurd e (Nat.not_lt_zero _)⟩,λ_ e=>absurd rfl e⟩⟩,ts.kpA p2⟩
 ·refine callsW (cstepN (Gp:=Gp) (af:=af) (aa:=aa) (an:=an) (s:=sx) (tt:=tt) (kp:=kp) (ca:=ca) (kn:=kn) (kc:=kc) (cn:=cn) (cc:=cc) (tb:=(q k).tb) (mb:=(q k).mb) kd e1 e2 e3 e4 e5 e6 e8 hsz) ?_;rintro e w'⟨rfl,p⟩;exact⟨rfl,⟨V,K,pk,m,A,fl,pages,Ak,flk,s,q,⟨h.sem.next (ts.below p).1,h.mem.stay ts (ts.below p).2⟩,λj hj=>⟨λe=>absurd e (by omega),λe=>absurd e e8,λ_ _=>he j hj⟩⟩,kpA_below p⟩
theorem kdrop (h:LwM w0 X D Gp tg mg kg V K pk m A fl pages Ak flk s q i)(he:Eqs s q)(hk:k<2)(hi:i<=250)(tcap mcap:Nat):Calls prog 13 #[(.pointer (some ⟨Gp,0,none⟩)),.slice (some ⟨tg,0,none⟩) 2 tcap,.slice (some ⟨mg,0,none⟩) 2 mcap,.int .i64 (k:Int)] X λe w'=>e=.returned (.bool true)∧LwI w0 w' D Gp tg mg kg 7 0 (i+1)∧KpA X w':=by
 have hs:=h.sem.small hi hk;have hT:=h.sem.tr k hk;have ht:TB X (q k).tb Gp (numT (s k).d (s k).t):=by rw[(h.sem.rt k hk).1];exact h.mem.tb k hk
 have hM:MpV X (q k).mb (q k).v (s k).es:=by rw[<-(he k hk).1];exact h.mem.mp k hk
 have hB:=h.mem.low.2.2.2 k hk;have ts:=h.sem.ts;have hl:(numsT (s k).d (s k).t).length=(nodT (s k).d (s k).t).length:=by simp[numsT]
 obtain⟨cur,a1,a2⟩:=h.mem.tr;obtain⟨cum,b1,b2⟩:=h.mem.mr;refine callsW (@cdropped X w0.heap.size D Gp V K pk m A fl pages (q k).tb (q k).mb tg mg k tcap mcap (s k).es (q k).v cur cum (besT (s (oth k)).d (s (oth k)).t) (s k).d (s k).t ts (by omega) (by omega) hT ht hM ⟨hB,h.mem.low.1⟩ hk a1 (a2 k hk) b1 (b2 k hk)) ?_;rintro e w'⟨rfl,V',K',A',fl',pages',n,tb',p1,p2,p3,p4,p5,p6,p7,p8,p9⟩;obtain⟨m',s',r1,r2,r3,r4⟩:=h.sem.drop hk p9 p1 p2 p3;refine⟨rfl,⟨V',K',pages',m',A',fl',pages',A',fl',s',_,⟨r1.rts λj hj=>?_,h.mem.drop hk a1 a2 p8 p7 p4 p6⟩,λj hj=>⟨λ_=>⟨?_,r2 j hj,λe=>absurd e (Nat.not_lt_zero _)⟩,λe=>absurd e (by decide),λe=>absurd (.inr rfl) e⟩⟩,λc cs hc=>p8.keep c cs _ hc (by decide) (blk_ne hc hM.blk (by decide)) (blk_ne hc a1 (by decide))⟩
 ·by_cases e:j=k
  ·subst e;rw[upS_at,upS_at]
  ·rw[upS_ne _ _ e,upS_ne _ _ e]
 ·by_cases e:j=k
  ·subst e;rw[upS_at,r3]
  ·rw[upS_ne _ _ e];have:j=oth k:=by unfold oth;omega
   rw[this,r4];exact(he _ (oth_lt k)).1
end
def A00:Nat->PgV:=λ_=>⟨4,0,[]⟩
theorem ts_first (h:PO w B D Gp V K00 K00 1 1)(hn:NoF V.S)(hp:V.P.pages=1)(hf:V.P.free=0):TS w B D Gp V K00 1 1 A00 [] 1:=by
 refine⟨⟨K00,h,λn hn'=>⟨?_,(show okP ⟨4,0,[]⟩ from⟨⟨by decide,by decide⟩,by decide,by decide⟩)⟩⟩,hp,hf,rfl,trivial,λf hf=>by simp at hf,hn,List.nodup_nil⟩;have e:n=0:=by omega
 subst e;show K00 0=some (pgX ⟨4,0,[]⟩);rw[pgX_none];rfl
theorem klt_nil (k:ByteArray):klt k ⟨#[]⟩=false:=by
 unfold klt;rw[show(⟨#[]⟩:ByteArray).toList=[] by rw[ByteArray.toList_eq]];cases k.toList<;>rfl
theorem scan_full (es:List Ent):scanE (-1) false ⟨#[]⟩ ⟨#[]⟩ es=es:=by
 rw[scan_all,List.filter_eq_self];intro e _;unfold inR;rw[klt_nil,show(⟨#[]⟩:ByteArray).toList=[] by rw[ByteArray.toList_eq]];rfl
def LwE (w0 Y:World)(D Gp tg mg kg:Nat)(i:Nat):Prop:=∃(V:PV) (K:Pgs) (pk m:Nat) (A:Nat->PgV) (fl:List Nat) (pages:Nat) (Ak:Nat->PgV) (flk:List Nat) (s:Nat->SD) (q:Nat->MD),LwM w0 Y D Gp tg mg kg V K pk m A fl pages Ak flk s q i∧Eqs s q
section
variable {s:Nat->SD}{q:Nat->MD}
theorem LwI.done (h:LwI w0 X D Gp tg mg kg kd 2 i):LwE w0 X D Gp tg mg kg i:=by
 obtain⟨V,K,pk,m,A,fl,pages,Ak,flk,s,q,h1,h2⟩:=h;exact⟨V,K,pk,m,A,fl,pages,Ak,flk,s,q,h1,h2.done⟩
theorem LwE.bel (h:LwE w0 X D Gp tg mg kg i):Below w0.heap.size w0 X:=by
 obtain⟨V,K,pk,m,A,fl,pages,Ak,flk,s,q,h1,h2⟩:=h;exact h1.mem.bel
theorem LwM.keep (h:LwM w0 X D Gp tg mg kg V K pk m A fl pages Ak flk s q i)(hI:InK kd n s q)(hk:kd=6∨kd=7)(hn:n<2):LwI w0 ((X.alloc (.cells #[(q n).v] 34)).setCell ⟨kg,n,none⟩ (.pointer (some ⟨X.heap.size,0,none⟩))) D Gp tg mg kg kd (n+1) i∧KpA X ((X.alloc (.cells #[(q n).v] 34)).setCell ⟨kg,n,none⟩ (.pointer (some ⟨X.heap.size,0,none⟩))):=by
 obtain⟨a,b,c⟩:=h.mem.keep h.sem.ts hn;refine⟨⟨V,K,pk,m,A,fl,pages,Ak,flk,s,_,⟨(h.sem.stay b).rts λj hj=>?_,a⟩,λj hj=>?_⟩,λc' cs hc=>c c' cs _ hc (by decide)⟩
 ·by_cases e:j=n
  ·subst e;rw[upS_at]
  ·rw[upS_ne _ _ e]
 ·obtain⟨h1,h2,h3⟩:=hI j hj;obtain⟨g1,g2,g3⟩:=h1 hk;refine⟨λ_=>?_,λe=>by omega,λe=>absurd hk e⟩;by_cases e:j=n
  ·subst e;rw[upS_at];exact⟨g1,g2,λ_=>g1.trans g2.symm⟩
  ·rw[upS_ne _ _ e];exact⟨g1,g2,λl=>g3 (by omega)⟩
theorem LwM.back (h:LwM w0 X D Gp tg mg kg V K pk m A fl pages Ak flk s q i)(hI:InK 8 n s q)(hn:n<2):LwI w0 (X.setCell ⟨(q n).mb,0,none⟩ (q n).vk) D Gp tg mg kg 8 (n+1) i∧KpA X (X.setCell ⟨(q n).mb,0,none⟩ (q n).vk):=by
 obtain⟨a,b,c⟩:=h.mem.back h.sem.ts hn;refine⟨⟨V,K,pk,m,A,fl,pages,Ak,flk,s,_,⟨(h.sem.stay b).rts λj hj=>?_,a⟩,λj hj=>?_⟩,h.mem.kpA hn c⟩
 ·by_cases e:j=n
  ·subst e;rw[upS_at]
  ·rw[upS_ne _ _ e]
 ·obtain⟨h1,h2,h3⟩:=hI j hj;obtain⟨g1,g2,g3⟩:=h2 rfl;refine⟨λe=>absurd e (by decide),λ_=>?_,λ_ e=>absurd rfl e⟩;by_cases e:j=n
  ·subst e;rw[upS_at];exact⟨g1,g2,λ_=>g1.trans g2.symm⟩
  ·rw[upS_ne _ _ e];exact⟨g1,g2,λl=>g3 (by omega)⟩
theorem LwI.nothing (h:LwI w0 X D Gp tg mg kg kd n i)(h6:¬kd=6)(h7:¬kd=7)(h8:¬kd=8):LwI w0 X D Gp tg mg kg kd (n+1) i:=by
 obtain⟨V,K,pk,m,A,fl,pages,Ak,flk,s,q,h1,h2⟩:=h;refine⟨V,K,pk,m,A,fl,pages,Ak,flk,s,q,h1,λj hj=>⟨λe=>absurd e (by omega),λe=>absurd e h8,(h2 j hj).2.2⟩⟩
end
structure OpS (w0 Y:World) (D Gp mg b0 b1:Nat) (V:PV) (m:Nat) (A:Nat->PgV) (fl:List Nat) (pages i:Nat) (v:Value) (tbs rts:List Nat):Prop where
 ts:TS Y w0.heap.size D Gp V K00 1 m A fl pages
 row:Y.ownsRow w0.heap.size 38 1 v i (tbs.map λb=>(.pointer (some ⟨b,0,none⟩)))
 len:tbs.length=i∧rts.length=i
 tb:∀j,j<i->TB Y (tbs.getD j 0) Gp (rts.getD j 0)
 perm:(0::(fl++rts)).Perm (List.range pages)
 lf:∀r∈rts,A r=⟨1,0,[]⟩
 mm:m<=1+3*i
 pg:pages<=1+i
 mgb:Y.heap[mg]?=some (.cells #[(.pointer (some ⟨b0,0,none⟩)),(.pointer (some ⟨b1,0,none⟩))] 31 (0,0))
 m0:Y.heap[b0]?=some (.cells #[(.slice none 0 0)] 34 (0,0))
 m1:Y.heap[b1]?=some (.cells #[(.slice none 0 0)] 34 (0,0))
 low:w0.heap.size<=mg∧w0.heap.size<=b0∧w0.heap.size<=b1∧¬b0=b1
 bel:Below w0.heap.size w0 Y
section
variable {rts:List Nat}
theorem row_isP (h:w.ownsRow lo 38 1 v n xs){g:Nat}(hg:v.ownBlock=some g):∃cs,w.heap[g]?=some (.cells cs 38 (0,0)):=by
 rcases h.2 with⟨e,_⟩|⟨g',cap,cur,e,-,h1,-⟩
 ·rw[e] at hg;simp[Value.ownBlock] at hg
 ·rw[e] at hg;simp[Value.ownBlock] at hg;exact⟨cur,hg ▸ h1⟩
theorem row_keepP (h:w.ownsRow lo 38 1 v n xs)(hk:∀g,v.ownBlock=some g->w'.heap[g]?=w.heap[g]?):w'.ownsRow lo 38 1 v n xs:=by
 refine⟨h.1,?_⟩;rcases h.2 with e | ⟨g,cap,cur,e,h1,h2,h3⟩
 ·exact .inl e
 ·exact .inr ⟨g,cap,cur,e,h1,(hk g (by rw[e];simp[Value.ownBlock])).trans h2,h3⟩
theorem OpS.more (h:OpS w0 X D Gp mg b0 b1 V m A fl pages i v tbs rts)(ts:TS Y w0.heap.size D Gp V' K00 1 (m+3) (updA A' n ⟨1,0,[]⟩) fl' pages')(hs:St2 X Y w0.heap.size V V')(hr:AllR A fl pages n A' fl' pages')(hb:Below Y.heap.size Y Z)(ht:TB Z tb Gp n)(ho:W.ownsRow w0.heap.size 38 1 v' (i+1) ((tbs.map λb=>(.pointer (some ⟨b,0,none⟩)))++[(.pointer (some ⟨tb,0,none⟩))]))(hg:Z.grownBy W v.ownBlock):OpS w0 W D Gp mg b0 b1 V' (m+3) (updA A' n ⟨1,0,[]⟩) fl' pages' (i+1) v' (tbs++[tb]) (rts++[n]):=by
 have k1:∀(c:Nat) (cs:Array Value) (t:TypeId),X.heap[c]?=some (.cells cs t (0,0))->tyQ t=false->Z.heap[c]?=some (.cells cs t (0,0)):=λc cs t hc ht=>(hb.block c (gl (h.ts.stay hs hc ht))).trans (h.ts.stay hs hc ht)
 have hrow:Z.ownsRow w0.heap.size 38 1 v i (tbs.map λb=>(.pointer (some ⟨b,0,none⟩))):=row_keepP h.row λg hg=>by
  obtain⟨cs,hcs⟩:=row_isP h.row hg;exact(k1 _ _ _ hcs (by decide)).trans hcs.symm
 have k2:∀(c:Nat) (cs:Array Value) (t:TypeId),Z.heap[c]?=some (.cells cs t (0,0))->¬t=38->W.heap[c]?=some (.cells cs t (0,0)):=λc cs t hc hn=>(hg.block c (gl hc) (λe=>by
  obtain⟨cs2,h2⟩:=row_isP hrow e.symm;exact blk_ne hc h2 hn rfl)).trans hc
 have k3:∀(c:Nat) (cs:Array Value) (t:TypeId),X.heap[c]?=some (.cells cs t (0,0))->tyQ t=false->¬t=38->W.heap[c]?=some (.cells cs t (0,0)):=λc cs t hc h1 h2=>k2 c cs t (k1 c cs t hc h1) h2
 have tz:=(ts.below hb).1;have hp:=hr.perm _ h.perm;have hnr:¬n∈rts:=λhm=>by
  have hd:=hp.nodup_iff.2 List.nodup_range;rw[List.nodup_cons,List.nodup_append,List.nodup_cons] at hd;exact hd.2.2.1.1 hm
 refine⟨tz.keptN ⟨hg.size,λc hc hl=>hg.block c hc (λe=>hl (by
  obtain⟨cs,hcs⟩:=row_isP hrow e.symm;exact .inl ⟨cs,_,hcs,by decide⟩))⟩,by simpa using ho,by simp[h.len],λj hj=>?_,?_,λr hr2=>?_,by have:=h.mm;omega,by have:=h.pg;have:=hr.pgs;omega,k3 _ _ _ h.mgb (by decide) (by decide),k3 _ _ _ h.m0 (by decide) (by decide),k3 _ _ _ h.m1 (by decide) (by decide),h.low,?_⟩
 ·by_cases e:j<i
  ·have e1:(tbs++[tb]).getD j 0=tbs.getD j 0:=by simp[List.getD,List.getElem?_append_left (show j<tbs.length by rw[h.len.1];exact e)]
   have e2:(rts++[n]).getD j 0=rts.getD j 0:=by simp[List.getD,List.getElem?_append_left (show j<rts.length by rw[h.len.2];exact e)]
   rw[e1,e2];exact k3 _ _ _ (h.tb j e) (by decide) (by decide)
  ·have ej:j=i:=by omega
   subst ej;have e1:(tbs++[tb]).getD j 0=tb:=by simp[List.getD,h.len.1]
   have e2:(rts++[n]).getD j 0=n:=by simp[List.getD,h.len.2]
   rw[e1,e2];exact k2 _ _ _ ht (by decide)
 ·refine List.Perm.trans (List.Perm.cons _ (List.Perm.append_left _ ?_)) hp;exact List.perm_append_singleton n rts
 ·rcases List.mem_append.1 hr2 with h1|h1
  ·have hne:¬r=n:=λe=>hnr (e ▸ h1)
   have h0:¬r=0:=λe=>by
    have hd:=hp.nodup_iff.2 List.nodup_range;rw[List.nodup_cons] at hd;exact hd.1 (e ▸ List.mem_append_right _ (List.mem_cons_of_mem _ h1))
   rw[updA_ne _ _ hne,hr.same _ h0 hne];exact h.lf r h1
  ·have:r=n:=by simpa using h1
   rw[this,updA_at]
 ·exact below_grown ((h.bel.trans hs.bel.toBelow).trans (hb.mono ts.lo)) hg (λg e=>(World.ownsRow.lt hrow g e).1) tz.lo
theorem OpS.start {k0 k1 t0 t1 r0 r1:Nat}(h:OpS w0 X D Gp mg b0 b1 V m A fl pages 2 (.slice (some ⟨tg,0,none⟩) 2 tcap) [t0,t1] [r0,r1])(ts:TS Y w0.heap.size D Gp V' K pages (m+2) A fl pages)(ks:KS K pages A fl)(hs:St2 X Y w0.heap.size V V')(hb:Below Y.heap.size Y Z)(hk:Z.heap[kg]?=some (.cells #[(.pointer (some ⟨k0,0,none⟩)),(.pointer (some ⟨k1,0,none⟩))] 31 (0,0)))(h0:Z.heap[k0]?=some (.cells #[(.slice none 0 0)] 34 (0,0)))(h1:Z.heap[k1]?=some (.cells #[(.slice none 0 0)] 34 (0,0)))(hl:Y.heap.size<=kg∧Y.heap.size<=k0∧Y.heap.size<=k1):LwE w0 Z D Gp tg mg kg 0:=by
 have kx:∀(c:Nat) (cs:Array Value) (t:TypeId),X.heap[c]?=some (.cells cs t (0,0))->tyQ t=false->c<Y.heap.size∧Z.heap[c]?=some (.cells cs t (0,0)):=λc cs t hc ht=>⟨(gl (h.ts.stay hs hc ht)),(hb.block c (gl (h.ts.stay hs hc ht))).trans (h.ts.stay hs hc ht)⟩
 have tz:=(ts.below hb).1;have hrow:=h.row;obtain⟨cur,c1,c2,c3⟩:∃cur,X.heap[tg]?=some (.cells cur 38 (0,0))∧(cur[0]?=some (.pointer (some ⟨t0,0,none⟩))∧cur[1]?=some (.pointer (some ⟨t1,0,none⟩)))∧w0.heap.size<=tg:=by
  rcases hrow.2 with⟨_,e⟩|⟨g,cap,cur,e,hb,hg,x1,x2,x3,x4⟩
  ·omega
  ·injection e with e1 e2 e3;injection e1 with e1;injection e1 with e1;subst e1;refine⟨cur,hg,?_,hb⟩;have hj:∀j,j<2->cur[j]?=([(.pointer (some ⟨t0,0,none⟩)),(.pointer (some ⟨t1,0,none⟩))]:List Value)[j]?:=λj hj=>by
    have e1:(cur.toList.take (2*1))[j]?=([(.pointer (some ⟨t0,0,none⟩)),(.pointer (some ⟨t1,0,none⟩))]:List Value)[j]?:=by rw[x4];rfl
    rw[List.getElem?_take,if_pos (by omega)] at e1;rw[<-Array.getElem?_toList,e1]
   exact⟨hj 0 (by decide),hj 1 (by decide)⟩
 have hp:=h.perm;have tr:∀(a b:Nat),(0::(fl++[a,b])).Perm (List.range pages)->A a=⟨1,0,[]⟩->A b=⟨1,0,[]⟩->@Tr (besT 0 (⟨b,0,[]⟩:Lf)) A fl pages [] 0 (⟨a,0,[]⟩:Lf) []:=λa b hab ha hb=>by
  refine @tr_new [] (besT 0 (⟨b,0,[]⟩:Lf)) A fl pages a ?_ ha ?_
  ·exact hab
  ·intro p hp;have hp:p∈nodT 0 (⟨b,0,[]⟩:Lf):=hp;have:p=(b,pgT 0 (⟨b,0,[]⟩:Lf)):=by simpa[nodT] using hp
   rw[this];exact hb
 have a0:=h.lf r0 (by simp);have a1:=h.lf r1 (by simp);have T0:=tr r0 r1 hp a0 a1;have T1:=tr r1 r0 (List.Perm.trans (List.Perm.cons _ (List.Perm.append_left _ (List.Perm.swap _ _ _))) hp) a1 a0;let s:Nat->SD:=λj=>if j=0 then⟨0,(⟨r0,0,[]⟩:Lf),[],0,(⟨r0,0,[]⟩:Lf),[],0⟩ else⟨0,(⟨r1,0,[]⟩:Lf),[],0,(⟨r1,0,[]⟩:Lf),[],0⟩
 let q:Nat->MD:=λj=>if j=0 then⟨t0,r0,b0,k0,(.slice none 0 0),(.slice none 0 0),[],[]⟩ else⟨t1,r1,b1,k1,(.slice none 0 0),(.slice none 0 0),[],[]⟩
 have two:∀{P:Nat->Prop},P 0->P 1->∀j,j<2->P j:=λp0 p1 j hj=>by
  have:j=0∨j=1:=by omega
  rcases this with rfl|rfl
  ·exact p0
  ·exact p1
 have nilR:∀(b:Nat),Z.heap[b]?=some (.cells #[(.slice none 0 0)] 34 (0,0))->MpV Z b (.slice none 0 0) []:=λb hb=>⟨hb,⟨rfl,.inl ⟨rfl,rfl⟩⟩⟩
 have B0:=kx _ _ _ h.m0 (by decide);have B1:=kx _ _ _ h.m1 (by decide);have G1:=kx _ _ _ h.mgb (by decide);have G2:=kx _ _ _ c1 (by decide);refine⟨V',K,pages,m+2,A,fl,pages,A,fl,s,q,⟨⟨tz,ks,two T0 T1,two T0 T1,two ⟨rfl,rfl⟩ ⟨rfl,rfl⟩,two ⟨Nat.le_refl _,Nat.le_refl _⟩ ⟨Nat.le_refl _,Nat.le_refl _⟩,Nat.le_refl _,by have:=h.mm;show m+2+10*(0+0)<=_;omega,by have:=h.pg;omega⟩,⟨two ?_ ?_,two (nilR _ B0.2) (nilR _ B1.2),two (nilR _ h0) (nilR _ h1),⟨cur,G2.2,two c2.1 c2.2⟩,⟨_,G1.2,two rfl rfl⟩,⟨_,hk,two rfl rfl⟩,?_,?_,?_,⟨c3,h.low.1,Nat.le_trans ts.lo hl.1,two h.low.2.1 h.low.2.2.1⟩,(h.bel.trans hs.bel.toBelow).trans (hb.mono ts.lo)⟩⟩,two ⟨rfl,rfl⟩ ⟨rfl,rfl⟩⟩
 ·exact(kx _ _ _ (h.tb 0 (by decide)) (by decide)).2
 ·exact(kx _ _ _ (h.tb 1 (by decide)) (by decide)).2
 ·intro i j hi hj hn;have:(i=0∧j=1)∨(i=1∧j=0):=by omega
  rcases this with⟨rfl,rfl⟩|⟨rfl,rfl⟩
  ·exact h.low.2.2.2
  ·exact λe=>h.low.2.2.2 e.symm
 ·have x0:=B0.1;have x1:=B1.1;intro i j hi hj
  revert j
  refine two ?_ ?_
  ·revert i;refine two ?_ ?_
   ·show ¬k0=b0;omega
   ·show ¬k1=b0;omega
  ·revert i;refine two ?_ ?_
   ·show ¬k0=b1;omega
   ·show ¬k1=b1;omega
 ·have:=G1.1;omega
end
def Tty24a (Gp tg mg ab kx tcap:Nat):List Rw:=[(82,.fieldAddr 45 (.tmp 13) 0,none,[],(.pointer (some ⟨ab,0,none⟩))),(83,.load 3 (.tmp 82),none,[0],.int .i64 7),(84,.binOp .eql 3 (.tmp 83) (.const (.int .i64 7)) 3,none,[1],.bool true),(85,.move (.tmp 84),none,[2],.bool true),(86,.move (.tmp 4),some (3,true),[3],(.pointer (some ⟨Gp,0,none⟩))),(87,.move (.tmp 6),some (3,true),[3],.slice (some ⟨tg,0,none⟩) 2 tcap),(88,.move (.tmp 7),some (3,true),[3],.slice (some ⟨mg,0,none⟩) 2 2),(89,.move (.tmp 14),some (3,true),[3],.int .i64 (kx:Int)),(90,.call { callee:=.value (.func 13),args:=#[.tmp 86,.tmp 87,.tmp 88,.tmp 89],argTypes:=#[25,30,35,3]},some (3,true),[4,5,6,7,3],.bool true),(91,.unOp .not 4 (.tmp 90),some (3,true),[8,3],.bool false),(92,.pick (.tmp 85) (.tmp 91) (.const (.bool false)),none,[3,9],.bool false),(93,.move (.tmp 92),none,[10],.bool false),(94,.fieldAddr 45 (.tmp 13) 0,some (11,false),[11],(.pointer (some ⟨ab,0,none⟩))),(95,.load 3 (.tmp 94),some (11,false),[12,11],.int .i64 7),(96,.binOp .neq 3 (.tmp 95) (.const (.int .i64 7)) 3,some (11,false),[13,11],.bool false),(97,.move (.tmp 96),some (11,false),[14,11],.bool false),(98,.move (.tmp 4),some (15,true),[15],undef),(99,.move (.tmp 6),some (15,true),[15],undef),(100,.move (.tmp 14),some (15,true),[15],undef),(101,.indexAddr 30 (.tmp 99) (.tmp 100),some (15,true),[17,18,15],undef),(102,.load 38 (.tmp 101),some (15,true),[19,15],undef),(103,.move (.tmp 7),some (15,true),[15],undef),(104,.move (.tmp 14),some (15,true),[15],undef),(105,.indexAddr 35 (.tmp 103) (.tmp 104),some (15,true),[21,22,15],undef),(106,.load 31 (.tmp 105),some (15,true),[23,15],undef),(107,.load 45 (.tmp 13),some (15,true),[15],undef),(108,.call { callee:=.value (.func 14),args:=#[.tmp 98,.tmp 102,.tmp 106,.tmp 107],argTypes:=#[25,38,31,45]},some (15,true),[16,20,24,25,15],undef),(109,.unOp .not 4 (.tmp 108),some (15,true),[26,15],undef),(110,.pick (.tmp 97) (.tmp 109) (.const (.bool false)),some (11,false),[15,27,11],.bool false),(111,.pick (.tmp 93) (.const (.bool true)) (.tmp 110),none,[11,28],.bool false)]
theorem ty24a (Gp tg mg ab kx tcap:Nat)(R:World->Prop)(hl:∀X,X=wc.drew∨R X->X.cell? ⟨ab,0,none⟩=some (.int .i64 7))(hc:Calls prog 13 #[(.pointer (some ⟨Gp,0,none⟩)),.slice (some ⟨tg,0,none⟩) 2 tcap,.slice (some ⟨mg,0,none⟩) 2 2,.int .i64 (kx:Int)] wc.drew λe X'=>e=.returned (.bool true)∧R X')(hsz:111<a0.tmps.size)(e4:a0.eval (.tmp 4)=(.pointer (some ⟨Gp,0,none⟩)))(e6:a0.eval (.tmp 6)=.slice (some ⟨tg,0,none⟩) 2 tcap)(e7:a0.eval (.tmp 7)=.slice (some ⟨mg,0,none⟩) 2 2)(e13:a0.eval (.tmp 13)=(.pointer (some ⟨ab,0,none⟩)))(e14:a0.eval (.tmp 14)=.int .i64 (kx:Int))(hops:ops.toList.map sh3=(Tty24a Gp tg mg ab kx tcap).map rw3)(hd:dpB ops (Tty24a Gp tg mg ab kx tcap)=true)(hb:backB ops=true)(hm:prog.follows .mixedOrders=true)(hQ:∀X,R X->Q .normal ⟨sets (vs (Tty24a Gp tg mg ab kx tcap)) a0.tmps,a0.defers⟩ X):(Code.region id ops true).wp prog Q a0 wc:=by
 refine wp_tab1 (Tty24a Gp tg mg ab kx tcap) 8 R hm hb hops hd rfl (λs hs=>?_) (λq r hq hqc a X hX hX0 hF hR=>?_) (λr hr a hF hR=>?_) (λX hX=>hQ X (hX.elim (λh=>h) λh=>absurd h.2 (by simp[Tty24a])))
 ·simp[Tty24a] at hs;omega
 ·have E4:=(hF 4 (by simp[Tty24a])).trans e4;have E6:=(hF 6 (by simp[Tty24a])).trans e6;have E7:=(hF 7 (by simp[Tty24a])).trans e7;have E13:=(hF 13 (by simp[Tty24a])).trans e13;have E14:=(hF 14 (by simp[Tty24a])).trans e14;clear hF hops hd hb hQ hc;obtain _ | _ | _ | _ | _ | _ | _ | _ | _ | _ | _ | _ | _ | _ | _ | _ | _ | _ | _ | _ | _ | _ | _ | _ | _ | _ | _ | _ | _ | _ | q:=q
  all_goals cases hq
  all_goals first
   | exact⟨rfl,rfl⟩
   | exact⟨rfl,rfl,rfl⟩
   | exact absurd rfl hqc
   | refine λt p f=>?_
   | refine⟨rfl,OkG.run λt p f=>?_⟩
  all_goals
   have x:=hl X hX;simp only[RS,Tty24a,List.getElem?_cons_succ,List.getElem?_cons_zero,Option.some.injEq,forall_eq'] at hR
   go_split_ands
   simp only[execOp];go_simp
 ·have E4:=(hF 4 (by simp[Tty24a])).trans e4;have E6:=(hF 6 (by simp[Tty24a])).trans e6;have E7:=(hF 7 (by simp[Tty24a])).trans e7;have E13:=(hF 13 (by simp[Tty24a])).trans e13;have E14:=(hF 14 (by simp[Tty24a])).trans e14;clear hF hops hd hb hQ;cases hr;refine⟨λgb h=>by cases h;exact⟨rfl,rfl⟩,_,_,λt p f=>?_,hc⟩;simp only[RS,Tty24a,List.getElem?_cons_succ,List.getElem?_cons_zero,Option.some.injEq,forall_eq'] at hR
  go_split_ands
  simp only[execOp];go_simp
def Tty24b (Gp tg mg ab kx tcap tb mb:Nat)(kd af aa an:Int)(sx tt:ByteArray)(kp ca:Option Addr)(kn kc cn cc:Nat):List Rw:=[(82,.fieldAddr 45 (.tmp 13) 0,none,[],(.pointer (some ⟨ab,0,none⟩))),(83,.load 3 (.tmp 82),none,[0],.int .i64 kd),(84,.binOp .eql 3 (.tmp 83) (.const (.int .i64 7)) 3,none,[1],.bool false),(85,.move (.tmp 84),none,[2],.bool false),(86,.move (.tmp 4),some (3,true),[3],undef),(87,.move (.tmp 6),some (3,true),[3],undef),(88,.move (.tmp 7),some (3,true),[3],undef),(89,.move (.tmp 14),some (3,true),[3],undef),(90,.call { callee:=.value (.func 13),args:=#[.tmp 86,.tmp 87,.tmp 88,.tmp 89],argTypes:=#[25,30,35,3]},some (3,true),[4,5,6,7,3],undef),(91,.unOp .not 4 (.tmp 90),some (3,true),[8,3],undef),(92,.pick (.tmp 85) (.tmp 91) (.const (.bool false)),none,[3,9],.bool false),(93,.move (.tmp 92),none,[10],.bool false),(94,.fieldAddr 45 (.tmp 13) 0,some (11,false),[11],(.pointer (some ⟨ab,0,none⟩))),(95,.load 3 (.tmp 94),some (11,false),[12,11],.int .i64 kd),(96,.binOp .neq 3 (.tmp 95) (.const (.int .i64 7)) 3,some (11,false),[13,11],.bool true),(97,.move (.tmp 96),some (11,false),[14,11],.bool true),(98,.move (.tmp 4),some (15,true),[15],(.pointer (some ⟨Gp,0,none⟩))),(99,.move (.tmp 6),some (15,true),[15],.slice (some ⟨tg,0,none⟩) 2 tcap),(100,.move (.tmp 14),some (15,true),[15],.int .i64 (kx:Int)),(101,.indexAddr 30 (.tmp 99) (.tmp 100),some (15,true),[17,18,15],.pointer (some ⟨tg,kx,none⟩)),(102,.load 38 (.tmp 101),some (15,true),[19,15],(.pointer (some ⟨tb,0,none⟩))),(103,.move (.tmp 7),some (15,true),[15],.slice (some ⟨mg,0,none⟩) 2 2),(104,.move (.tmp 14),some (15,true),[15],.int .i64 (kx:Int)),(105,.indexAddr 35 (.tmp 103) (.tmp 104),some (15,true),[21,22,15],.pointer (some ⟨mg,kx,none⟩)),(106,.load 31 (.tmp 105),some (15,true),[23,15],(.pointer (some ⟨mb,0,none⟩))),(107,.load 45 (.tmp 13),some (15,true),[15],(.agg #[.int .i64 kd,.int .i64 af,.int .i64 aa,.int .i64 an,.string sx,.string tt,.slice kp kn kc,.slice ca cn cc])),(108,.call { callee:=.value (.func 14),args:=#[.tmp 98,.tmp 102,.tmp 106,.tmp 107],argTypes:=#[25,38,31,45]},some (15,true),[16,20,24,25,15],.bool true),(109,.unOp .not 4 (.tmp 108),some (15,true),[26,15],.bool false),(110,.pick (.tmp 97) (.tmp 109) (.const (.bool false)),some (11,false),[15,27,11],.bool false),(111,.pick (.tmp 93) (.const (.bool true)) (.tmp 110),none,[11,28],.bool false)]
theorem ty24b (Gp tg mg ab kx tcap tb mb:Nat)(kd af aa an:Int)(sx tt:ByteArray)(kp ca:Option Addr)(kn kc cn cc:Nat)(R:World->Prop)(h7:¬kd=7)(hk0:(0:Int)<=(kx:Int))(hk2:(kx:Int)<2)(h8:wc.drew.cell? ⟨ab,0,none⟩=some (.int .i64 kd)∧wc.drew.cell? ⟨ab,1,none⟩=some (.int .i64 af)∧wc.drew.cell? ⟨ab,2,none⟩=some (.int .i64 aa)∧wc.drew.cell? ⟨ab,3,none⟩=some (.int .i64 an)∧wc.drew.cell? ⟨ab,4,none⟩=some (.string sx)∧wc.drew.cell? ⟨ab,5,none⟩=some (.string tt)∧wc.drew.cell? ⟨ab,6,none⟩=some (.slice kp kn kc)∧wc.drew.cell? ⟨ab,7,none⟩=some (.slice ca cn cc))(ht:wc.drew.cell? ⟨tg,kx,none⟩=some (.pointer (some ⟨tb,0,none⟩)))(hmg:wc.drew.cell? ⟨mg,kx,none⟩=some (.pointer (some ⟨mb,0,none⟩)))(hc:Calls prog 14 #[(.pointer (some ⟨Gp,0,none⟩)),(.pointer (some ⟨tb,0,none⟩)),(.pointer (some ⟨mb,0,none⟩)),(.agg #[.int .i64 kd,.int .i64 af,.int .i64 aa,.int .i64 an,.string sx,.string tt,.slice kp kn kc,.slice ca cn cc])] wc.drew λe X'=>e=.returned (.bool true)∧R X')(hsz:111<a0.tmps.size)(e4:a0.eval (.tmp 4)=(.pointer (some ⟨Gp,0,none⟩)))(e6:a0.eval (.tmp 6)=.slice (some ⟨tg,0,none⟩) 2 tcap)(e7:a0.eval (.tmp 7)=.slice (some ⟨mg,0,none⟩) 2 2)(e13:a0.eval (.tmp 13)=(.pointer (some ⟨ab,0,none⟩)))(e14:a0.eval (.tmp 14)=.int .i64 (kx:Int))(hops:ops.toList.map sh3=(Tty24b Gp tg mg ab kx tcap tb mb kd af aa an sx tt kp ca kn kc cn cc).map rw3)(hd:dpB ops (Tty24b Gp tg mg ab kx tcap tb mb kd af aa an sx tt kp ca kn kc cn cc)=true)(hb:backB ops=true)(hm:prog.follows .mixedOrders=true)(hQ:∀X,R X->Q .normal ⟨sets (vs (Tty24b Gp tg mg ab kx tcap tb mb kd af aa an sx tt kp ca kn kc cn cc)) a0.tmps,a0.defers⟩ X):(Code.region id ops true).wp prog Q a0 wc:=by
 refine wp_tab1 (Tty24b Gp tg mg ab kx tcap tb mb kd af aa an sx tt kp ca kn kc cn cc) 26 R hm hb hops hd rfl (λs hs=>?_) (λq r hq hqc a X hX hX0 hF hR=>?_) (λr hr a hF hR=>?_) (λX hX=>hQ X (hX.elim (λh=>h) λh=>absurd h.2 (by simp[Tty24b])))
 ·simp[Tty24b] at hs;omega
 ·have E4:=(hF 4 (by simp[Tty24b])).trans e4;have E6:=(hF 6 (by simp[Tty24b])).trans e6;have E7:=(hF 7 (by simp[Tty24b])).trans e7;have E13:=(hF 13 (by simp[Tty24b])).trans e13;have E14:=(hF 14 (by simp[Tty24b])).trans e14;clear hF hops hd hb hQ hc;obtain _ | _ | _ | _ | _ | _ | _ | _ | _ | _ | _ | _ | _ | _ | _ | _ | _ | _ | _ | _ | _ | _ | _ | _ | _ | _ | _ | _ | _ | _ | q:=q
  all_goals cases hq
  all_goals first
   | exact⟨rfl,rfl⟩
   | exact⟨rfl,rfl,rfl⟩
   | exact absurd rfl hqc
   | refine λt p f=>?_
   | refine⟨rfl,OkG.run λt p f=>?_⟩
  all_goals
   try obtain rfl:=hX0 rfl
   simp only[RS,Tty24b,List.getElem?_cons_succ,List.getElem?_cons_zero,Option.some.injEq,forall_eq'] at hR
   go_split_ands
   simp only[execOp];go_simp
 ·have E4:=(hF 4 (by simp[Tty24b])).trans e4;have E6:=(hF 6 (by simp[Tty24b])).trans e6;have E7:=(hF 7 (by simp[Tty24b])).trans e7;have E13:=(hF 13 (by simp[Tty24b])).trans e13;have E14:=(hF 14 (by simp[Tty24b])).trans e14;clear hF hops hd hb hQ;cases hr;refine⟨λgb h=>by cases h;exact⟨rfl,rfl⟩,_,_,λt p f=>?_,hc⟩;simp only[RS,Tty24b,List.getElem?_cons_succ,List.getElem?_cons_zero,Option.some.injEq,forall_eq'] at hR
  go_split_ands
  simp only[execOp];go_simp
structure ActM where
 k:Int
 f:Int
 a:Int
 n:Int
 s:ByteArray
 t:ByteArray
 kp:Option Addr
 kn:Nat
 kc:Nat
 ca:Option Addr
 cn:Nat
 cc:Nat
def actM (x:ActM):List Value:=[.int .i64 x.k,.int .i64 x.f,.int .i64 x.a,.int .i64 x.n,.string x.s,.string x.t,.slice x.kp x.kn x.kc,.slice x.ca x.cn x.cc]
def okAM (x:ActM):Prop:=(-9223372036854775808<=x.f∧x.f<=9223372036854775807)∧(-9223372036854775808<=x.n∧x.n<=9223372036854775807)∧x.s.size<=140737488355328∧x.t.size<=140737488355328
def liesAM (X:World)(sa:Option Addr)(sl:Nat)(A:Nat->ActM):Prop:=sl=0∨∃b off,sa=some ⟨b,off,none⟩∧b<X.heap.size∧∀i,i<sl->okAM (A i)∧∀j,j<8->X.cell? ⟨b,off+(i*8+j),none⟩=(actM (A i))[j]?
def BxA (Y:World)(ab:Nat)(a:ActM):Prop:=Y.heap[ab]?=some (.cells #[.int .i64 a.k,.int .i64 a.f,.int .i64 a.a,.int .i64 a.n,.string a.s,.string a.t,.slice a.kp a.kn a.kc,.slice a.ca a.cn a.cc] 45 (0,0))
theorem BxA.cells {ab:Nat}{a:ActM}(h:BxA Y ab a):Y.cell? ⟨ab,0,none⟩=some (.int .i64 a.k)∧Y.cell? ⟨ab,1,none⟩=some (.int .i64 a.f)∧Y.cell? ⟨ab,2,none⟩=some (.int .i64 a.a)∧Y.cell? ⟨ab,3,none⟩=some (.int .i64 a.n)∧Y.cell? ⟨ab,4,none⟩=some (.string a.s)∧Y.cell? ⟨ab,5,none⟩=some (.string a.t)∧Y.cell? ⟨ab,6,none⟩=some (.slice a.kp a.kn a.kc)∧Y.cell? ⟨ab,7,none⟩=some (.slice a.ca a.cn a.cc):=by
 unfold BxA at h;simp[World.cell?,h]
theorem newsT (w:World)(v:Value):∀j u,([v]:List Value)[j]?=some u->(w.alloc (.cells #[v] 38)).cell? ((⟨w.heap.size,0,none⟩:Addr).add j)=some u:=by
 intro j u hj;rw[add_none]
 match j,hj with
 | 0,h=>cases h;go_simp
 | j+1,h=>simp at h
theorem len2 {l:List Nat}(h:l.length=2):∃a b,l=[a,b]:=by
 match l,h with
 | [a,b],_=>exact⟨a,b,rfl⟩
theorem LwI.below (h:LwI w0 X D Gp tg mg kg kd n i)(hb:Below X.heap.size X Y):LwI w0 Y D Gp tg mg kg kd n i:=by
 obtain⟨V,K,pk,m,A,fl,pages,Ak,flk,s,q,h1,h2⟩:=h;exact⟨V,K,pk,m,A,fl,pages,Ak,flk,s,q,h1.below hb,h2⟩
theorem infoTT:(prog.info? 38).map (λi=>(i.zero,i.size,i.bytes))=some (some (.pointer none),1,8):=by kernel_rfl
theorem OpS.stay2 {rts:List Nat}(h:OpS w0 X D Gp mg b0 b1 V m A fl pages i v tbs rts)(_:TS Y w0.heap.size D Gp V' K00 1 m' A' fl' pages')(hs:St2 X Y w0.heap.size V V')(hb:Below Y.heap.size Y Z):Z.ownsRow w0.heap.size 38 1 v i (tbs.map λb=>(.pointer (some ⟨b,0,none⟩))):=row_keepP h.row λg hg=>by
 obtain⟨cs,hcs⟩:=row_isP h.row hg;have h1:=h.ts.stay hs hcs (by decide);exact((hb.block g (gl h1)).trans h1).trans hcs.symm
theorem ltreemaps (sa:Option Addr)(sl sc:Nat)(A:Nat->ActM)(X:World)(hl:liesAM X sa sl A)(hn:sl<=140737488355328)(hc:sl<=sc)(ha:sa=none->sl=0∧sc=0):Calls prog 3 #[.slice sa sl sc] X λe w'=>e=.returned (.bool true)∧Below X.heap.size X w':=by
 have HL:Hid (liesAM X sa sl A):=hl;have HA:Hid (sa=none->sl=0∧sc=0):=ha;clear hl ha;go_enter func3,ntmps3;go_wp2_with fail
 refine(cnewD X).mono ?_;rintro e w1⟨rfl,hP1,hb1⟩;have HB1:=hide hb1;have HO1:=hide (copen_first hP1 hb1.size);clear hP1 hb1;go_wp2_with fail
 refine HO1.out.mono ?_;rintro e w2⟨Gp,V,rfl,hp2,hnf2,hpg2,hfr2,hb2⟩;have HT2:=hide (ts_first hp2 hnf2 hpg2 hfr2);have HB2:=hide (HB1.out.trans hb2);clear hp2 hnf2 hpg2 hfr2 hb2 HO1 HB1;go_wp2_with fail
 refine(cnumL 0 _).mono ?_;rintro e w3⟨rfl,rfl⟩;have H3:Hid (OpS X (((w3.alloc (.cells #[(.slice none 0 0)] 34)).alloc (.cells #[(.slice none 0 0)] 34)).alloc (.cells #[(.pointer (some ⟨w3.heap.size,0,none⟩)),(.pointer (some ⟨(w3.heap.size+1),0,none⟩))] 31)) X.heap.size Gp (w3.heap.size+1+1) w3.heap.size (w3.heap.size+1) V 1 A00 [] 1 0 (.slice none 0 0) [] []):=by
  have b1:Below w3.heap.size w3 (w3.alloc (.cells #[(.slice none 0 0)] 34)):=(Below.refl _ _).alloc (Nat.le_refl _) _;have b2:Below w3.heap.size w3 ((w3.alloc (.cells #[(.slice none 0 0)] 34)).alloc (.cells #[(.slice none 0 0)] 34)):=b1.alloc (by first | (simp;done) | (simp;omega)) _;have b3:Below w3.heap.size w3 (((w3.alloc (.cells #[(.slice none 0 0)] 34)).alloc (.cells #[(.slice none 0 0)] 34)).alloc (.cells #[(.pointer (some ⟨w3.heap.size,0,none⟩)),(.pointer (some ⟨(w3.heap.size+1),0,none⟩))] 31)):=b2.alloc (by first | (simp;done) | (simp;omega)) _;have hsz:=HB2.out.size;refine⟨(HT2.out.below b3).1,⟨rfl,.inl ⟨rfl,rfl⟩⟩,⟨rfl,rfl⟩,λj hj=>absurd hj (Nat.not_lt_zero _),List.Perm.refl _,λr hr=>by simp at hr,by omega,by omega,?_,?_,?_,⟨by omega,by omega,by omega,by omega⟩,HB2.out.trans (b3.mono hsz)⟩
  ·have:=heap_alloc_new ((w3.alloc (.cells #[(.slice none 0 0)] 34)).alloc (.cells #[(.slice none 0 0)] 34)) (.cells #[(.pointer (some ⟨w3.heap.size,0,none⟩)),(.pointer (some ⟨(w3.heap.size+1),0,none⟩))] 31);simpa using this
  ·rw[heap_alloc_old _ _ (by simp;omega),heap_alloc_old _ _ (by simp)];exact heap_alloc_new w3 _
  ·rw[heap_alloc_old _ _ (by simp)];have:=heap_alloc_new (w3.alloc (.cells #[(.slice none 0 0)] 34)) (.cells #[(.slice none 0 0)] 34);simpa using this
 clear HT2 HB2
 go_upto_block 0 with fail
 obtain⟨W3,hW3⟩:∃W,(((w3.alloc (.cells #[(.slice none 0 0)] 34)).alloc (.cells #[(.slice none 0 0)] 34)).alloc (.cells #[(.pointer (some ⟨w3.heap.size,0,none⟩)),(.pointer (some ⟨(w3.heap.size+1),0,none⟩))] 31))=W:=⟨_,rfl⟩;rw[hW3] at H3 ⊢;clear hW3;generalize w3.heap.size+1+1=mg at *;generalize w3.heap.size+1=b1 at *;generalize w3.heap.size=b0 at *
 go_cut [6] (λx6 wx=>∃(V:PV) (m:Nat) (A:Nat->PgV) (fl:List Nat) (pages tg tcap t0 t1 r0 r1:Nat),x6=.slice (some ⟨tg,0,none⟩) 2 tcap∧Hid (OpS X wx X.heap.size Gp mg b0 b1 V m A fl pages 2 (.slice (some ⟨tg,0,none⟩) 2 tcap) [t0,t1] [r0,r1]))
 case first =>
  go_wp2_with fail
  go_loopw [6,41] (λx6 x41 Y=>∃(i:Nat) (V:PV) (m:Nat) (A:Nat->PgV) (fl:List Nat) (pages:Nat) (tbs rts:List Nat),i<=2∧x41=.int .i64 (i:Int)∧Hid (OpS X Y X.heap.size Gp mg b0 b1 V m A fl pages i x6 tbs rts)) (λ_ x41 _=>2-(intOf x41).toNat)
  case atStart=>exact⟨0,V,1,A00,[],1,[],[],Nat.zero_le _,rfl,H3⟩
  case round =>
   clear H3;obtain⟨i,V,m,At,fl,pages,tbs,rts,hi,rfl,H⟩:=hrel;by_cases hlt:i<2
   ·have ki:(0:Int)<=(i:Int):=by omega
    have kn:(i:Int)<2:=by omega
    have h1:=H.out.mm;have h2:=H.out.pg;have HC:=hide (cCreate H.out.ts (by omega) (by omega) H.out.perm);clear h1 h2;go_wp2_with fail
    refine HC.out.mono ?_;rintro e w4⟨n,rfl,V4,A4,fl4,pages4,c1,c2,c3⟩;have HP:=hide (And.intro c1 (And.intro c2 c3));clear c1 c2 c3 HC;go_wp2_with fail
    refine(cOpenT Gp n w4).mono ?_;rintro e w5⟨rfl,k1,k2⟩;have HK:=hide (And.intro k1 k2);clear k1 k2;go_wp2_with fail
    refine(cnumL 0 _).mono ?_;rintro e w6⟨rfl,rfl⟩;have hb6:Below w4.heap.size w4 (w6.alloc (.cells #[(.pointer (some ⟨w4.heap.size,0,none⟩))] 38)):=HK.out.2.alloc (HK.out.2.size) _;have ht6:TB (w6.alloc (.cells #[(.pointer (some ⟨w4.heap.size,0,none⟩))] 38)) w4.heap.size Gp n:=by
     have k1':w6.heap[w4.heap.size]?=_:=HK.out.1;exact(heap_alloc_old w6 _ (gl k1')).trans k1'
    have hr6:=(H.out.stay2 HP.out.1 HP.out.2.1 hb6);have HR:=hide hr6;have HZ:=hide (λ(W:World) (v':Value) ho hg=>H.out.more (W:=W) (v':=v') HP.out.1 HP.out.2.1 HP.out.2.2 hb6 ht6 ho hg);have HS6:=hide (show X.heap.size<=(w6.alloc (.cells #[(.pointer (some ⟨w4.heap.size,0,none⟩))] 38)).heap.size from Nat.le_trans HP.out.1.lo hb6.size);clear hb6 ht6 hr6 HP HK;obtain⟨i0,hi0,hz0,hz1,hz2⟩:=info_parts infoTT;go_wp2_with (at_builtin;refine wpList_append_own_at _ rfl _ _ 30 rfl X.heap.size 38 i0 (.pointer none) 1 8 underlying30 hi0 hz0 hz1 hz2 rfl (by decide) _ i (tbs.map λb=>(.pointer (some ⟨b,0,none⟩))) rfl HR.out ⟨w6.heap.size,0,none⟩ 1 1 [(.pointer (some ⟨w4.heap.size,0,none⟩))] rfl rfl (newsT _ _) (λx hx=>by simp at hx;subst hx;rfl) (by unfold maxLen;omega) (by omega) HS6.out ?_)
    intro v7 w7 ho7 hg7 _ _;have HY:=hide (HZ.out w7 v7 ho7 hg7);clear ho7 hg7 HZ HR HS6;go_wp2_with fail
    refine⟨⟨i+1,_,_,_,_,_,_,_,by omega,by go_num,HY⟩,?_⟩;simp[intOf];omega
   ·have e2:i=2:=by omega
    subst e2;obtain⟨t0,t1,rfl⟩:=len2 H.out.len.1;obtain⟨r0,r1,rfl⟩:=len2 H.out.len.2;obtain⟨tg,tcap,rfl⟩:∃tg tcap,u6=Value.slice (some ⟨tg,0,none⟩) 2 tcap:=by
     rcases H.out.row.2 with⟨_,e⟩|⟨g,cap,cur,e,-⟩
     ·omega
     ·exact⟨g,cap,e⟩
    go_wp2_with fail
    go_meet
    case rel=>exact⟨V,m,At,fl,pages,tg,tcap,t0,t1,r0,r1,rfl,H⟩
 clear H3;clear V;obtain⟨V,m,At,fl,pages,tg,tcap,t0,t1,r0,r1,rfl,H⟩:=hcut;have h1:=H.out.mm;have HC:=hide (ctcommit H.out.ts (by omega));clear h1;go_wp2_with fail
 refine HC.out.mono ?_;rintro e w4⟨rfl,V4,K4,p1,p2,p3⟩;have HP:=hide (And.intro p1 (And.intro p2 p3));clear p1 p2 p3 HC;go_wp2_with fail
 refine(cnumL 0 _).mono ?_;rintro e w5⟨rfl,rfl⟩;have H5:Hid (LwE X (((w5.alloc (.cells #[(.slice none 0 0)] 34)).alloc (.cells #[(.slice none 0 0)] 34)).alloc (.cells #[(.pointer (some ⟨w5.heap.size,0,none⟩)),(.pointer (some ⟨(w5.heap.size+1),0,none⟩))] 31)) X.heap.size Gp tg mg (w5.heap.size+1+1) 0):=by
  have b1:Below w5.heap.size w5 (w5.alloc (.cells #[(.slice none 0 0)] 34)):=(Below.refl _ _).alloc (Nat.le_refl _) _;have b2:Below w5.heap.size w5 ((w5.alloc (.cells #[(.slice none 0 0)] 34)).alloc (.cells #[(.slice none 0 0)] 34)):=b1.alloc (by first | (simp;done) | (simp;omega)) _;have b3:Below w5.heap.size w5 (((w5.alloc (.cells #[(.slice none 0 0)] 34)).alloc (.cells #[(.slice none 0 0)] 34)).alloc (.cells #[(.pointer (some ⟨w5.heap.size,0,none⟩)),(.pointer (some ⟨(w5.heap.size+1),0,none⟩))] 31)):=b2.alloc (by first | (simp;done) | (simp;omega)) _;refine H.out.start (kg:=w5.heap.size+1+1) (k0:=w5.heap.size) (k1:=w5.heap.size+1) HP.out.1 HP.out.2.1 HP.out.2.2 b3 ?_ ?_ ?_ ⟨by omega,by omega,by omega⟩
  ·have:=heap_alloc_new ((w5.alloc (.cells #[(.slice none 0 0)] 34)).alloc (.cells #[(.slice none 0 0)] 34)) (.cells #[(.pointer (some ⟨w5.heap.size,0,none⟩)),(.pointer (some ⟨(w5.heap.size+1),0,none⟩))] 31);simpa using this
  ·rw[heap_alloc_old _ _ (by simp;omega),heap_alloc_old _ _ (by simp)];exact heap_alloc_new w5 _
  ·rw[heap_alloc_old _ _ (by simp)];have:=heap_alloc_new (w5.alloc (.cells #[(.slice none 0 0)] 34)) (.cells #[(.slice none 0 0)] 34);simpa using this
 clear H HP;go_wp2_with fail
 refine(cshortL sa sl sc _ hn hc HA.out).mono ?_;rintro e w6⟨rfl,rfl⟩;clear HA;obtain⟨W5,hW5⟩:∃W,(((w5.alloc (.cells #[(.slice none 0 0)] 34)).alloc (.cells #[(.slice none 0 0)] 34)).alloc (.cells #[(.pointer (some ⟨w5.heap.size,0,none⟩)),(.pointer (some ⟨(w5.heap.size+1),0,none⟩))] 31))=W:=⟨_,rfl⟩;rw[hW5] at H5 ⊢;clear hW5;generalize w5.heap.size+1+1=kg at *
 go_upto_block 2 with fail
 go_cut [] (λwx=>∃i:Nat,i<=250∧Hid (LwE X wx X.heap.size Gp tg mg kg i))
 case first =>
  go_wp2_with fail
  go_loopw [75] (λx75 Y=>∃i:Nat,i<=min sl 250∧x75=.int .i64 (i:Int)∧Hid (LwE X Y X.heap.size Gp tg mg kg i)) (λx75 _=>min sl 250-(intOf x75).toNat)
  case atStart=>exact⟨0,Nat.zero_le _,rfl,H5⟩
  case round =>
   clear H5;obtain⟨i,hi,rfl,HE⟩:=hrel;by_cases hlt:i<min sl 250
   ·have hsl:i<sl:=by omega
    have hi2:i<250:=by omega
    rcases HL.out with h0|⟨b,off,rfl,hbX,hE⟩
    ·omega
    have ki:(0:Int)<=(i:Int):=by omega
    have kn:(i:Int)<((min sl 250:Nat):Int):=by omega
    obtain⟨V,K,pk,m,At,fl,pages,Ak,flk,s,q,hW,hQ⟩:=HE.out;have hbel:=hW.mem.bel;have zb:=hbel.size;have hbw:b<wr.heap.size:=by omega
    have g:∀j,j<8->wr.cell? ⟨b,off+(i*8+j),none⟩=(actM (A i))[j]?:=λj hj=>(hbel.cell (p:=⟨b,off+(i*8+j),none⟩) hbX).trans ((hE i hsl).2 j hj)
    have d0:wr.cell? ⟨b,off+i * 8,none⟩=some (.int .i64 (A i).k):=g 0 (by decide);have d1:wr.cell? ⟨b,off+i * 8+1,none⟩=some (.int .i64 (A i).f):=g 1 (by decide);have d2:wr.cell? ⟨b,off+i * 8+2,none⟩=some (.int .i64 (A i).a):=g 2 (by decide);have d3:wr.cell? ⟨b,off+i * 8+3,none⟩=some (.int .i64 (A i).n):=g 3 (by decide);have d4:wr.cell? ⟨b,off+i * 8+4,none⟩=some (.string (A i).s):=g 4 (by decide);have d5:wr.cell? ⟨b,off+i * 8+5,none⟩=some (.string (A i).t):=g 5 (by decide);have d6:wr.cell? ⟨b,off+i * 8+6,none⟩=some (.slice (A i).kp (A i).kn (A i).kc):=g 6 (by decide);have d7:wr.cell? ⟨b,off+i * 8+7,none⟩=some (.slice (A i).ca (A i).cn (A i).cc):=g 7 (by decide);have OK:Hid (okAM (A i)):=(hE i hsl).1;have HT:=hide (And.intro hW hQ);clear g hE HL hW hQ hbel HE zb;generalize hAi:A i=ai at *;clear hAi;obtain⟨⟨ok1,ok2⟩,ok3,ok5,ok6⟩:=OK.out;have HB1:Hid (Below wr.heap.size wr (wr.alloc (.cells #[.int .i64 ai.k,.int .i64 ai.f,.int .i64 ai.a,.int .i64 ai.n,.string ai.s,.string ai.t,.slice ai.kp ai.kn ai.kc,.slice ai.ca ai.cn ai.cc] 45))):=(Below.refl _ _).alloc (Nat.le_refl _) _;have HAB:Hid (BxA (wr.alloc (.cells #[.int .i64 ai.k,.int .i64 ai.f,.int .i64 ai.a,.int .i64 ai.n,.string ai.s,.string ai.t,.slice ai.kp ai.kn ai.kc,.slice ai.ca ai.cn ai.cc] 45)) wr.heap.size ai):=heap_alloc_new wr _;obtain⟨kx,hkx⟩:∃kx:Nat,pickI ai.f 2=(kx:Int):=⟨(pickI ai.f 2).toNat,by have:=pickI_in ai.f (n:=2) (by decide);omega⟩;have hk2:kx<2:=by have:=pickI_in ai.f (n:=2) (by decide);omega
    have HPK:=hide (λ(Y:World)=>(show Calls prog 12 #[.int .i64 ai.f,.int .i64 2] Y (λe w'=>e=.returned (.int .i64 (kx:Int))∧w'=Y) from hkx ▸ cpickL ai.f 2 Y ⟨ok1,ok2⟩ (by decide)));clear hkx OK;go_wp2_with fail
    refine(HPK.out _).mono ?_;rintro e wp⟨rfl,rfl⟩;have HW1:=hide (HT.out.1.below HB1.out.drew);have HQ1:=hide HT.out.2;obtain⟨ab,hab⟩:∃ab,wr.heap.size=ab:=⟨_,rfl⟩;obtain⟨Wa,hWa⟩:∃Wa,wr.alloc (.cells #[.int .i64 ai.k,.int .i64 ai.f,.int .i64 ai.a,.int .i64 ai.n,.string ai.s,.string ai.t,.slice ai.kp ai.kn ai.kc,.slice ai.ca ai.cn ai.cc] 45)=Wa:=⟨_,rfl⟩;rw[hab] at HAB ⊢;rw[hWa] at HAB HW1 ⊢;clear hWa hab HB1 HT d0 d1 d2 d3 d4 d5 d6 d7 hbw HPK
    go_upto_region 24 with fail
    go_cut [111] (λx111 wx=>x111=.bool false∧Hid (LwI X wx X.heap.size Gp tg mg kg ai.k 0 (i+1))∧Hid (BxA wx ab ai))
    case first =>
     by_cases h7:ai.k=7
     ·refine ty24a Gp tg mg ab kx tcap (λY=>LwI X Y X.heap.size Gp tg mg kg ai.k 0 (i+1)∧BxA Y ab ai) (λY hY=>?_) ?_ (by simp) rfl rfl rfl rfl rfl (by kernel_rfl) (by kernel_rfl) (by kernel_rfl) (by kernel_rfl) ?_
      ·have hb:BxA Y ab ai:=hY.elim (λh=>by rw[h];exact HAB.out) (·.2);have:=hb.cells.1;rw[h7] at this;exact this
      ·refine(kdrop HW1.out HQ1.out hk2 (by omega) tcap 2).mono ?_;rintro e w2⟨rfl,p1,p2⟩;exact⟨rfl,h7 ▸ p1,p2 _ _ HAB.out⟩
      ·intro X9 hX9;have HY:=hide hX9;clear hX9;simp only[vs,Tty24a,List.map_cons,List.map_nil,sets,List.setIfInBounds_toArray,List.set_cons_zero,List.set_cons_succ];go_wp2_with fail
       go_meet
       case rel=>exact⟨rfl,HY.out.1,HY.out.2⟩
     ·obtain⟨c1,a1,a2⟩:=HW1.out.mem.tr;obtain⟨c2,b1,b2⟩:=HW1.out.mem.mr;have t1:Wa.drew.cell? ⟨tg,kx,none⟩=some (.pointer (some ⟨(q kx).tb,0,none⟩)):=by simp[World.cell?,a1,a2 kx hk2]
      have t2:Wa.drew.cell? ⟨mg,kx,none⟩=some (.pointer (some ⟨(q kx).mb,0,none⟩)):=by simp[World.cell?,b1,b2 kx hk2]
      refine ty24b Gp tg mg ab kx tcap (q kx).tb (q kx).mb ai.k ai.f ai.a ai.n ai.s ai.t ai.kp ai.ca ai.kn ai.kc ai.cn ai.cc (λY=>LwI X Y X.heap.size Gp tg mg kg ai.k 0 (i+1)∧BxA Y ab ai) h7 (by omega) (by omega) HAB.out.cells t1 t2 ?_ (by simp) rfl rfl rfl rfl rfl (by kernel_rfl) (by kernel_rfl) (by kernel_rfl) (by kernel_rfl) ?_
      ·refine(kstep ai.k HW1.out HQ1.out hk2 (by omega) h7 ok5 ok6 ok3).mono ?_;rintro e w2⟨rfl,p1,p2⟩;exact⟨rfl,p1,p2 _ _ HAB.out⟩
      ·intro X9 hX9;have HY:=hide hX9;clear hX9 a1 a2 b1 b2 t1 t2;simp only[vs,Tty24b,List.map_cons,List.map_nil,sets,List.setIfInBounds_toArray,List.set_cons_zero,List.set_cons_succ];go_wp2_with fail
       go_meet
       case rel=>exact⟨rfl,HY.out.1,HY.out.2⟩
    obtain⟨rfl,HI,HAB2⟩:=hcut;clear HW1 HQ1 HAB;go_wp2_with fail
    go_loopw [114] (λx114 Y=>∃n:Nat,n<=2∧x114=.int .i64 (n:Int)∧Hid (LwI X Y X.heap.size Gp tg mg kg ai.k n (i+1))∧Hid (BxA Y ab ai)) (λx114 _=>2-(intOf x114).toNat)
    case atStart=>exact⟨0,Nat.zero_le _,rfl,HI,HAB2⟩
    case round =>
     clear HI HAB2;obtain⟨n,hn2,rfl,HI,HAB⟩:=hrel;by_cases hlt2:n<2
     ·have n0:(0:Int)<=(n:Int):=by omega
      have n2:(n:Int)<2:=by omega
      have q0:=HAB.out.cells.1;by_cases h6:ai.k=6∨ai.k=7
      ·obtain⟨V,K,pk,m,At,fl,pages,Ak,flk,s,q,hW,hQ⟩:=HI.out;obtain⟨c2,b1,b2⟩:=hW.mem.mr;obtain⟨c3,e1,e2⟩:=hW.mem.kr;have t2:wr.cell? ⟨mg,n,none⟩=some (.pointer (some ⟨(q n).mb,0,none⟩)):=by simp[World.cell?,b1,b2 n hlt2]
       have t3:wr.cell? ⟨kg,n,none⟩=some (.pointer (some ⟨(q n).kb,0,none⟩)):=by simp[World.cell?,e1,e2 n hlt2]
       have t4:wr.cell? ⟨(q n).mb,0,none⟩=some (q n).v:=by simp[World.cell?,(hW.mem.mp n hlt2).blk]
       have hkl:kg<wr.heap.size:=(gl e1);have t6:wr.frozen? ⟨kg,n,none⟩=false:=by simp[World.frozen?,e1]
       have e1':(wr.alloc (.cells #[(q n).v] 34)).heap[kg]?=some (.cells c3 31 (0,0)):=(heap_alloc_old wr _ hkl).trans e1;have t7:(wr.alloc (.cells #[(q n).v] 34)).frozen? ⟨kg,n,none⟩=false:=by simp[World.frozen?,e1']
       have t8:(wr.alloc (.cells #[(q n).v] 34)).cell? ⟨kg,n,none⟩=some (.pointer (some ⟨(q n).kb,0,none⟩)):=by simp[World.cell?,e1',e2 n hlt2]
       obtain⟨z1,z2⟩:=hW.keep hQ h6 hlt2;have he:(wr.alloc (.cells #[(q n).v] 34)).setCell ⟨kg,n,none⟩ (.pointer (some ⟨wr.heap.size,0,none⟩))=(wr.setCell ⟨kg,n,none⟩ (.pointer (some ⟨wr.heap.size,0,none⟩))).alloc (.cells #[(q n).v] 34):=by go_simp
       rw[he] at z1 z2;clear he;have HZ:=hide (And.intro z1 (show BxA _ ab ai from z2 _ _ HAB.out));obtain⟨av,cv,hv⟩:=(show ∃av cv,(q n).v=.slice av (q n).em.length cv from by obtain⟨a,c,h,-⟩:=row_el (hW.mem.mp n hlt2).row;exact⟨a,c,h⟩);generalize (q n).v=vv at *;generalize (q n).mb=mb at *;generalize (q n).kb=kb at *;subst hv;clear hW hQ b1 b2 e1 e2 z1 z2 HI e1';rcases h6 with h6 | h6
       ·rw[h6] at q0;go_wp2_with fail
        refine⟨⟨n+1,by omega,by go_num,hide HZ.out.1,hide HZ.out.2⟩,?_⟩;simp[intOf];omega
       ·rw[h6] at q0;go_wp2_with fail
        refine⟨⟨n+1,by omega,by go_num,hide HZ.out.1,hide HZ.out.2⟩,?_⟩;simp[intOf];omega
      ·by_cases h8:ai.k=8
       ·obtain⟨V,K,pk,m,At,fl,pages,Ak,flk,s,q,hW,hQ⟩:=HI.out;obtain⟨c2,b1,b2⟩:=hW.mem.mr;obtain⟨c3,e1,e2⟩:=hW.mem.kr;have t2:wr.cell? ⟨mg,n,none⟩=some (.pointer (some ⟨(q n).mb,0,none⟩)):=by simp[World.cell?,b1,b2 n hlt2]
        have t3:wr.cell? ⟨kg,n,none⟩=some (.pointer (some ⟨(q n).kb,0,none⟩)):=by simp[World.cell?,e1,e2 n hlt2]
        have t4:wr.cell? ⟨(q n).mb,0,none⟩=some (q n).v:=by simp[World.cell?,(hW.mem.mp n hlt2).blk]
        have t5:wr.cell? ⟨(q n).kb,0,none⟩=some (q n).vk:=by simp[World.cell?,(hW.mem.kp n hlt2).blk]
        rw[h8] at hQ;have t6:wr.frozen? ⟨(q n).mb,0,none⟩=false:=(hW.mem.mp n hlt2).cells.2.1;obtain⟨z1,z2⟩:=hW.back hQ hlt2;have HZ:=hide (And.intro (z1.below (Y:=((wr.setCell ⟨(q n).mb,0,none⟩ (q n).vk).drew)) (Below.refl _ _).drew) (show BxA ((wr.setCell ⟨(q n).mb,0,none⟩ (q n).vk).drew) ab ai from z2 _ _ HAB.out));obtain⟨av,cv,hv⟩:=(show ∃av cv,(q n).v=.slice av (q n).em.length cv from by obtain⟨a,c,h,-⟩:=row_el (hW.mem.mp n hlt2).row;exact⟨a,c,h⟩);obtain⟨aw,cw,hw⟩:=(show ∃av cv,(q n).vk=.slice av (q n).ekm.length cv from by obtain⟨a,c,h,-⟩:=row_el (hW.mem.kp n hlt2).row;exact⟨a,c,h⟩);generalize (q n).v=vv at *;generalize (q n).vk=vk at *;generalize (q n).mb=mb at *;generalize (q n).kb=kb at *;subst hv hw;clear hW hQ b1 b2 e1 e2 z1 z2 HI;rw[h8] at q0 ⊢
        go_upto_region 34 with fail
        go_region
        all_goals
         go_wp2_with fail
         refine⟨⟨n+1,by omega,by go_num,hide HZ.out.1,hide HZ.out.2⟩,?_⟩;simp[intOf];omega
       ·have h61:¬ai.k=6:=λe=>h6 (.inl e)
        have h71:¬ai.k=7:=λe=>h6 (.inr e)
        have HZ:=hide (HI.out.nothing h61 h71 h8);clear HI;go_wp2_with fail
        refine⟨⟨n+1,by omega,by go_num,HZ,HAB⟩,?_⟩;simp[intOf];omega
     ·have e2:n=2:=by omega
      subst e2;have HZ2:=hide HI.out.done;clear HI HAB;go_wp2_with fail
      refine⟨⟨i+1,by omega,by go_num,HZ2⟩,?_⟩;simp[intOf];omega
   ·go_wp2_with fail
    go_meet
    case rel=>exact⟨i,by omega,HE⟩
 obtain⟨n,hn250,HE⟩:=hcut;clear H5 HL;go_wp2_with fail
 go_loopw [153] (λx153 Y=>∃j:Nat,j<=2∧x153=.int .i64 (j:Int)∧Hid (LwE X Y X.heap.size Gp tg mg kg n)) (λx153 _=>2-(intOf x153).toNat)
 case atStart=>exact⟨0,Nat.zero_le _,rfl,HE⟩
 case round =>
  clear HE;obtain⟨j,hj2,rfl,HE⟩:=hrel;by_cases hlt:j<2
  ·obtain⟨V,K,pk,m,At,fl,pages,Ak,flk,s,q,hW,hQ⟩:=HE.out;have n0:(0:Int)<=(j:Int):=by omega
   have n2:(j:Int)<2:=by omega
   have hs:=hW.sem.small hn250 hlt;obtain⟨c1,a1,a2⟩:=hW.mem.tr;have t1:wr.cell? ⟨tg,j,none⟩=some (.pointer (some ⟨(q j).tb,0,none⟩)):=by simp[World.cell?,a1,a2 j hlt]
   have ht:TB wr (q j).tb Gp (numT (s j).d (s j).t):=by rw[(hW.sem.rt j hlt).1];exact hW.mem.tb j hlt
   have HC:=hide (@cScan wr X.heap.size X.heap.size Gp V K pk m At fl [] pages (q j).tb (s j).es (besT (s (oth j)).d (s (oth j)).t) (s j).d (s j).t hW.sem.ts (by omega) (hW.sem.tr j hlt) ht ⟨#[]⟩ ⟨#[]⟩ (-1) (by omega));have HL2:=hide (show(s j).es.length<=100000 from by omega);have HW:=hide (And.intro hW hQ);clear hW hQ a1 a2 ht hs HE;go_wp2_with fail
   refine HC.out.mono ?_;rintro e w2⟨fv,V2,rfl,p1,p2,p3⟩;rw[scan_full] at p3;have hM:=HW.out.1.mem.stay HW.out.1.sem.ts p2;obtain⟨c2,b1,b2⟩:=hM.mr;have t2:w2.cell? ⟨mg,j,none⟩=some (.pointer (some ⟨(q j).mb,0,none⟩)):=by simp[World.cell?,b1,b2 j hlt]
   have t4:w2.cell? ⟨(q j).mb,0,none⟩=some (q j).v:=by simp[World.cell?,(hM.mp j hlt).blk]
   have hEb:EL w2 (q j).v (s j).es:=by rw[<-(HW.out.2 j hlt).1];exact row_el (hM.mp j hlt).row
   have HS:=hide (csameE (row_el (ownN_mono p3 (Nat.zero_le _))) hEb HL2.out);have HW2:=hide (show LwM X w2 X.heap.size Gp tg mg kg V2 K pk m At fl pages Ak flk s q n from⟨HW.out.1.sem.stay p1,hM⟩);obtain⟨av,cv,hv⟩:=(show ∃av cv,(q j).v=.slice av (s j).es.length cv from by obtain⟨a,c,h,-⟩:=hEb;exact⟨a,c,h⟩);obtain⟨aw,cw,rfl⟩:=own_formN p3;rw[hv] at t4 HS;clear p1 p2 p3 hM b1 b2 hEb HC hv t1;go_wp2_with fail
   refine(cnumL 0 _).mono ?_;rintro e w3⟨rfl,rfl⟩;go_wp2_with fail
   refine HS.out.mono ?_;rintro e w4⟨rfl,hb4⟩;have HW4:=hide (show LwE X w4 X.heap.size Gp tg mg kg n from⟨V2,K,pk,m,At,fl,pages,Ak,flk,s,q,HW2.out.below hb4,HW.out.2⟩);clear hb4 HS HW2 t2 t4;go_wp2_with fail
   refine⟨⟨j+1,by omega,by go_num,HW4⟩,?_⟩;simp[intOf];omega
  ·go_wp2_with fail
   go_ret;exact⟨rfl,HE.out.bel⟩
open Go.ChangeShapes Go.WideShapes Go.ChangeAt Go.Deep
theorem cellsAct:prog.cellsOf 45=8:=by kernel_rfl
theorem bytesAct:prog.bytesOf 45=112:=by kernel_rfl
theorem cIntA:prog.cellsOf 3=1:=by kernel_rfl
theorem cStrA:prog.cellsOf 9=1:=by kernel_rfl
theorem cIntsA:prog.cellsOf 42=1:=by kernel_rfl
theorem cTextsA:prog.cellsOf 43=1:=by kernel_rfl
theorem cell_ltA {o:Nat}(h:W.cell? ⟨b,o,none⟩=some v):b<W.heap.size:=by
 rcases Nat.lt_or_ge b W.heap.size with h'|h'
 ·exact h'
 ·simp[World.cell?,Array.getElem?_eq_none h'] at h
theorem trod8 {enc:TypeId×Value->H}{base:Nat}{spare:Nat->Bool}{held:Bool}{t:TypeId}{f0 f1 f2 f3 f4 f5 f6 f7:Field}{fuel:Nat}{cs:List Value}{x:DataW H×List MemPlace}(ht:P.underlying t=some (.struct #[f0,f1,f2,f3,f4,f5,f6,f7]))(h:DataW.trod enc P w base spare held fuel t cs=some x):∃y0 y1 y2 y3 y4 y5 y6 y7 n,x.1=.agg [y0.1,y1.1,y2.1,y3.1,y4.1,y5.1,y6.1,y7.1]∧cs.length=P.cellsOf t∧DataW.trod enc P w base spare held n f0.type ((cs.drop f0.offset).take (P.cellsOf f0.type))=some y0∧DataW.trod enc P w base spare held n f1.type ((cs.drop f1.offset).take (P.cellsOf f1.type))=some y1∧DataW.trod enc P w base spare held n f2.type ((cs.drop f2.offset).take (P.cellsOf f2.type))=some y2∧DataW.trod enc P w base spare held n f3.type ((cs.drop f3.offset).take (P.cellsOf f3.type))=some y3∧DataW.trod enc P w base spare held n f4.type ((cs.drop f4.offset).take (P.cellsOf f4.type))=some y4∧DataW.trod enc P w base spare held n f5.type ((cs.drop f5.offset).take (P.cellsOf f5.type))=some y5∧DataW.trod enc P w base spare held n f6.type ((cs.drop f6.offset).take (P.cellsOf f6.type))=some y6∧DataW.trod enc P w base spare held n f7.type ((cs.drop f7.offset).take (P.cellsOf f7.type))=some y7:=by
 obtain⟨xs,n,_,rfl,hl,hlen,hf⟩:=DataW.trod_struct ht h
 match xs,hlen with
 | [y0,y1,y2,y3,y4,y5,y6,y7],_=>exact⟨y0,y1,y2,y3,y4,y5,y6,y7,n,by simp,hl,by simpa using hf 0 f0 rfl,by simpa using hf 1 f1 rfl,by simpa using hf 2 f2 rfl,by simpa using hf 3 f3 rfl,by simpa using hf 4 f4 rfl,by simpa using hf 5 f5 rfl,by simpa using hf 6 f6 rfl,by simpa using hf 7 f7 rfl⟩
theorem weights_all {e:TypeId}:∀{l:List (DataW H)} {d:DataW H},d∈l->n∈d.weights P e->n∈DataW.weightsAll P e l
 | x :: l, d, h, hn => by
  simp only[DataW.weightsAll,List.mem_append];rcases List.mem_cons.1 h with rfl | h
  ·exact .inl hn
  ·exact .inr (weights_all h hn)
def act0M:ActM:=⟨0,0,0,0,⟨#[]⟩,⟨#[]⟩,none,0,0,none,0,0⟩
theorem open_actsM {enc:TypeId×Value->H}{a:Option Addr}{len cap:Nat}{d:DataW H}{p:List MemPlace}(h:DataW.Trod enc prog W 0 (λ_=>true) true 22 (.slice a len cap) d p)(hz:∀n∈d.weights prog 22,n<=reachBytes):(∃A,liesAM W a len A)∧len<=cap∧(a=none->len=0∧cap=0)∧len<=reachBytes:=by
 haveI:Inhabited ActM:=⟨act0M⟩;obtain⟨fuel,hf⟩:=h;rcases open_slice underlying22 hf with⟨hcs,hx⟩ | ⟨ad,l,c,m,n,D,Pl,hcs,_,hl,_,hm,hx,hel⟩
 ·simp[Value.cells] at hcs;obtain⟨rfl,rfl,rfl⟩:=hcs;exact⟨⟨λ_=>act0M,.inl rfl⟩,Nat.le_refl _,λ_=>⟨rfl,rfl⟩,Nat.zero_le _⟩
 ·simp[Value.cells] at hcs;obtain⟨rfl,rfl,rfl⟩:=hcs;simp only[if_true] at hm;simp only[Prod.mk.injEq] at hx;have hd:=hx.1;have hw:∀i,i<len->∀q∈(D i).weights prog 45,q<=reachBytes:=λi hi q hq=>by
   refine hz q ?_;rw[hd];simp only[DataW.weights,underlying22];exact List.mem_cons_of_mem _ (List.mem_append.2 (.inl (weights_all (List.mem_map.2 ⟨i,List.mem_range.2 hi,rfl⟩) hq)))
  have hlen0:len<=reachBytes:=by
   have:=hz ((((List.range len).map D).length+((List.range (m-len)).map λj=>D (len+j)).length)*prog.bytesOf 45) (by
    rw[hd];simp only[DataW.weights,underlying22];exact List.mem_cons_self ..)
   rw[bytesAct] at this;simp only[List.length_map,List.length_range] at this;omega
  have each:∀i,i<len->∃x:ActM,okAM x∧∀j,j<8->W.cell? (ad.add (i*8+j))=(actM x)[j]?:=by
   intro i hi;obtain⟨cs',h1,h2⟩:=hel i (by omega);rw[cellsAct] at h1;obtain⟨_,hlen,hcell⟩:=World.cells?_some h1;obtain⟨y0,y1,y2,y3,y4,y5,y6,y7,k,e8,_,g0,g1,g2,g3,g4,g5,g6,g7⟩:=trod8 underlying45 h2;rw[cIntA] at g0 g1 g2 g3;rw[cStrA] at g4 g5;rw[cIntsA] at g6;rw[cTextsA] at g7;obtain⟨x0,e0,_,_⟩:=DataW.trod_int underlying3 g0;obtain⟨x1,e1,_,w1⟩:=DataW.trod_int underlying3 g1;obtain⟨x2,e2,_,_⟩:=DataW.trod_int underlying3 g2;obtain⟨x3,e3,_,w3⟩:=DataW.trod_int underlying3 g3;obtain⟨x4,e4,d4,_⟩:=DataW.trod_string underlying9 g4;obtain⟨x5,e5,d5,_⟩:=DataW.trod_string underlying9 g5;have q:∀j,j<8->W.cell? (ad.add (i*8+j))=cs'[j]?:=λj hj=>by
    have:=hcell j (by omega);rw[add_add] at this;exact this
   obtain⟨ka,kn,kc,e6⟩:∃(ka:Option Addr) (kn kc:Nat),(cs'.drop 6).take 1=[.slice ka kn kc]:=by
    rcases open_ints underlying42 underlying3 cIntA g6 with⟨e6,hx6⟩|⟨ka,kn,kc,zs,e6,_,hkl,_,hzl,hx6,hkc,_⟩
    ·exact⟨none,0,0,e6⟩
    ·exact⟨some ka,kn,kc,e6⟩
   obtain⟨ca,cn,cc,e7⟩:∃(ca:Option Addr) (cn cc:Nat),(cs'.drop 7).take 1=[.slice ca cn cc]:=by
    rcases open_strs underlying43 underlying9 cStrA g7 with⟨e,_⟩|⟨a',l',c',_,_,e,_⟩
    ·exact⟨_,_,_,e⟩
    ·exact⟨_,_,_,e⟩
   match cs',hlen with
   | [v0, v1, v2, v3, v4, v5, v6, v7], _ =>
    simp at e0 e1 e2 e3 e4 e5 e6 e7;subst e0 e1 e2 e3 e4 e5 e6 e7;have s4:x4.size<=reachBytes:=hw i hi _ (by
     have e8':D i=_:=e8;rw[e8'];simp only[DataW.weights,underlying45];refine DataW.weights_mem_each (j:=4) (t:=9) rfl rfl _ ?_;rw[d4];simp only[DataW.weights];exact List.mem_singleton.2 (by rw[Array.length_toList];rfl))
    have s5:x5.size<=reachBytes:=hw i hi _ (by
     have e8':D i=_:=e8;rw[e8'];simp only[DataW.weights,underlying45];refine DataW.weights_mem_each (j:=5) (t:=9) rfl rfl _ ?_;rw[d5];simp only[DataW.weights];exact List.mem_singleton.2 (by rw[Array.length_toList];rfl))
    unfold reachBytes at s4 s5;exact⟨⟨x0,x1,x2,x3,x4,x5,ka,kn,kc,ca,cn,cc⟩,⟨bounds_i64 w1,bounds_i64 w3,by show x4.size<=_;omega,by show x5.size<=_;omega⟩,q⟩
  obtain⟨A,hA⟩:=choose_lt each;refine⟨⟨A,?_⟩,hl,(λe=>by cases e),hlen0⟩;by_cases h0:len=0
  ·exact .inl h0
  ·right;obtain⟨b,off,spot⟩:=ad;have h1:=(hA 0 (by omega)).2 0 (by decide);have h1':W.cell? ((⟨b,off,spot⟩:Addr).add 0)=some (.int .i64 (A 0).k):=h1;have hspot:spot=none:=by simpa[Addr.add] using World.cell?_spot h1'
   subst hspot;rw[Addr.add_lit] at h1';refine⟨b,off,rfl,cell_ltA h1',λi hi=>⟨(hA i hi).1,λj hj=>?_⟩⟩;have:=(hA i hi).2 j hj
   rwa [Addr.add_lit] at this
end Go.Proofs.YtiaibgfhigdgdaaGreat
