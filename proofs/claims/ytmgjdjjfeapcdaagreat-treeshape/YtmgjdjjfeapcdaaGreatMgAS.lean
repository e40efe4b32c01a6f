/- package tree: settleRoot -/
import Derived.Test.YtmgjdjjfeapcdaaGreatMgAR
namespace Go.Proofs.YtmgjdjjfeapcdaaGreat
open Go.RowKit Go.Lib Go.Maps Go.Sort
attribute [local go_sem ↓] Go.wp_at_zero Go.wp_at_succ
/- a node gets another page -/
theorem page_set {w:World} {p:Nat} {v:NV} {s:Value} (hn:NB w p v s) (k l:Nat) (s':Value) (cs:List ByteArray) {b:Nat} (hb:b≤p) :
    NB ((((w).setCell ⟨p,0,none⟩ (.int .i64 (k:Int))).setCell ⟨p,1,none⟩ (.int .i64 (l:Int))).setCell ⟨p,2,none⟩ s') p { v with kind:=k,link:=l,cells:=cs } s'∧NF b w ((((w).setCell ⟨p,0,none⟩ (.int .i64 (k:Int))).setCell ⟨p,1,none⟩ (.int .i64 (l:Int))).setCell ⟨p,2,none⟩ s')∧w.grownBy ((((w).setCell ⟨p,0,none⟩ (.int .i64 (k:Int))).setCell ⟨p,1,none⟩ (.int .i64 (l:Int))).setCell ⟨p,2,none⟩ s') (some p):=by
  have hg:w.grownBy ((((w).setCell ⟨p,0,none⟩ (.int .i64 (k:Int))).setCell ⟨p,1,none⟩ (.int .i64 (l:Int))).setCell ⟨p,2,none⟩ s') (some p):=((But.refl w (some p)).set 0 _).set 1 _ |>.set 2 _
  refine ⟨?_,(NF.refl w).set hg hb (.inr ⟨_,hn⟩),hg⟩
  unfold NB
  rw [set_blk (set_blk (set_blk hn))]
  rfl
theorem NB.grown {w w':World} {p q:Nat} {v:NV} {s:Value} (hn:NB w q v s) (hg:w.grownBy w' (some p)) (hne:¬ q=p):NB w' q v s:=(hg.block q (Array.getElem?_eq_some_iff.1 hn).1 (fun e=>by injection e with e;exact hne e)).trans hn
theorem StB.grown {w w':World} {p:Nat} {v:NV} {s:Value} {a:Option Addr} {l:List ByteArray} (h:StB w a l) (hn:NB w p v s) (hg:w.grownBy w' (some p)):StB w' a l:=by
  rcases h with h | ⟨b,off,cur,e,hh,hc⟩
  · exact .inl h
  · exact .inr ⟨b,off,cur,e,(hg.block b (Array.getElem?_eq_some_iff.1 hh).1 (fun e=>by injection e with e;exact ne_CC ⟨_,hn⟩ ⟨_,hh⟩ (by decide) e)).trans hh,hc⟩
def setPost (w:World) (B D Gp:Nat) (V:PV) (K:Pgs) (pk m pages:Nat) (os:List Nat) (es:List Ent) (rt b:Nat) (w':World):Prop:=
  ∃ (V':PV) (A':Nat→PgV) (fl':List Nat) (pages' d':Nat) (t:T d'),TS w' B D Gp V' K pk (m+7) A' fl' pages'∧Tr A' fl' pages' os t es∧numT d' t=rt∧TF b B w w' V V'∧pages'≤pages+2
section
variable {w w':World} {B D Gp:Nat} {V V':PV} {K:Pgs} {pk m:Nat} {A:Nat→PgV} {fl os:List Nat} {pages tb root rt:Nat} {es:List Ent}
theorem Sx.wr {d:Nat} {c:Cx d} {x:T d} (h:Sx A fl pages os c x es) (v:PgV):Sx (updA A (numT d x) v) fl pages os c x es:=h.upd (.inr (.inr (.inr rfl))) v
/- it is written -/
set_option maxRecDepth 20000 in
set_option maxHeartbeats 2000000 in
theorem croot0 {d:Nat} {x:T d} {z:PN} (h:TS w B D Gp V K pk m A fl pages) (hm:m≤30000) (ht:TB w tb Gp root) (hS:Stl w A fl pages os es rt (.top d) x [z]) (hu:usedC (cellsT d x)≤1012) (hs:d=0∨¬ cellsT d x=[]) :
    Calls Tryz.prog 158 #[(.pointer (some ⟨tb,0,none⟩)),(.pointer (some ⟨z.p,0,none⟩))] w fun e w'=>e=.returned (.tuple #[])∧setPost w B D Gp V K pk m pages os es rt z.b w':=by
  obtain ⟨tk,hv⟩:=hS.vs
  have hv:z.v=nvT d x ⟨#[]⟩ ⟨#[]⟩ tk:=by simpa [Cx.nvs,Cx.lo,Cx.hi] using hv
  have hnr:NR w z.p (nvT d x ⟨#[]⟩ ⟨#[]⟩ tk):=by rw [← hv];exact (hS.nn z (by simp)).nr
  have hown:=hS.sx.ownX
  have hk5:1≤kindT d∧kindT d≤5:=by rcases kind_cases d with ⟨_,e⟩ | ⟨_,e⟩ <;> rw [e] <;> omega
  have HW:=hide (fun (Y:World) (hY:Below w.heap.size w Y)=>ctwrite (h.below hY).1 (by omega) (h.stayTB (h.below hY).2 ht) (h.stayNR (h.below hY).2 hnr) (show okP (pgN (nvT d x ⟨#[]⟩ ⟨#[]⟩ tk)) from ⟨hk5,hS.lks,hu⟩) hown.1 hown.2.1 hown.2.2)
  have HP:Hid (∀ Y w' V',Below w.heap.size w Y→TS w' B D Gp V' K pk (m+1) (updA A (numT d x) (pgT d x)) fl pages→St2 Y w' B V V'→setPost w B D Gp V K pk m pages os es rt z.b w'):=fun Y w' V' hY k1 k2 =>
    ⟨V',_,fl,pages,d,x,k1.mono (by omega),⟨hS.sx.wr _,updA_at _ _ _,⟨hS.fk,.inl rfl,hu,hs⟩⟩,hS.rt,(h.tf ((h.below hY).2.trans k2) z.b),by omega⟩
  obtain ⟨a,cp,nb,st⟩:=hnr
  obtain ⟨u0,u1,u2,u3,u4,u5,u6,u7,u8⟩:=nb.cells
  have HUS:=hide (cusedB st cp (by have:=hu;show usedC (cellsT d x)≤_;omega))
  have hno:(kindT d=2∧(cellsT d x).length=0)→False:=fun ⟨h1,h2⟩=>by
    rcases hs with e | e
    · subst e;cases h1
    · exact e (List.length_eq_zero_iff.1 h2)
  replace u0:w.cell? ⟨z.p,0,none⟩=some (.int .i64 (kindT d:Int)):=u0
  replace u2:w.cell? ⟨z.p,2,none⟩=some (.slice a (cellsT d x).length cp):=u2
  replace HUS:Hid (Calls Tryz.prog 118 #[.slice a (cellsT d x).length cp] w fun e w'=>e=.returned (.int .i64 (usedC (cellsT d x):Int))∧w'=w):=HUS
  generalize kindT d=kd at *
  generalize usedC (cellsT d x)=us at *
  generalize (cellsT d x).length=ln at *
  have hus:¬ (1012:Int)<(us:Int):=by omega
  clear h ht hS hv hown nb st u1 u3 u4 u5 u6 u7 hs
  by_cases hk2:kd=2
  · have hl0:¬ ln=0:=fun e=>hno ⟨hk2,e⟩
    replace hl0:¬ (ln:Int)=0:=by omega
    subst hk2
    go_enter Tryz.func158,Tryz.ntmps158
    go_wp2_with fail
    refine HUS.out.mono ?_
    rintro e w1 ⟨rfl,hw⟩;rw [hw];clear hw
    go_wp2_with fail
    refine (HW.out _ (Below.refl _ _)).mono ?_
    rintro e w2 ⟨rfl,V2,k1,k2⟩
    have HE:=hide (HP.out _ _ _ (Below.refl _ _) k1 k2)
    clear k1 k2
    go_wp2
    go_end0
    exact ⟨rfl,HE.out⟩
  · replace hk2:¬ (kd:Int)=2:=by omega
    go_enter Tryz.func158,Tryz.ntmps158
    go_wp2_with fail
    refine HUS.out.mono ?_
    rintro e w1 ⟨rfl,hw⟩;rw [hw];clear hw
    go_wp2_with fail
    refine (HW.out _ (Below.refl _ _)).mono ?_
    rintro e w2 ⟨rfl,V2,k1,k2⟩
    have HE:=hide (HP.out _ _ _ (Below.refl _ _) k1 k2)
    clear k1 k2
    go_wp2
    go_end0
    exact ⟨rfl,HE.out⟩
/- an only child comes up -/
theorem only_kid {d:Nat} {x:T (d+1)} (hsx:Sx A fl pages os (.top (d+1)) x es) (hf:FilK (d+1) x) (h0:cellsT (d+1) x=[]):∃ y:T d,x=(⟨x.num,[(⟨#[]⟩,y)]⟩:Inn (T d))∧A (numT d y)=pgT d y∧(0<numT d y∧numT d y<pages∧¬ numT d y ∈ fl)∧Bnd d ⟨#[]⟩ ⟨#[]⟩ y∧FilN d y∧¬ numT d y=x.num:=by
  obtain ⟨lo,hi,⟨rfl,rfl⟩,⟨p,r,e,hp⟩,hb⟩:=hsx.wf.bnd
  have hr:r=[]:=by
    have:cellsT (d+1) x=r.map cellK:=by show x.kids.tail.map _=_;rw [e];rfl
    rw [this] at h0
    simpa using h0
  subst hr
  obtain ⟨pk',y⟩:=p
  have hp:pk'=⟨#[]⟩:=hp
  subst hp
  rw [e] at hb
  have hx:x=(⟨x.num,[(⟨#[]⟩,y)]⟩:Inn (T d)):=by rw [← e]
  have hin:(numT d y,pgT d y) ∈ restN (.top (d+1)) x:=by
    rw [hx,restN_s]
    simp only [nodS,List.flatMap_cons,List.flatMap_nil,List.append_nil,List.mem_append]
    exact .inl (by rw [nodT_eq];simp)
  obtain ⟨e1,e2,e3,e4,e5⟩:=hsx.ne hin
  exact ⟨y,hx,hsx.rep _ hin,⟨Nat.pos_of_ne_zero e2,e5,fun e=>e4 _ e rfl⟩,hb.2.1,hf (⟨#[]⟩,y) (by rw [e];simp),e1⟩
set_option maxRecDepth 20000 in
set_option maxHeartbeats 2000000 in
theorem croot1 {d:Nat} {x:T (d+1)} {z:PN} (h:TS w B D Gp V K pk m A fl pages) (hm:m≤30000) (ht:TB w tb Gp root) (hS:Stl w A fl pages os es rt (.top (d+1)) x [z]) (h0:cellsT (d+1) x=[]) :
    Calls Tryz.prog 158 #[(.pointer (some ⟨tb,0,none⟩)),(.pointer (some ⟨z.p,0,none⟩))] w fun e w'=>e=.returned (.tuple #[])∧setPost w B D Gp V K pk m pages os es rt z.b w':=by
  obtain ⟨tk,hv⟩:=hS.vs
  have hv:z.v=nvT (d+1) x ⟨#[]⟩ ⟨#[]⟩ tk:=by simpa [Cx.nvs,Cx.lo,Cx.hi] using hv
  obtain ⟨y,hx,y1,y2,y3,y4,y5⟩:=only_kid hS.sx hS.fk h0
  obtain ⟨f1,f2,f3⟩:=fil_some y4
  have hlk:linkT (d+1) x=numT d y:=by rw [hx];rfl
  have hzb:=hS.pm
  have hnd:NDb w z.b w.heap.size z.p z.v:=hzb.1
  have hbp:z.b≤z.p:=by obtain ⟨_,_,_,q,_⟩:=hnd;exact q
  have hnr:NR w z.p (nvT (d+1) x ⟨#[]⟩ ⟨#[]⟩ tk):=by rw [← hv];exact (hS.nn z (by simp)).nr
  have hown:=hS.sx.ownX
  have HL:=hide (cload (lo:=⟨#[]⟩) (hi:=⟨#[]⟩) h (by omega) ht y2.2.1 y1 y3 (.inr (fun e=>by rw [e] at f3;simp at f3)))
  obtain ⟨a,cp,nb,st⟩:=hnr
  have HUS:=hide (cusedB st cp (by show usedC (cellsT (d+1) x)≤_;rw [h0];simp [usedC]))
  have e0:(nvT (d+1) x ⟨#[]⟩ ⟨#[]⟩ tk).cells=[]:=h0
  rw [e0] at HUS
  have hu0:usedC []=0:=rfl
  rw [hu0] at HUS
  obtain ⟨u0,u1,u2,u3,u4,u5,u6,u7,u8⟩:=nb.cells
  rw [e0] at u2
  replace u0:w.cell? ⟨z.p,0,none⟩=some (.int .i64 (2:Nat)):=u0
  replace u1:w.cell? ⟨z.p,1,none⟩=some (.int .i64 (numT d y:Int)):=by rw [← hlk];exact u1
  have hlen0:([]:List ByteArray).length=0:=rfl
  rw [hlen0] at u2 HUS
  have HZ:=hide (show TS w B D Gp V K pk m A fl pages∧TB w tb Gp root∧NB w z.p (nvT (d+1) x ⟨#[]⟩ ⟨#[]⟩ tk) (.slice a 0 cp) from ⟨h,ht,by have:=nb;rw [e0] at this;exact this⟩)
  have HS:=hide (hS)
  have HY:=hide (show x=(⟨x.num,[(⟨#[]⟩,y)]⟩:Inn (T d))∧A (numT d y)=pgT d y∧(0<numT d y∧numT d y<pages∧¬ numT d y ∈ fl)∧FilN d y∧¬ numT d y=x.num∧z.b≤z.p∧m≤30000 from ⟨hx,y1,y2,y4,y5,hbp,hm⟩)
  clear h ht hS hv hx y1 y2 y3 y4 y5 f1 f2 f3 hlk hzb hnd hbp hown nb st e0 hu0 hlen0 u3 u4 u5 u6 h0 hm
  go_enter Tryz.func158,Tryz.ntmps158
  go_wp2_with fail
  refine HUS.out.mono ?_
  rintro e w1 ⟨rfl,hw⟩;rw [hw];clear hw
  go_wp2_with fail
  refine HL.out.mono ?_
  rintro e w2 ⟨V2,q,rfl,k1,k2,k3,k4⟩
  obtain ⟨h,ht,nb⟩:=HZ.out
  have nb2:=h.stayNB k2 nb
  obtain ⟨s3,nq,ho3⟩:=k3
  obtain ⟨a3,c3,rfl,st3,-⟩:=StB.own (l:=cellsT d y) ho3
  have hqz:¬ q=z.p:=by have:=(Array.getElem?_eq_some_iff.1 nb).1;omega
  obtain ⟨u0,u1,u2,u3,u4,u5,u6,u7,u8⟩:=nb2.cells
  obtain ⟨t0,t1,t2,t3,t4,t5,t6,t7,t8⟩:=nq.cells
  have fz0:=u7 0
  have fz1:=u7 1
  have fz2:=u7 2
  replace t0:w2.cell? ⟨q,0,none⟩=some (.int .i64 (kindT d:Int)):=t0
  replace t1:w2.cell? ⟨q,1,none⟩=some (.int .i64 (linkT d y:Int)):=t1
  replace t2:w2.cell? ⟨q,2,none⟩=some (.slice a3 (cellsT d y).length c3):=t2
  replace t3:w2.cell? ⟨q,3,none⟩=some (.int .i64 (numT d y:Int)):=t3
  obtain ⟨p1,p2,p3⟩:=page_set nb2 (kindT d) (linkT d y) (.slice a3 (cellsT d y).length c3) (cellsT d y) HY.out.2.2.2.2.2.1
  have nq3:=nq.grown p3 hqz
  have st4:=st3.grown nb2 p3
  have ts3:=p2.ts k1
  have tb3:=p2.stayTB (h.stayTB k2 ht)
  have HF:=hide (ctfree ts3 (by have:=HY.out;omega) tb3 (numT d y) HY.out.2.2.1.1 HY.out.2.2.1.2.1 HY.out.2.2.1.2.2)
  have HK:=hide (show TS w2 B D Gp V2 K pk m A fl pages∧St2 w w2 B V V2∧_∧_∧_∧_∧_∧_ from ⟨k1,k2,p1,p2,nq3,st4,ts3,tb3⟩)
  clear k1 k2 p1 p2 p3 nq3 st4 ts3 tb3 nb2 nq ho3 st3 h ht nb u3 u4 u5 u6 u7 t4 t5 t6 t7 HL HUS
  generalize hkd:kindT d=kd at *
  generalize hlk:linkT d y=lk at *
  generalize hcl:(cellsT d y).length=cl at *
  generalize hny:numT d y=ny at *
  go_wp2_with fail
  refine HF.out.mono ?_
  rintro e w4 ⟨rfl,V4,k1,k2⟩
  subst hkd hlk hcl hny
  obtain ⟨j1,j2,j3,j4,j5,j6,j7,j8⟩:=HK.out
  have nb4:=j7.stayNB k2 j3
  have st4:=j7.staySt k2 j6
  have tb4:=j7.stayTB k2 j8
  obtain ⟨i1,i2,i3,i4,i5,i6,i7⟩:=HY.out
  have hS:=HS.out
  have hown:=hS.sx.ownX
  obtain ⟨f1,f2,f3⟩:=fil_some i4
  have hsh:Sx A fl pages (numT d y :: os) (.top d) (renT d x.num y) es:=by
    have:=hS.sx
    rw [i1] at this
    exact this.shrink
  have hnf:¬ x.num ∈ numT d y :: fl:=fun e=>by
    rcases List.mem_cons.1 e with e | e
    · exact i5 e.symm
    · exact hown.2.2 e
  have hlks:linkT d y≤2147483647:=by have:=(HZ.out.1.okA i3.2.1).link;rw [i2] at this;exact this
  have hk5:1≤kindT d∧kindT d≤5:=by rcases kind_cases d with ⟨_,e⟩ | ⟨_,e⟩ <;> rw [e] <;> omega
  have HW:=hide (ctwrite k1 (by omega) tb4 (v:={ nvT (d+1) x ⟨#[]⟩ ⟨#[]⟩ tk with kind:=kindT d,link:=linkT d y,cells:=cellsT d y }) ⟨a3,c3,nb4,st4⟩ ⟨hk5,hlks,f1.2⟩ hown.1 hown.2.1 hnf)
  have HE:Hid (∀ w' V',TS w' B D Gp V' K pk (m+2+1) (updA (updA (updA A (numT d y) ⟨3,fl.headD 0,[]⟩) 0 ⟨4,numT d y,[]⟩) x.num ⟨kindT d,linkT d y,cellsT d y⟩) (numT d y :: fl) pages→St2 w4 w' B V4 V'→setPost w B D Gp V K pk m pages os es rt z.b w'):=fun w' V' q1 q2 =>
    ⟨V',_,_,pages,d,renT d x.num y,q1.mono (by omega),⟨by
      have:=(hsh.free (v:=⟨3,fl.headD 0,[]⟩) (u:=⟨4,numT d y,[]⟩)).wr ⟨kindT d,linkT d y,cellsT d y⟩
      rw [ren_num] at this
      exact this,by rw [ren_num,ren_pg];exact updA_at _ _ _,⟨(ren_filK d _ y).2 f2,.inl rfl,by rw [ren_cells];exact f1.2,.inr (by rw [ren_cells];intro e;rw [e] at f3;simp at f3)⟩⟩,by rw [ren_num];exact hS.rt,(((HZ.out.1.tf j2 z.b).trans (j4.tf j1)).trans (j7.tf k2 z.b)).trans (k1.tf q2 z.b),by omega⟩
  clear k1 k2 j1 j2 j3 j4 j5 j6 j7 j8 nb4 st4 tb4 i1 i2 i3 i4 i5 i6 i7 hS hown f1 f2 f3 hsh hnf hlks hk5 HF HK
  go_wp2_with fail
  refine HW.out.mono ?_
  rintro e w5 ⟨rfl,V5,k1,k2⟩
  have HE2:=hide (HE.out _ _ k1 k2)
  clear k1 k2
  go_wp2
  go_end0
  exact ⟨rfl,HE2.out⟩
end
end Go.Proofs.YtmgjdjjfeapcdaaGreat
namespace Go.Proofs.YtmgjdjjfeapcdaaGreat
open Go.RowKit Go.Lib Go.Maps Go.Sort
attribute [local go_sem ↓] Go.wp_at_zero Go.wp_at_succ
theorem ren_link (d n:Nat) (x:T d):linkT d (renT d n x)=linkT d x:=by cases d <;> rfl
theorem ren_small (d n:Nat) (x:T d) (h:smallK d x):smallK d (renT d n x):=by cases d <;> exact h
section
variable {w w':World} {B D Gp:Nat} {V V':PV} {K:Pgs} {pk m:Nat} {A:Nat→PgV} {fl os:List Nat} {pages tb root rt:Nat} {es:List Ent}
theorem set_taken {w:World} {p:Nat} {v:NV} {s:Value} (hn:NB w p v s) (i:Nat) {b:Nat} (hb:b≤p):NB (w.setCell ⟨p,6,none⟩ (.int .i64 (i:Int))) p { v with taken:=i } s∧NF b w (w.setCell ⟨p,6,none⟩ (.int .i64 (i:Int)))∧w.grownBy (w.setCell ⟨p,6,none⟩ (.int .i64 (i:Int))) (some p):=by
  have hg:=set_grown w p 6 (.int .i64 (i:Int))
  refine ⟨?_,(NF.refl w).set hg hb (.inr ⟨_,hn⟩),hg⟩
  unfold NB
  rw [set_blk hn]
  rfl
def rsPost (w:World) (B D Gp:Nat) (V:PV) (K:Pgs) (pk m pages:Nat) (os:List Nat) (es:List Ent) (tb root rt b p:Nat) (d:Nat) (w':World):Prop:=
  ∃ (V':PV) (A':Nat→PgV) (fl':List Nat) (pages':Nat) (x':T (d+1)),TS w' B D Gp V' K pk (m+6) A' fl' pages'∧Sx A' fl' pages' os (.top (d+1)) x' es∧FilK (d+1) x'∧usedC (cellsT (d+1) x')≤1012∧¬ cellsT (d+1) x'=[]∧numT (d+1) x'=rt∧linkT (d+1) x'≤2147483647∧TF b B w w' V V'∧NR w' p (nvT (d+1) x' ⟨#[]⟩ ⟨#[]⟩ 0)∧TB w' tb Gp root∧pages'≤pages+2
theorem croot2s {d:Nat} {x:T d} {z:PN} {w1:World} {V1:PV} {n:Nat} {A1:Nat→PgV} {fl1:List Nat} {pages1 p g cap tk:Nat} {sp:Value} (h:TS w B D Gp V K pk m A fl pages) (hm:m≤30000) (hpg:pages<57000) (hS:Stl w A fl pages os es rt (.top d) x [z]) (hu:1012<usedC (cellsT d x)) (hcap:(cellsT d x).length≤cap) (hbp:z.b≤z.p) (hpt:z.p<w.heap.size)
    (k1:TS w1 B D Gp V1 K pk (m+2) A1 fl1 pages1) (k2:St2 w w1 B V V1) (k3:AllR A fl pages n A1 fl1 pages1) (nb:NB w1 z.p (nvT d x ⟨#[]⟩ ⟨#[]⟩ tk) (.slice (some ⟨g,0,none⟩) (cellsT d x).length cap)) (np:NB w1 p ⟨kindT d,0,[],n,⟨#[]⟩,⟨#[]⟩,0⟩ sp) (hst:StB w1 (some ⟨g,0,none⟩) (cellsT d x)) (ht:TB w1 tb Gp root) (hwp:w.heap.size≤p) :
    Calls Tryz.prog 156 #[(.pointer (some ⟨tb,0,none⟩)),(.pointer (some ⟨z.p,0,none⟩)),(.pointer (some ⟨p,0,none⟩))] (((((((w1.setCell ⟨p,0,none⟩ (.int .i64 (kindT d:Int))).setCell ⟨p,1,none⟩ (.int .i64 (linkT d x:Int))).setCell ⟨p,2,none⟩ (.slice (some ⟨g,0,none⟩) (cellsT d x).length cap)).setCell ⟨z.p,0,none⟩ (.int .i64 ((2:Nat):Int))).setCell ⟨z.p,1,none⟩ (.int .i64 (n:Int))).setCell ⟨z.p,2,none⟩ (.slice none 0 0)).setCell ⟨z.p,6,none⟩ (.int .i64 ((0:Nat):Int))) fun e w'=>e=.returned (.tuple #[])∧rsPost w B D Gp V K pk m pages os es tb root (numT d x) z.b z.p d w':=by
  have hsx:=hS.sx
  have hsz:=hsx.wf.sz
  have hbx:Bnd d ⟨#[]⟩ ⟨#[]⟩ x:=hsx.wf.at
  have hsml:smallK d x:=hsx.small h.flsmall.2
  obtain ⟨a1,a2,a3,a4,a5⟩:=mid_ok hsz hu (by have:=hS.us;omega)
  have hne:¬ p=z.p:=by omega
  have hne':¬ z.p=p:=fun e=>hne e.symm
  obtain ⟨p1,p2,p3⟩:=page_set np (kindT d) (linkT d x) (.slice (some ⟨g,0,none⟩) (cellsT d x).length cap) (cellsT d x) (b:=z.b) (by omega)
  have nb2:=nb.grown p3 hne'
  have st2:=hst.grown np p3
  obtain ⟨q1,q2,q3⟩:=page_set nb2 2 n (.slice none 0 0) [] hbp
  have np3:=p1.grown q3 hne
  have st3:=st2.grown nb2 q3
  obtain ⟨r1,r2,r3⟩:=set_taken q1 0 hbp
  have np4:=np3.grown r3 hne
  have st4:=st3.grown q1 r3
  have nf:=(p2.trans q2).trans r2
  have ts4:=nf.ts k1
  have tb4:=nf.stayTB ht
  generalize (((((((w1.setCell ⟨p,0,none⟩ (.int .i64 (kindT d:Int))).setCell ⟨p,1,none⟩ (.int .i64 (linkT d x:Int))).setCell ⟨p,2,none⟩ (.slice (some ⟨g,0,none⟩) (cellsT d x).length cap)).setCell ⟨z.p,0,none⟩ (.int .i64 ((2:Nat):Int))).setCell ⟨z.p,1,none⟩ (.int .i64 (n:Int))).setCell ⟨z.p,2,none⟩ (.slice none 0 0)).setCell ⟨z.p,6,none⟩ (.int .i64 ((0:Nat):Int)))=W4 at *
  have hnd4:NDb W4 z.b w.heap.size z.p ⟨2,n,[],numT d x,⟨#[]⟩,⟨#[]⟩,0⟩:=⟨.slice none 0 0,r1,World.ownsRow_nil _ _ _ _,hbp,hpt,fun g hg=>by cases hg⟩
  have hX:=k3.perm _ hsx.perm
  have hr:=fun r=>spl_pg d (midC (cellsT d x)) r (renT d n x) ((ren_bnd d n x _ _).2 hbx) (by rw [ren_cells];exact a2) (ren_small d n x hsml)
  simp only [ren_cells,ren_link] at hr
  have hpr:=hr 0
  have hmid:midC (cellsT d x)+(kindT d - 1)<(cellsT d x).length:=by
    rcases kind_cases d with ⟨_,e⟩ | ⟨_,e⟩
    · rw [e];exact a2
    · rw [e]
      rcases Nat.lt_or_ge (midC (cellsT d x)+1) (cellsT d x).length with q | q
      · exact q
      · rw [List.drop_eq_nil_of_le q] at a5;simp [usedC] at a5
  have hlen:(cellsT d x).length≤400:=by have:=used_len4 (l:=cellsT d x);have:=hS.us;omega
  have hlk:∀ n,n≤60000→okP (shrL (kindT d) (if kindT d=1 then n else linkT d x) (cellsT d x)):=fun n hn=>by
    refine ⟨?_,?_,a3.2⟩
    · show 1≤kindT d∧kindT d≤5
      rcases kind_cases d with ⟨_,e⟩ | ⟨_,e⟩ <;> rw [e] <;> omega
    · show (if kindT d=1 then n else linkT d x)≤_
      have:=hS.lks
      split <;> omega
  have hrp:okP (shrR (kindT d) (linkT d x) (cellsT d x)):=by
    unfold shrR
    split
    · exact ⟨by show 1≤1∧1≤5;omega,hS.lks,a4.2⟩
    · rename_i hk1
      refine ⟨by show 1≤2∧2≤5;omega,?_,a5.2⟩
      have q:=hpr.2.1
      rw [if_neg hk1] at q
      have q2:linkT d (splT d (midC (cellsT d x)) 0 (renT d n x)).2.2=numB (tx (cellsT d x) (midC (cellsT d x))) ((tx (cellsT d x) (midC (cellsT d x))).size - 4):=congrArg PgV.link q
      show numB _ _≤_
      rw [← q2]
      rcases kind_cases d with ⟨_,e⟩ | ⟨hd,_⟩
      · exact absurd e hk1
      · obtain ⟨d',rfl⟩:∃ d',d=d'+1:=⟨d - 1,by omega⟩
        exact link_small fun p hp=>hsml p (List.mem_of_mem_drop (i:=midC (cellsT (d'+1) x)+1) hp)
  have hC:=csplit (v0:=⟨2,n,[],numT d x,⟨#[]⟩,⟨#[]⟩,0⟩) (vn:=⟨kindT d,linkT d x,cellsT d x,n,⟨#[]⟩,⟨#[]⟩,0⟩) (l:=cellsT d x) ts4 (by omega) (by have:=k3.pgs;omega) tb4 hnd4 (Nat.le_refl _) (by show 0≤1000;omega) np4 hwp st4 hcap (kindT d) (by rcases kind_cases d with ⟨_,e⟩ | ⟨_,e⟩ <;> rw [e] <;> simp) rfl
    ⟨by omega,by have:=hS.us;omega,hmid,hpr.2.2.2.2.2,hpr.2.2.2.2.1,hsz _ (by rw [tx_get a2];exact List.getElem_mem a2)⟩ hlk hrp hX (by show n ∈ _;simp) hpr.2.2.2.1.2
  refine hC.mono ?_
  rintro e w' ⟨rfl,V',r,A2,fl2,pages2,j1,j2,j3,j4⟩
  obtain ⟨o1,o2,o3,o4,-⟩:=hr r
  have hs2:=((hsx.alloc k3).alloc j1).rootSplit (midC (cellsT d x)) ⟨a1,a2⟩
  have hnums:=spl_num d (midC (cellsT d x)) r (renT d n x)
  rw [ren_num] at hnums
  have e1:pgT d (splT d (midC (cellsT d x)) r (renT d n x)).1=shrL (kindT d) (if kindT d=1 then r else linkT d x) (cellsT d x):=o1
  have e2:pgT d (splT d (midC (cellsT d x)) r (renT d n x)).2.2=shrR (kindT d) (linkT d x) (cellsT d x):=by
    rw [o2]
    unfold shrR
    rfl
  have hfs:FilN d (splT d (midC (cellsT d x)) r (renT d n x)).1∧FilN d (splT d (midC (cellsT d x)) r (renT d n x)).2.2:=by
    have:=fil_spl d r (renT d n x) (by rw [ren_cells];exact hsz) ((ren_filK d n x).2 hS.fk) (by rw [ren_cells];exact hu) (by rw [ren_cells];have:=hS.us;omega)
    rw [ren_cells] at this
    exact this
  rw [e1,e2] at hs2
  generalize splT d (midC (cellsT d x)) r (renT d n x)=q at *
  have hcells:cellsT (d+1) (⟨numT d x,[(⟨#[]⟩,q.1),(q.2.1,q.2.2)]⟩:Inn (T d))=[childB (keyB (tx (cellsT d x) (midC (cellsT d x)))) r]:=by
    show [childB q.2.1 (numT d q.2.2)]=_
    rw [o3,hnums.2]
  have hlink:linkT (d+1) (⟨numT d x,[(⟨#[]⟩,q.1),(q.2.1,q.2.2)]⟩:Inn (T d))=n:=hnums.1
  have hks:=o4.2
  refine ⟨rfl,V',_,fl2,pages2,(⟨numT d x,[(⟨#[]⟩,q.1),(q.2.1,q.2.2)]⟩:Inn (T d)),j2,hs2,fun p hp=>?_,?_,?_,rfl,?_,((h.tf k2 z.b).trans (nf.tf k1)).trans j3,?_,j3.stayTB tb4,?_⟩
  · have hp:p ∈ [(⟨#[]⟩,q.1),(q.2.1,q.2.2)]:=hp
    simp only [List.mem_cons,List.not_mem_nil,or_false] at hp
    rcases hp with rfl | rfl
    · exact hfs.1
    · exact hfs.2
  · rw [hcells]
    simp only [usedC,List.map_cons,List.map_nil,List.sum_cons,List.sum_nil]
    rw [childB_sz]
    omega
  · rw [hcells];simp
  · rw [hlink]
    have:=k3.pos
    have:=k3.pgs
    omega
  · have:=j4.nr
    have e3:nvT (d+1) (⟨numT d x,[(⟨#[]⟩,q.1),(q.2.1,q.2.2)]⟩:Inn (T d)) ⟨#[]⟩ ⟨#[]⟩ 0=⟨2,n,insL [] 0 (childB (keyB (tx (cellsT d x) (midC (cellsT d x)))) r),numT d x,⟨#[]⟩,⟨#[]⟩,0⟩:=by
      unfold nvT
      rw [hcells,hlink]
      rfl
    rw [e3]
    exact this
  · have:=k3.pgs
    have:=j1.pgs
    omega
set_option maxRecDepth 20000 in
set_option maxHeartbeats 4000000 in
theorem croot2 {d:Nat} {x:T d} {z:PN} (h:TS w B D Gp V K pk m A fl pages) (hm:m≤30000) (hpg:pages<57000) (ht:TB w tb Gp root) (hS:Stl w A fl pages os es rt (.top d) x [z]) (hu:1012<usedC (cellsT d x)) :
    Calls Tryz.prog 158 #[(.pointer (some ⟨tb,0,none⟩)),(.pointer (some ⟨z.p,0,none⟩))] w fun e w'=>e=.returned (.tuple #[])∧setPost w B D Gp V K pk m pages os es rt z.b w':=by
  obtain ⟨tk,hv⟩:=hS.vs
  have hv:z.v=nvT d x ⟨#[]⟩ ⟨#[]⟩ tk:=by simpa [Cx.nvs,Cx.lo,Cx.hi] using hv
  have hnd:NDb w z.b w.heap.size z.p z.v:=hS.pm.1
  obtain ⟨s,nb,ho,hbp,hpt,-⟩:=hnd
  rw [hv] at nb ho
  have hsx:=hS.sx
  have hsz:=hsx.wf.sz
  have hbx:Bnd d ⟨#[]⟩ ⟨#[]⟩ x:=hsx.wf.at
  have hsml:smallK d x:=hsx.small h.flsmall.2
  obtain ⟨a1,a2,a3,a4,a5⟩:=mid_ok hsz hu (by have:=hS.us;omega)
  have hfs:=fun r=>fil_spl d r x hsz hS.fk hu (by have:=hS.us;omega)
  obtain ⟨g,cap,cur,rfl,hbg,hg,hc1,hc2,hc3,hc4,hc5⟩:=own_cur (n:=(cellsT d x).length) ho (by omega)
  have hst:StB w (some ⟨g,0,none⟩) (cellsT d x):=by
    obtain ⟨a,c',e,st,-⟩:=StB.own (l:=cellsT d x) ho
    injection e with e _ _
    rw [e];exact st
  have HUS:=hide (cusedB hst cap (by have:=hS.us;omega))
  have HFR:=hide (cfresh h (by omega) (by omega) ht (kindT d))
  have hown:=hsx.ownX
  obtain ⟨u0,u1,u2,u3,u4,u5,u6,u7,u8⟩:=nb.cells
  replace u0:w.cell? ⟨z.p,0,none⟩=some (.int .i64 (kindT d:Int)):=u0
  replace u1:w.cell? ⟨z.p,1,none⟩=some (.int .i64 (linkT d x:Int)):=u1
  replace u2:w.cell? ⟨z.p,2,none⟩=some (.slice (some ⟨g,0,none⟩) (cellsT d x).length cap):=u2
  have HZ:=hide (show TS w B D Gp V K pk m A fl pages∧TB w tb Gp root∧NB w z.p (nvT d x ⟨#[]⟩ ⟨#[]⟩ tk) (.slice (some ⟨g,0,none⟩) (cellsT d x).length cap)∧StB w (some ⟨g,0,none⟩) (cellsT d x)∧z.b≤z.p∧z.p<w.heap.size∧m≤30000∧pages<57000∧(cellsT d x).length≤cap from ⟨h,ht,nb,hst,hbp,hpt,hm,hpg,hc1⟩)
  have HS:=hide (hS)
  have HX:=hide (show Bnd d ⟨#[]⟩ ⟨#[]⟩ x∧smallK d x∧(0<midC (cellsT d x)∧midC (cellsT d x)<(cellsT d x).length)∧(∀ y ∈ cellsT d x,y.size≤240)∧1012<usedC (cellsT d x) from ⟨hbx,hsml,⟨a1,a2⟩,hsz,hu⟩)
  obtain ⟨us,hus⟩:∃ us,usedC (cellsT d x)=us:=⟨_,rfl⟩
  rw [hus] at HUS hu
  have hui:(1012:Int)<(us:Int):=by omega
  obtain ⟨cl,hcl⟩:∃ cl,(cellsT d x).length=cl:=⟨_,rfl⟩
  rw [hcl] at HUS u2
  obtain ⟨kd,hkd⟩:∃ kd,kindT d=kd:=⟨_,rfl⟩
  rw [hkd] at HFR u0
  obtain ⟨lk,hlk⟩:∃ lk,linkT d x=lk:=⟨_,rfl⟩
  rw [hlk] at u1
  have HG:=hide (show (cellsT d x).length=cl∧kindT d=kd∧linkT d x=lk from ⟨hcl,hkd,hlk⟩)
  clear h ht hS hv nb ho hbp hpt hsx hsz hbx hsml a1 a2 a3 a4 a5 hfs hst hown hus hcl hkd hlk hbg hg hc1 hc2 hc3 hc4 hc5 u3 u4 u5 u6 u7 hu hm hpg
  go_enter Tryz.func158,Tryz.ntmps158
  go_wp2_with fail
  refine HUS.out.mono ?_
  rintro e w1 ⟨rfl,hw⟩;rw [hw];clear hw
  go_wp2_with fail
  refine HFR.out.mono ?_
  rintro e w1 ⟨V1,n,A1,fl1,pages1,p,rfl,k1,k2,k3,k4,k5⟩
  obtain ⟨h,ht,nb,hst,hbp,hpt,hm,hpg,hcap⟩:=HZ.out
  rw [HG.out.1] at nb
  have nb1:=h.stayNB k2 nb
  obtain ⟨s0,np,ho0⟩:=k4
  obtain ⟨sa,sc,rfl,-⟩:=StB.own (l:=[]) ho0
  have hne:¬ p=z.p:=by omega
  have hne':¬ z.p=p:=fun e=>hne e.symm
  obtain ⟨u0,u1,u2,u3,u4,u5,u6,u7,u8⟩:=nb1.cells
  obtain ⟨t0,t1,t2,t3,t4,t5,t6,t7,t8⟩:=np.cells
  have fz0:=u7 0
  have fz1:=u7 1
  have fz2:=u7 2
  have fz6:=u7 6
  have fp0:=t7 0
  have fp1:=t7 1
  have fp2:=t7 2
  replace u0:w1.cell? ⟨z.p,0,none⟩=some (.int .i64 (kd:Int)):=by rw [← HG.out.2.1];exact u0
  replace u1:w1.cell? ⟨z.p,1,none⟩=some (.int .i64 (lk:Int)):=by rw [← HG.out.2.2];exact u1
  replace t3:w1.cell? ⟨p,3,none⟩=some (.int .i64 (n:Int)):=t3
  clear t7 u7 u3 u4 u5 t4 t5 t6
  have HK:=hide (show TS w1 B D Gp V1 K pk (m+2) A1 fl1 pages1∧St2 w w1 B V V1∧AllR A fl pages n A1 fl1 pages1∧NB w1 z.p (nvT d x ⟨#[]⟩ ⟨#[]⟩ tk) (.slice (some ⟨g,0,none⟩) cl cap)∧NB w1 p ⟨kd,0,[],n,⟨#[]⟩,⟨#[]⟩,0⟩ (.slice sa 0 sc)∧StB w1 (some ⟨g,0,none⟩) (cellsT d x)∧TB w1 tb Gp root∧w.heap.size≤p from ⟨k1,k2,k3,nb1,np,h.staySt k2 hst,h.stayTB k2 ht,k5⟩)
  have HSP:Hid (Calls Tryz.prog 156 #[(.pointer (some ⟨tb,0,none⟩)),(.pointer (some ⟨z.p,0,none⟩)),(.pointer (some ⟨p,0,none⟩))] (((((((w1.setCell ⟨p,0,none⟩ (.int .i64 (kd:Int))).setCell ⟨p,1,none⟩ (.int .i64 (lk:Int))).setCell ⟨p,2,none⟩ (.slice (some ⟨g,0,none⟩) cl cap)).setCell ⟨z.p,0,none⟩ (.int .i64 2)).setCell ⟨z.p,1,none⟩ (.int .i64 (n:Int))).setCell ⟨z.p,2,none⟩ (.slice none 0 0)).setCell ⟨z.p,6,none⟩ (.int .i64 0)) fun e w'=>e=.returned (.tuple #[])∧rsPost w B D Gp V K pk m pages os es tb root (numT d x) z.b z.p d w'):=by
    have:=croot2s (tk:=tk) (sp:=.slice sa 0 sc) h hm hpg HS.out HX.out.2.2.2.2 hcap hbp hpt k1 k2 k3 (by rw [HG.out.1];exact nb1) (by rw [HG.out.2.1];exact np) (h.staySt k2 hst) (h.stayTB k2 ht) k5
    rw [HG.out.1,HG.out.2.1,HG.out.2.2] at this
    exact this
  clear h ht nb hst hbp hpt hm hpg hcap nb1 np ho0 k1 k2 k3 k5 HUS HFR
  go_wp2_with fail
  refine HSP.out.mono ?_
  rintro e w3 ⟨rfl,V3,A3,fl3,pages3,x',q1,q2,q3,q4,q5,q6,q7,q8,q9,q10,q11⟩
  have hown:=q2.ownX
  have HW:=hide (ctwrite q1 (by have:=HZ.out;omega) q10 q9 (show okP (pgN (nvT (d+1) x' ⟨#[]⟩ ⟨#[]⟩ 0)) from ⟨by show 1≤2∧2≤5;omega,q7,q4⟩) hown.1 hown.2.1 hown.2.2)
  have HE:Hid (∀ w' V',TS w' B D Gp V' K pk (m+6+1) (updA A3 (numT (d+1) x') (pgT (d+1) x')) fl3 pages3→St2 w3 w' B V3 V'→setPost w B D Gp V K pk m pages os es rt z.b w'):=fun w' V' y1 y2 =>
    ⟨V',_,_,pages3,d+1,x',y1,⟨q2.wr _,updA_at _ _ _,⟨q3,.inl rfl,q4,.inr q5⟩⟩,by rw [q6];exact HS.out.rt,q8.trans (q1.tf y2 z.b),q11⟩
  clear q1 q2 q3 q4 q5 q6 q7 q8 q9 q10 q11 hown HSP
  go_wp2_with fail
  refine HW.out.mono ?_
  rintro e w5 ⟨rfl,V5,k1,k2⟩
  have HE2:=hide (HE.out _ _ k1 k2)
  clear k1 k2
  go_wp2
  go_end0
  exact ⟨rfl,HE2.out⟩
/- .. whichever -/
theorem croot {d:Nat} {x:T d} {z:PN} (h:TS w B D Gp V K pk m A fl pages) (hm:m≤30000) (hpg:pages<57000) (ht:TB w tb Gp root) (hS:Stl w A fl pages os es rt (.top d) x [z]) :
    Calls Tryz.prog 158 #[(.pointer (some ⟨tb,0,none⟩)),(.pointer (some ⟨z.p,0,none⟩))] w fun e w'=>e=.returned (.tuple #[])∧setPost w B D Gp V K pk m pages os es rt z.b w':=by
  by_cases hu:1012<usedC (cellsT d x)
  · exact croot2 h hm hpg ht hS hu
  · by_cases h0:cellsT d x=[]
    · cases d with
      | zero=>exact croot0 h hm ht hS (by omega) (.inl rfl)
      | succ d=>exact croot1 h hm ht hS h0
    · exact croot0 h hm ht hS (by omega) (.inr h0)
end
end Go.Proofs.YtmgjdjjfeapcdaaGreat
