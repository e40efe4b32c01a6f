/- a node is split -/
import Derived.Test.YtmgjdjjfeapcdaaGreatTrT
namespace Go.Proofs.YtmgjdjjfeapcdaaGreat
open Go.RowKit Go.Lib Go.Maps Go.Sort
attribute [local go_sem ↓] Go.wp_at_zero Go.wp_at_succ
theorem AllR.kept {A A':Nat→PgV} {fl fl':List Nat} {pages pages' n:Nat} (h:AllR A fl pages n A' fl' pages') {X:List Nat} (hX:(0 :: (fl ++ X)).Perm (List.range pages)) {x:Nat} (hx:x ∈ X) :
    (0<x∧x<pages'∧¬ x ∈ fl')∧(0<n∧n<pages'∧¬ n ∈ fl')∧¬ x=n:=by
  have hp:=h.perm X hX
  have hnd:(0 :: (fl' ++ (n :: X))).Nodup:=hp.nodup_iff.2 List.nodup_range
  have hlt:∀ y ∈ (0 :: (fl' ++ (n :: X))),y<pages':=fun y hy=>List.mem_range.1 (hp.mem_iff.1 hy)
  simp only [List.nodup_cons,List.nodup_append,List.mem_append,List.mem_cons,not_or] at hnd
  obtain ⟨⟨h0f,h0n,h0X⟩,-,⟨hnX,-⟩,hd⟩:=hnd
  refine ⟨⟨?_,hlt x (by simp [hx]),fun e=>hd x e x (.inr hx) rfl⟩,⟨h.pos.1,h.pos.2,fun e=>hd n e n (.inl rfl) rfl⟩,fun e=>hnX (e ▸ hx)⟩
  rcases Nat.eq_zero_or_pos x with e | e
  · exact absurd (e ▸ hx) h0X
  · exact e
theorem NDb.cellsT {w:World} {b top p:Nat} {v:NV} (h:NDb w b top p v):w.cell? ⟨p,6,none⟩=some (.int .i64 (v.taken:Int)):=by
  obtain ⟨_,h1,_⟩:=h
  exact h1.cells.2.2.2.2.2.2.1
/- two nodes get other links -/
theorem two_links {w:World} {pl pr:Nat} {vl vr:NV} {sl sr:Value} {l:List ByteArray} {k1 k2:Nat} (hl:NB w pl vl sl) (hr:NB w pr vr sr) (hne:¬ pl=pr) {b:Nat} (hbl:b≤pl) (hbr:b≤pr) :
    NB (((w.setCell ⟨pr,1,none⟩ (.int .i64 (k1:Int))).setCell ⟨pl,1,none⟩ (.int .i64 (k2:Int))).drew) pl { vl with link:=k2 } sl∧NB (((w.setCell ⟨pr,1,none⟩ (.int .i64 (k1:Int))).setCell ⟨pl,1,none⟩ (.int .i64 (k2:Int))).drew) pr { vr with link:=k1 } sr∧NF b w (((w.setCell ⟨pr,1,none⟩ (.int .i64 (k1:Int))).setCell ⟨pl,1,none⟩ (.int .i64 (k2:Int))).drew)∧(∀ a,StB w a l→StB (((w.setCell ⟨pr,1,none⟩ (.int .i64 (k1:Int))).setCell ⟨pl,1,none⟩ (.int .i64 (k2:Int))).drew) a l):=by
  have g1:=set_grown w pr 1 (.int .i64 (k1:Int))
  have g2:=set_grown (w.setCell ⟨pr,1,none⟩ (.int .i64 (k1:Int))) pl 1 (.int .i64 (k2:Int))
  have b1:(w.setCell ⟨pr,1,none⟩ (.int .i64 (k1:Int))).heap[pr]? = some (.cells (ndC { vr with link:=k1 } sr) 98 (0,0)):=by rw [set_blk hr];rfl
  have b2:NB (w.setCell ⟨pr,1,none⟩ (.int .i64 (k1:Int))) pl vl sl:=(g1.block pl (Array.getElem?_eq_some_iff.1 hl).1 (fun e=>by injection e with e;exact hne e)).trans hl
  refine ⟨?_,?_,?_,fun a ha=>?_⟩
  · show ((w.setCell ⟨pr,1,none⟩ (.int .i64 (k1:Int))).setCell ⟨pl,1,none⟩ (.int .i64 (k2:Int))).heap[pl]? = _
    rw [set_blk b2]
    rfl
  · show ((w.setCell ⟨pr,1,none⟩ (.int .i64 (k1:Int))).setCell ⟨pl,1,none⟩ (.int .i64 (k2:Int))).heap[pr]? = _
    rw [g2.block pr (Array.getElem?_eq_some_iff.1 b1).1 (fun e=>by injection e with e;exact hne e.symm)]
    exact b1
  · exact (((NF.refl w).set g1 hbr (.inr ⟨_,hr⟩)).set g2 hbl (.inr ⟨_,b2⟩)).bel (drawnB _ 1)
  · rcases ha with ha | ⟨b,off,cur,e,hh,hc⟩
    · exact .inl ha
    · refine .inr ⟨b,off,cur,e,?_,hc⟩
      show ((w.setCell ⟨pr,1,none⟩ (.int .i64 (k1:Int))).setCell ⟨pl,1,none⟩ (.int .i64 (k2:Int))).heap[b]? = _
      have h1:(w.setCell ⟨pr,1,none⟩ (.int .i64 (k1:Int))).heap[b]? = some (.cells cur 9 (0,0)):=(g1.block b (Array.getElem?_eq_some_iff.1 hh).1 (fun e=>by injection e with e;exact ne_CC ⟨_,hr⟩ ⟨_,hh⟩ (by decide) e)).trans hh
      rw [g2.block b (Array.getElem?_eq_some_iff.1 h1).1 (fun e=>by injection e with e;exact ne_CC ⟨_,b2⟩ ⟨_,h1⟩ (by decide) e)]
      exact h1
def splPost (w:World) (B D Gp:Nat) (V:PV) (K:Pgs) (pk m:Nat) (A:Nat→PgV) (fl:List Nat) (pages b0 p0:Nat) (v0:NV) (num:Nat) (P1:Nat→PgV) (P2:PgV) (key:ByteArray) (w':World):Prop:=
  ∃ (V':PV) (n:Nat) (A':Nat→PgV) (fl':List Nat) (pages':Nat),AllR A fl pages n A' fl' pages'∧TS w' B D Gp V' K pk (m+4) (updA (updA A' num (P1 n)) n P2) fl' pages'∧TF b0 B w w' V V'∧NDb w' b0 w'.heap.size p0 { v0 with cells:=insL v0.cells v0.taken (childB key n) }
section
variable {w w':World} {B D Gp:Nat} {V V':PV} {K:Pgs} {pk m:Nat} {A:Nat→PgV} {fl:List Nat} {pages tb root:Nat}
set_option maxRecDepth 20000 in
set_option maxHeartbeats 4000000 in
theorem csplit2 (h:TS w B D Gp V K pk m A fl pages) (hm:m≤36000) (hpg:pages<58000) (ht:TB w tb Gp root) {b0 b1 p0 pn:Nat} {v0 vn:NV} {g off cap:Nat} {l:List ByteArray} {X:List Nat}
    (hp:NDb w b0 b1 p0 v0) (htk:v0.taken≤v0.cells.length) (hl0:v0.cells.length≤1000) (hn:NB w pn vn (.slice (some ⟨g,off,none⟩) l.length cap)) (hbn:b1≤pn) (hst:StB w (some ⟨g,off,none⟩) l) (hcap:l.length≤cap) (hlen:l.length≤1000) (hu:usedC l≤1500)
    (hkn:vn.kind=2) (hmid:midC l+1<l.length) (np:Nat) (hnp:numB (tx l (midC l)) ((tx l (midC l)).size - 4)=np) (h4:4≤(tx l (midC l)).size)
    (h1:okP ⟨2,vn.link,l.take (midC l)⟩) (h2:okP ⟨2,np,l.drop (midC l+1)⟩) (hX:(0 :: (fl ++ X)).Perm (List.range pages)) (hnX:vn.num ∈ X)
    (hk:kS (tx l (midC l))≤(tx l (midC l)).size∧(tx l (midC l)).size≤240) (hks:(keyB (tx l (midC l))).size≤200) :
    Calls Tryz.prog 156 #[(.pointer (some ⟨tb,0,none⟩)),(.pointer (some ⟨p0,0,none⟩)),(.pointer (some ⟨pn,0,none⟩))] w fun e w'=>e=.returned (.tuple #[])∧splPost w B D Gp V K pk m A fl pages b0 p0 v0 vn.num (fun _=>⟨2,vn.link,l.take (midC l)⟩) ⟨2,np,l.drop (midC l+1)⟩ (keyB (tx l (midC l))) w':=by
  obtain ⟨u0,u1,u2,u3,u4,u5,u6,u7,u8⟩:=hn.cells
  rw [hkn] at u0
  have HF:=hide (cfresh h (by omega) hpg ht 2)
  have hb01:b0≤b1:=by obtain ⟨_,_,_,q1,q2,_⟩:=hp;omega
  have HS:=hide (fun (w1:World) (V1:PV) (n:Nat) (A1:Nat→PgV) (fl1:List Nat) (pages1 pr:Nat) (k1:TS w1 B D Gp V1 K pk (m+2) A1 fl1 pages1) (k2:St2 w w1 B V V1) (k3:AllR A fl pages n A1 fl1 pages1) (vr:NV) (sr:Value) (hvr:vr.kind=2∧vr.num=n) (hr:NB w1 pr vr sr) (hsr:∃ x y z,sr=.slice x y z) (k5:w.heap.size≤pr) =>
    cshare2 k1 (by omega) (h.stayTB k2 ht) (b:=b1) (h.stayNB k2 hn) hr hbn (by omega) (by omega) (h.staySt k2 hst) hcap hlen hu hkn hvr.1 hmid ⟨_,_,_,rfl⟩ hsr np hnp h4 h1 h2 (k3.kept hX hnX).1 (by rw [hvr.2];exact (k3.kept hX hnX).2.1) hk)
  have H:=hide (show TS w B D Gp V K pk m A fl pages∧NDb w b0 b1 p0 v0∧NB w pn vn (.slice (some ⟨g,off,none⟩) l.length cap)∧b0≤b1∧v0.taken≤v0.cells.length∧v0.cells.length≤1000 from ⟨h,hp,hn,hb01,htk,hl0⟩)
  obtain ⟨kb,hkb⟩:∃ kb,keyB (tx l (midC l))=kb:=⟨_,rfl⟩
  obtain ⟨P1,hP1⟩:∃ P1:PgV,(⟨2,vn.link,l.take (midC l)⟩:PgV)=P1:=⟨_,rfl⟩
  obtain ⟨P2,hP2⟩:∃ P2:PgV,(⟨2,np,l.drop (midC l+1)⟩:PgV)=P2:=⟨_,rfl⟩
  rw [hkb] at HS hks ⊢
  rw [hP1,hP2] at HS ⊢
  have HC:=hide (fun (n:Nat) (Y:World)=>cchild kb n Y hks)
  clear h hm ht hp hn hst hu hkn hmid hnp h4 h1 h2 hX hnX hk hks hkb hP1 hP2 hb01 htk hl0
  generalize l.length=LL at *
  go_enter Tryz.func156,Tryz.ntmps156
  go_wp2_with fail
  refine HF.out.mono ?_
  rintro e w1 ⟨V1,n,A1,fl1,pages1,pr,rfl,k1,k2,k3,k4,k5⟩
  obtain ⟨sr,k4,k6⟩:=k4
  obtain ⟨ar,cr,rfl,-⟩:=StB.own k6
  have HS1:=hide (HS.out w1 V1 n A1 fl1 pages1 pr k1 k2 k3 _ _ ⟨rfl,rfl⟩ k4 ⟨_,_,_,rfl⟩ k5)
  have hn1:=H.out.1.stayNB k2 H.out.2.2.1
  obtain ⟨u0',u1',u2',u3',u4',u5',u6',u7',u8'⟩:=hn1.cells
  rw [show vn.kind=2 from by have:=hn1;have e0:=H.out.2.2.1.cells.1;have:=u0.symm.trans e0;simp at this;omega] at u0'
  have HK:=hide (show TS w1 B D Gp V1 K pk (m+2) A1 fl1 pages1∧St2 w w1 B V V1∧AllR A fl pages n A1 fl1 pages1 from ⟨k1,k2,k3⟩)
  clear k1 k2 k3 k4 k5 k6 HS HF u0 u1 u2 u3 u4 u5 u6 u7 u8 u1' u3' u4' u5' u6' u7' hn1
  go_wp2_with fail
  refine HS1.out.mono ?_
  rintro e w2 ⟨rfl,V2,q1,q2,q3⟩
  have nd2:NDb w2 b0 b1 p0 v0:=(q2.pm [⟨b0,p0,v0⟩] b1 (Nat.le_refl _) (H.out.1.stayPM HK.out.2.1 (show PM w [⟨b0,p0,v0⟩] b1 from ⟨H.out.2.1,trivial⟩))).1
  obtain ⟨a3,c3,q3,-⟩:=q3
  obtain ⟨x0,x1,x2,x3,x4,x5,x6,x7,x8⟩:=q3.cells
  have HN2:=hide (show NDb w2.drew b0 b1 p0 v0 from nd2)
  obtain ⟨s0,nd2,nd3,nd4,nd5,nd6⟩:=nd2
  obtain ⟨y0,y1,y2,y3,y4,y5,y6,y7,y8⟩:=nd2.cells
  have HQ:=hide (show TS w2 B D Gp V2 K pk (m+2+2) (updA (updA A1 vn.num P1) n P2) fl1 pages1∧TF b1 B w1 w2 V1 V2 from ⟨q1,q2⟩)
  clear q1 q2 q3 nd2 nd3 nd4 nd5 nd6 HS1 x0 x1 x2 x4 x5 x6 x7 y0 y1 y2 y3 y4 y5 y7 u0' u2' u8'
  have HI:=hide (fun (Y:World) (hY:NDb Y b0 b1 p0 v0) (c:ByteArray)=>cinsertN hY (by obtain ⟨_,f1,_,f3,_⟩:=hY;have:=f1.cells.2.2.2.2.2.2.2.2;omega) H.out.2.2.2.2.2 v0.taken H.out.2.2.2.2.1 c)
  go_wp2_with fail
  go_region_with (first | (go_at_call 185;refine (HC.out _ _).mono ?_;rintro e w3 ⟨rfl,hb3⟩;have nd3:=HN2.out.below hb3;have y6':=nd3.cellsT) | (go_at_call 97;refine (HI.out _ nd3 _).mono ?_;rintro e w4 ⟨rfl,i1,i2⟩))
  all_goals
    go_wp2
    go_end0
    obtain ⟨j1,j2⟩:=HQ.out
    obtain ⟨j3,j4⟩:=TS.below (w':=w3) j1 ⟨hb3.1,hb3.2,hb3.3,hb3.4,hb3.5⟩
    exact ⟨rfl,V2,n,A1,fl1,pages1,HK.out.2.2,i2.ts j3,((H.out.1.tf HK.out.2.1 b0).trans (j2.mono H.out.2.2.2.1)).trans ((j1.tf j4 b0).trans (i2.tf j3)),i1⟩
set_option maxRecDepth 20000 in
set_option maxHeartbeats 4000000 in
theorem csplit1 (h:TS w B D Gp V K pk m A fl pages) (hm:m≤36000) (hpg:pages<58000) (ht:TB w tb Gp root) {b0 b1 p0 pn:Nat} {v0 vn:NV} {g off cap:Nat} {l:List ByteArray} {X:List Nat}
    (hp:NDb w b0 b1 p0 v0) (htk:v0.taken≤v0.cells.length) (hl0:v0.cells.length≤1000) (hn:NB w pn vn (.slice (some ⟨g,off,none⟩) l.length cap)) (hbn:b1≤pn) (hst:StB w (some ⟨g,off,none⟩) l) (hcap:l.length≤cap) (hlen:l.length≤1000) (hu:usedC l≤1500)
    (hkn:vn.kind=1) (hmid:midC l<l.length)
    (h1:∀ n,n≤60000→okP ⟨1,n,l.take (midC l)⟩) (h2:okP ⟨1,vn.link,l.drop (midC l)⟩) (hX:(0 :: (fl ++ X)).Perm (List.range pages)) (hnX:vn.num ∈ X)
    (hk:kS (tx l (midC l))≤(tx l (midC l)).size∧(tx l (midC l)).size≤240) (hks:(keyB (tx l (midC l))).size≤200) :
    Calls Tryz.prog 156 #[(.pointer (some ⟨tb,0,none⟩)),(.pointer (some ⟨p0,0,none⟩)),(.pointer (some ⟨pn,0,none⟩))] w fun e w'=>e=.returned (.tuple #[])∧splPost w B D Gp V K pk m A fl pages b0 p0 v0 vn.num (fun n=>⟨1,n,l.take (midC l)⟩) ⟨1,vn.link,l.drop (midC l)⟩ (keyB (tx l (midC l))) w':=by
  obtain ⟨u0,u1,u2,u3,u4,u5,u6,u7,u8⟩:=hn.cells
  rw [hkn] at u0
  have HF:=hide (cfresh h (by omega) hpg ht 1)
  have hb01:b0≤b1:=by obtain ⟨_,_,_,q1,q2,_⟩:=hp;omega
  have HS:=hide (fun (w1 w2:World) (V1:PV) (n:Nat) (A1:Nat→PgV) (fl1:List Nat) (pages1 pr:Nat) (k1:TS w1 B D Gp V1 K pk (m+2) A1 fl1 pages1) (k2:St2 w w1 B V V1) (k3:AllR A fl pages n A1 fl1 pages1) (vr:NV) (sr:Value) (hvr:vr.kind=1∧vr.num=n∧vr.link=vn.link) (hnf:NF b1 w1 w2) (hn2:NB w2 pn { vn with link:=n } (.slice (some ⟨g,off,none⟩) l.length cap)) (hr:NB w2 pr vr sr) (hst2:StB w2 (some ⟨g,off,none⟩) l) (hsr:∃ x y z,sr=.slice x y z) (k5:w.heap.size≤pr) =>
    cshare1 (hnf.ts k1) (by omega) (hnf.stayTB (h.stayTB k2 ht)) (b:=b1) hn2 hr hbn (by omega) (by omega) hst2 hcap hlen hu hkn hvr.1 hmid ⟨_,_,_,rfl⟩ hsr (h1 n (by have:=k3.pos;have:=k3.pgs;omega)) (by rw [hvr.2.2];exact h2) (k3.kept hX hnX).1 (by rw [hvr.2.1];exact (k3.kept hX hnX).2.1) hk)
  have H:=hide (show TS w B D Gp V K pk m A fl pages∧NDb w b0 b1 p0 v0∧NB w pn vn (.slice (some ⟨g,off,none⟩) l.length cap)∧b0≤b1∧v0.taken≤v0.cells.length∧v0.cells.length≤1000∧b1≤pn∧StB w (some ⟨g,off,none⟩) l from ⟨h,hp,hn,hb01,htk,hl0,hbn,hst⟩)
  obtain ⟨kb,hkb⟩:∃ kb,keyB (tx l (midC l))=kb:=⟨_,rfl⟩
  obtain ⟨L1,hL1⟩:∃ L1,l.take (midC l)=L1:=⟨_,rfl⟩
  obtain ⟨L2,hL2⟩:∃ L2,l.drop (midC l)=L2:=⟨_,rfl⟩
  rw [hkb] at HS hks ⊢
  rw [hL1,hL2] at HS ⊢
  have HC:=hide (fun (n:Nat) (Y:World)=>cchild kb n Y hks)
  clear h hm ht hp hn hst hu hmid h1 h2 hX hnX hk hks hkb hL1 hL2 hb01 htk hl0
  have HL:=hide (show l.length=l.length from rfl)
  generalize hLL:l.length=LL at *
  clear hLL HL
  go_enter Tryz.func156,Tryz.ntmps156
  go_wp2_with fail
  refine HF.out.mono ?_
  rintro e w1 ⟨V1,n,A1,fl1,pages1,pr,rfl,k1,k2,k3,k4,k5⟩
  obtain ⟨sr,k4,k6⟩:=k4
  obtain ⟨ar,cr,rfl,-⟩:=StB.own k6
  have hn1:=H.out.1.stayNB k2 H.out.2.2.1
  have hne:¬ pn=pr:=by omega
  obtain ⟨u0',u1',u2',u3',u4',u5',u6',u7',u8'⟩:=hn1.cells
  rw [hkn] at u0'
  obtain ⟨r0,r1,r2,r3,r4,r5,r6,r7,r8⟩:=k4.cells
  have f1:=u7' 1
  have f2:=r7 1
  have HK:=hide (show TS w1 B D Gp V1 K pk (m+2) A1 fl1 pages1∧St2 w w1 B V V1∧AllR A fl pages n A1 fl1 pages1 from ⟨k1,k2,k3⟩)
  have HNR:=hide (show _∧_∧_ from ⟨k4,k5,hn1⟩)
  clear k1 k2 k3 k4 k5 k6 HF u0 u1 u2 u3 u4 u5 u6 u7 u8 u3' u4' u5' u6' u7' hn1 r0 r2 r4 r5 r6 r7
  have HKN:=hide (hkn)
  clear hkn
  go_wp2_with fail
  go_region
  all_goals
    obtain ⟨k4,k5,hn1⟩:=HNR.out
    have hb1:b1≤pr:=by have:=H.out.2.2.2.2.2.2.1;have:=H.out.2.2.1.cells.2.2.2.2.2.2.2.2;omega
    obtain ⟨o1,o2,o3,o4⟩:=two_links (l:=l) (k1:=vn.link) (k2:=n) hn1 k4 hne H.out.2.2.2.2.2.2.1 hb1
    have st2:=o4 _ (H.out.1.staySt HK.out.2.1 H.out.2.2.2.2.2.2.2)
    have HS1:=hide (HS.out w1 _ V1 n A1 fl1 pages1 pr HK.out.1 HK.out.2.1 HK.out.2.2 ⟨1,vn.link,[],n,⟨#[]⟩,⟨#[]⟩,0⟩ _ ⟨rfl,rfl,rfl⟩ o3 o1 o2 st2 ⟨_,_,_,rfl⟩ k5)
    have HTF:=hide (show TF b1 B w1 _ V1 V1 from o3.tf HK.out.1)
    have hnW:=o1.cells
    generalize hW2:((w1.setCell ⟨pr,1,none⟩ (.int .i64 (vn.link:Int))).setCell ⟨pn,1,none⟩ (.int .i64 (n:Int))).drew=W2 at *
    clear hW2
    obtain ⟨z0,z1,z2,z3,z4,z5,z6,z7,z8⟩:=hnW
    clear o1 o2 o3 o4 st2 k4 k5 hn1 hb1 f1 f2 u0' u1' u2' u8' r1 r3 r8 z0 z1 z3 z4 z5 z6 z7 HNR HS
    go_wp2_with fail
    refine HS1.out.mono ?_
    rintro e w2 ⟨rfl,V2,q1,q2,q3⟩
    have nd2:NDb w2 b0 b1 p0 v0:=(q2.pm [⟨b0,p0,v0⟩] b1 (Nat.le_refl _) (HTF.out.pm [⟨b0,p0,v0⟩] b1 (Nat.le_refl _) (H.out.1.stayPM HK.out.2.1 (show PM w [⟨b0,p0,v0⟩] b1 from ⟨H.out.2.1,trivial⟩)))).1
    obtain ⟨a3,c3,q3,-⟩:=q3
    obtain ⟨x0,x1,x2,x3,x4,x5,x6,x7,x8⟩:=q3.cells
    have HN2:=hide (show NDb w2.drew b0 b1 p0 v0 from nd2)
    obtain ⟨s0,nd2,nd3,nd4,nd5,nd6⟩:=nd2
    obtain ⟨y0,y1,y2,y3,y4,y5,y6,y7,y8⟩:=nd2.cells
    have HQ:=hide (show TS w2 B D Gp V2 K pk (m+2+2) (updA (updA A1 vn.num ⟨1,n,L1⟩) n ⟨1,vn.link,L2⟩) fl1 pages1∧TF b1 B W2 w2 V1 V2 from ⟨q1,q2⟩)
    clear q1 q2 q3 nd2 nd3 nd4 nd5 nd6 HS1 x0 x1 x2 x4 x5 x6 x7 y0 y1 y2 y3 y4 y5 y7 z2 z8
    have HI:=hide (fun (Y:World) (hY:NDb Y b0 b1 p0 v0) (c:ByteArray)=>cinsertN hY (by obtain ⟨_,f1,_,f3,_⟩:=hY;have:=f1.cells.2.2.2.2.2.2.2.2;omega) H.out.2.2.2.2.2.1 v0.taken H.out.2.2.2.2.1 c)
    go_wp2_with fail
    go_region_with (first | (go_at_call 185;refine (HC.out _ _).mono ?_;rintro e w3 ⟨rfl,hb3⟩;have nd3:=HN2.out.below hb3;have y6':=nd3.cellsT) | (go_at_call 97;refine (HI.out _ nd3 _).mono ?_;rintro e w4 ⟨rfl,i1,i2⟩))
    all_goals
      go_wp2
      go_end0
      obtain ⟨j1,j2⟩:=HQ.out
      obtain ⟨j3,j4⟩:=TS.below (w':=w3) j1 ⟨hb3.1,hb3.2,hb3.3,hb3.4,hb3.5⟩
      exact ⟨rfl,V2,n,A1,fl1,pages1,HK.out.2.2,i2.ts j3,((H.out.1.tf HK.out.2.1 b0).trans ((HTF.out.trans j2).mono H.out.2.2.2.1)).trans ((j1.tf j4 b0).trans (i2.tf j3)),i1⟩
end
end Go.Proofs.YtmgjdjjfeapcdaaGreat
namespace Go.Proofs.YtmgjdjjfeapcdaaGreat
open Go.RowKit Go.Lib Go.Maps Go.Sort
attribute [local go_sem ↓] Go.wp_at_zero Go.wp_at_succ
theorem StB.news {w:World} {g off:Nat} {l:List ByteArray} (h:StB w (some ⟨g,off,none⟩) l):∀ j u,(valsS l)[j]? = some u→w.cell? ((⟨g,off,none⟩:Addr).add j)=some u:=by
  intro j u hj
  rw [add_none]
  rcases h with rfl | ⟨b,o,cur,e,hh,hc⟩
  · simp [valsS] at hj
  · injection e with e
    injection e with e1 e2 _
    subst e1 e2
    rw [valsS_get] at hj
    have hlt:j<l.length:=by
      rcases Nat.lt_or_ge j l.length with h | h
      · exact h
      · rw [List.getElem?_eq_none h] at hj;simp at hj
    rw [List.getElem?_eq_getElem hlt] at hj
    simp only [World.cell?,hh]
    have:=hc j hlt
    rw [tx_get hlt] at this
    simp at hj
    rw [← hj]
    exact this
theorem StB.getD {w:World} {g off:Nat} {l:List ByteArray} (h:StB w (some ⟨g,off,none⟩) l):∀ j,j<l.length→w.cell? ⟨g,off+j,none⟩=some (.string (l.getD j ByteArray.empty)):=by
  intro j hj
  have:=h.news j (.string (l.getD j ByteArray.empty)) (by rw [valsS_get,List.getElem?_eq_getElem hj];simp [List.getD_eq_getElem?_getD,hj])
  rw [add_none] at this
  exact this
theorem info_s:∃ i0,Tryz.prog.info? 9=some i0∧i0.zero=some (.string ⟨#[]⟩)∧i0.size=1∧i0.bytes=16:=by
  have hi0:(Tryz.prog.info? 9).map (fun i=>(i.zero,i.size,i.bytes))=some (some (.string ⟨#[]⟩),1,16):=by kernel_rfl
  cases hi:Tryz.prog.info? 9 with
  | none=>rw [hi] at hi0;simp at hi0
  | some i=>rw [hi] at hi0;simp at hi0;exact ⟨i,rfl,hi0.1,hi0.2.1,hi0.2.2⟩
theorem valsS_apT (l m:List ByteArray) {n:Nat} (h:l.length=n):List.take n (List.map Value.string l) ++ valsS m=valsS (l ++ m):=by
  subst h
  have e:List.take l.length (List.map Value.string l)=List.map Value.string l:=List.take_of_length_le (by simp)
  rw [e]
  simp [valsS]
set_option maxRecDepth 20000 in
set_option maxHeartbeats 2000000 in
theorem cwith1 {w:World} {pl pr:Nat} {vl vr:NV} (hl:NRs w pl vl) (hr:NRs w pr vr) (hkl:vl.kind=1) (h1:vl.cells.length≤1000) (h2:vr.cells.length≤1000) (k:ByteArray) :
    Calls Tryz.prog 186 #[(.pointer (some ⟨pl,0,none⟩)),(.pointer (some ⟨pr,0,none⟩)),.string k] w fun e w'=>∃ v',e=.returned v'∧w'.ownsRow w.heap.size 9 1 v' (vl.cells ++ vr.cells).length (valsS (vl.cells ++ vr.cells))∧Below w.heap.size w w':=by
  obtain ⟨i0,hi,hz0,hz1,hz2⟩:=info_s
  obtain ⟨_,c1,n1,s1,g1,o1,rfl⟩:=hl
  obtain ⟨_,c2,n2,s2,g2,o2,rfl⟩:=hr
  obtain ⟨u0,u1,u2,u3,u4,u5,u6,u7,u8⟩:=n1.cells
  obtain ⟨t0,t1,t2,t3,t4,t5,t6,t7,t8⟩:=n2.cells
  rw [hkl] at u0
  have HC:=hide (Tryz.slices_Clone_string g1 o1 vl.cells.length c1 vl.cells w (Nat.le_refl _) (by omega) s1.getD)
  have H:=hide (show StB w (some ⟨g1,o1,none⟩) vl.cells∧StB w (some ⟨g2,o2,none⟩) vr.cells∧NB w pl vl _∧NB w pr vr _ from ⟨s1,s2,n1,n2⟩)
  obtain ⟨L1,hL1⟩:∃ L1,vl.cells.length=L1:=⟨_,rfl⟩
  obtain ⟨L2,hL2⟩:∃ L2,vr.cells.length=L2:=⟨_,rfl⟩
  have HL:=hide (show vl.cells.length=L1∧vr.cells.length=L2 from ⟨hL1,hL2⟩)
  rw [hL1] at u2 HC h1
  rw [hL2] at t2 h2
  clear hL1 hL2 s1 s2 n1 n2 u1 u3 u4 u5 u6 u7 t0 t1 t3 t4 t5 t6 t7
  go_enter Tryz.func186,Tryz.ntmps186
  go_wp2_with fail
  refine HC.out.mono ?_
  rintro e w1 ⟨v1,rfl,ho1,hnn,hb1⟩
  have HB:=hide (hb1)
  have x0:w1.cell? ⟨pl,0,none⟩=some (.int .i64 ((1:Nat):Int)):=(hb1.cell (p:=⟨pl,0,none⟩) u8).trans u0
  have x1:w1.cell? ⟨pr,2,none⟩=some (.slice (some ⟨g2,o2,none⟩) L2 c2):=(hb1.cell (p:=⟨pr,2,none⟩) t8).trans t2
  rcases ho1.2 with ⟨e',_⟩ | ⟨g,cap,cur,rfl,hg0,hh,hle,hmx,hsz,htk⟩
  · exact absurd e' hnn
  have HO:=hide (ho1)
  have hs2:w.heap.size≤w1.heap.size:=hb1.size
  have x8:pl<w1.heap.size:=Nat.lt_of_lt_of_le u8 hs2
  have x9:pr<w1.heap.size:=Nat.lt_of_lt_of_le t8 hs2
  have HN:=hide (show ∀ j u,(valsS vr.cells)[j]? = some u→w1.cell? ((⟨g2,o2,none⟩:Addr).add j)=some u from (H.out.2.1.below hb1).news)
  clear ho1 hb1 hh hsz htk hnn HC u0 u2 t2 u8 t8
  go_wp2_with (at_builtin;refine wpList_append_own_at _ rfl (.tmp 30) (.tmp 35) 43 rfl w.heap.size 9 i0 (.string ⟨#[]⟩) 1 16 Tryz.underlying43 hi hz0 hz1 hz2 rfl (by decide) (.slice (some ⟨g,0,none⟩) L1 cap) L1 _ rfl HO.out ⟨g2,o2,none⟩ L2 c2 (valsS vr.cells) rfl ?c0 HN.out ?c1 ?c2 ?c3 hs2 ?_)
  case c0=>rw [← HL.out.2];simp [valsS]
  case c1=>intro x hx;simp [valsS] at hx;obtain ⟨y,_,rfl⟩:=hx;rfl
  case c2=>unfold maxLen;omega
  case c3=>omega
  intro v2 w2 ho2 hg2 _ _
  have e2:List.take L1 (List.map Value.string vl.cells) ++ valsS vr.cells=valsS (vl.cells ++ vr.cells):=valsS_apT _ _ HL.out.1
  rw [e2] at ho2
  have HO2:=hide (ho2)
  have HB2:=hide (show Below w.heap.size w w2 from HB.out.grown hg2 hs2 (fun k h=>by cases h;exact hg0))
  clear ho2 hg2 e2 x0 x1
  go_wp2
  go_ret
  exact ⟨v2,rfl,by rw [List.length_append,HL.out.1,HL.out.2];exact HO2.out,HB2.out⟩
theorem newsS (w:World) (v:Value):∀ j u,([v]:List Value)[j]? = some u→(w.alloc (.cells #[v] 9)).cell? ((⟨w.heap.size,0,none⟩:Addr).add j)=some u:=by
  intro j u hj
  rw [add_none]
  match j,hj with
  | 0,h=>cases h;go_simp
  | j+1,h=>simp at h
set_option maxRecDepth 20000 in
set_option maxHeartbeats 2000000 in
theorem cwith2 {w:World} {pl pr:Nat} {vl vr:NV} (hl:NRs w pl vl) (hr:NRs w pr vr) (hkl:vl.kind=2) (h1:vl.cells.length≤1000) (h2:vr.cells.length≤1000) (k:ByteArray) (hk:k.size≤200) :
    Calls Tryz.prog 186 #[(.pointer (some ⟨pl,0,none⟩)),(.pointer (some ⟨pr,0,none⟩)),.string k] w fun e w'=>∃ v',e=.returned v'∧w'.ownsRow w.heap.size 9 1 v' (vl.cells ++ childB k vr.link :: vr.cells).length (valsS (vl.cells ++ childB k vr.link :: vr.cells))∧Below w.heap.size w w':=by
  obtain ⟨i0,hi,hz0,hz1,hz2⟩:=info_s
  obtain ⟨_,c1,n1,s1,g1,o1,rfl⟩:=hl
  obtain ⟨_,c2,n2,s2,g2,o2,rfl⟩:=hr
  obtain ⟨u0,u1,u2,u3,u4,u5,u6,u7,u8⟩:=n1.cells
  obtain ⟨t0,t1,t2,t3,t4,t5,t6,t7,t8⟩:=n2.cells
  rw [hkl] at u0
  have HC:=hide (Tryz.slices_Clone_string g1 o1 vl.cells.length c1 vl.cells w (Nat.le_refl _) (by omega) s1.getD)
  have HCC:=hide (fun (X:World)=>cchild k vr.link X hk)
  have H:=hide (show StB w (some ⟨g1,o1,none⟩) vl.cells∧StB w (some ⟨g2,o2,none⟩) vr.cells∧NB w pl vl _∧NB w pr vr _ from ⟨s1,s2,n1,n2⟩)
  obtain ⟨L1,hL1⟩:∃ L1,vl.cells.length=L1:=⟨_,rfl⟩
  obtain ⟨L2,hL2⟩:∃ L2,vr.cells.length=L2:=⟨_,rfl⟩
  obtain ⟨cc,hcc⟩:∃ cc,childB k vr.link=cc:=⟨_,rfl⟩
  rw [hcc] at HCC ⊢
  have HL:=hide (show vl.cells.length=L1∧vr.cells.length=L2 from ⟨hL1,hL2⟩)
  rw [hL1] at u2 HC h1
  rw [hL2] at t2 h2
  clear hL1 hL2 s1 s2 n1 n2 u1 u3 u4 u5 u6 u7 t0 t3 t4 t5 t6 t7 hcc
  go_enter Tryz.func186,Tryz.ntmps186
  go_wp2_with fail
  refine HC.out.mono ?_
  rintro e w1 ⟨v1,rfl,ho1,hnn,hb1⟩
  have x0:w1.cell? ⟨pl,0,none⟩=some (.int .i64 ((2:Nat):Int)):=(hb1.cell (p:=⟨pl,0,none⟩) u8).trans u0
  have x1:w1.cell? ⟨pr,1,none⟩=some (.int .i64 (vr.link:Int)):=(hb1.cell (p:=⟨pr,1,none⟩) t8).trans t1
  rcases ho1.2 with ⟨e',_⟩ | ⟨g,cap,cur,rfl,hg0,hh,hle,hmx,hsz,htk⟩
  · exact absurd e' hnn
  have HO:=hide (ho1)
  have hs2:w.heap.size≤w1.heap.size:=hb1.size
  have x8:pl<w1.heap.size:=Nat.lt_of_lt_of_le u8 hs2
  have x9:pr<w1.heap.size:=Nat.lt_of_lt_of_le t8 hs2
  have HB:=hide (hb1)
  have HH:=hide (hh)
  clear ho1 hb1 hh hsz htk hnn HC u0 u2 u8
  go_wp2_with fail
  refine (HCC.out _).mono ?_
  rintro e w2 ⟨rfl,hb2⟩
  have ho2:=row_below HO.out hb2
  have hs3:w.heap.size≤w2.heap.size:=Nat.le_trans hs2 hb2.size
  have HB2:=hide (show Below w.heap.size w w2 from HB.out.trans (hb2.mono hs2))
  have HO2:=hide (ho2)
  clear hb2 ho2 HO HB x0 x1
  go_wp2_with (at_builtin;refine wpList_append_own_at _ rfl (.tmp 20) (.tmp 28) 43 rfl w.heap.size 9 i0 (.string ⟨#[]⟩) 1 16 Tryz.underlying43 hi hz0 hz1 hz2 rfl (by decide) (.slice (some ⟨g,0,none⟩) L1 cap) L1 _ rfl (World.ownsRow.alloc HO2.out _) ⟨w2.heap.size,0,none⟩ 1 1 [.string cc] rfl rfl (newsS _ _) (fun x hx=>by simp at hx;subst hx;rfl) ?c2 ?c3 ?c4 ?_)
  case c2=>unfold maxLen;omega
  case c3=>omega
  case c4=>simp;omega
  intro v3 w3 ho3 hg3 hnil3 _
  have hv3:¬ v3=.slice none 0 0:=hnil3
  have hs4:w.heap.size≤w3.heap.size:=Nat.le_trans hs3 (Nat.le_trans (by simp) hg3.size)
  have hbA:Below w.heap.size w (w2.alloc (.cells #[.string cc] 9)):=HB2.out.alloc hs3 _
  have hb3:Below w.heap.size w w3:=hbA.grown hg3 (Nat.le_trans hs3 (by simp)) (fun k h=>by cases h;exact hg0)
  rcases ho3.2 with ⟨e',_⟩ | ⟨g',cap',cur',rfl,hg0',hh',hle',hmx',hsz',htk'⟩
  · exact absurd e' hv3
  have HO3:=hide (ho3)
  have HB3:=hide (hb3)
  have x1:w3.cell? ⟨pr,2,none⟩=some (.slice (some ⟨g2,o2,none⟩) L2 c2):=(hb3.cell (p:=⟨pr,2,none⟩) t8).trans t2
  have x9:pr<w3.heap.size:=Nat.lt_of_lt_of_le t8 hs4
  have HN:=hide (show ∀ j u,(valsS vr.cells)[j]? = some u→w3.cell? ((⟨g2,o2,none⟩:Addr).add j)=some u from (H.out.2.1.below hb3).news)
  clear ho3 hg3 hnil3 hv3 hbA hb3 hh' hsz' htk' t1 t2 t8 HO2 HB2
  go_wp2_with (at_builtin;refine wpList_append_own_at _ rfl (.tmp 30) (.tmp 35) 43 rfl w.heap.size 9 i0 (.string ⟨#[]⟩) 1 16 Tryz.underlying43 hi hz0 hz1 hz2 rfl (by decide) (.slice (some ⟨g',0,none⟩) (L1+1) cap') (L1+1) _ rfl HO3.out ⟨g2,o2,none⟩ L2 c2 (valsS vr.cells) rfl ?d0 HN.out ?d1 ?d2 ?d3 hs4 ?_)
  case d0=>rw [← HL.out.2];simp [valsS]
  case d1=>intro x hx;simp [valsS] at hx;obtain ⟨y,_,rfl⟩:=hx;rfl
  case d2=>unfold maxLen;omega
  case d3=>omega
  intro v4 w4 ho4 hg4 _ _
  have e4:List.take L1 (List.map Value.string vl.cells) ++ Value.string cc :: valsS vr.cells=valsS (vl.cells ++ cc :: vr.cells):=valsS_apT _ (cc :: vr.cells) HL.out.1
  rw [e4] at ho4
  have HO4:=hide (ho4)
  have HB4:=hide (show Below w.heap.size w w4 from HB3.out.grown hg4 hs4 (fun k h=>by cases h;exact hg0'))
  clear ho4 hg4 e4 x1
  go_wp2
  go_ret
  refine ⟨v4,rfl,?_,HB4.out⟩
  rw [List.length_append,List.length_cons,HL.out.1,HL.out.2,show L1+(L2+1)=L1+1+L2 by omega]
  exact HO4.out
end Go.Proofs.YtmgjdjjfeapcdaaGreat
namespace Go.Proofs.YtmgjdjjfeapcdaaGreat
open Go.RowKit Go.Lib Go.Maps Go.Sort
/- the cells of both: an inner node's first child gets a cell with the key between -/
def withL (kd:Nat) (l1:List ByteArray) (k:ByteArray) (link:Nat) (l2:List ByteArray):List ByteArray:=if kd=1 then l1 ++ l2 else l1 ++ childB k link :: l2
theorem cwithN {w:World} {pl pr:Nat} {vl vr:NV} (hl:NRs w pl vl) (hr:NRs w pr vr) (hkl:vl.kind=1∨vl.kind=2) (h1:vl.cells.length≤1000) (h2:vr.cells.length≤1000) (k:ByteArray) (hk:k.size≤200) :
    Calls Tryz.prog 186 #[(.pointer (some ⟨pl,0,none⟩)),(.pointer (some ⟨pr,0,none⟩)),.string k] w fun e w'=>∃ v',e=.returned v'∧w'.ownsRow w.heap.size 9 1 v' (withL vl.kind vl.cells k vr.link vr.cells).length (valsS (withL vl.kind vl.cells k vr.link vr.cells))∧Below w.heap.size w w':=by
  unfold withL
  rcases hkl with e | e
  · rw [if_pos e]
    exact cwith1 hl hr e h1 h2 k
  · rw [if_neg (by omega)]
    exact cwith2 hl hr e h1 h2 k hk
/- what is left of the row in the left node's page, what in the right one's -/
def shrL (kd link:Nat) (l:List ByteArray):PgV:=⟨kd,link,l.take (midC l)⟩
def shrR (kd link:Nat) (l:List ByteArray):PgV:=if kd=1 then ⟨1,link,l.drop (midC l)⟩ else ⟨2,numB (tx l (midC l)) ((tx l (midC l)).size - 4),l.drop (midC l+1)⟩
/- where a row of such cells can be parted -/
structure ShrOk (kd:Nat) (l:List ByteArray):Prop where
  len:l.length≤1000
  used:usedC l≤1500
  mid:midC l+(kd - 1)<l.length
  four:kd=2→4≤(tx l (midC l)).size
  key:kS (tx l (midC l))≤(tx l (midC l)).size∧(tx l (midC l)).size≤240
section
variable {w w':World} {B D Gp:Nat} {V V':PV} {K:Pgs} {pk m:Nat} {A:Nat→PgV} {fl:List Nat} {pages tb root:Nat}
theorem cshare (h:TS w B D Gp V K pk m A fl pages) (hm:m≤39000) (ht:TB w tb Gp root) {b pl pr:Nat} {vl vr:NV} {sl sr:Value} {g off cap:Nat} {l:List ByteArray}
    (hl:NB w pl vl sl) (hr:NB w pr vr sr) (hbl:b≤pl) (hbr:b≤pr) (hne:¬ pl=pr) (hst:StB w (some ⟨g,off,none⟩) l) (hcap:l.length≤cap)
    (kd:Nat) (hkd:kd=1∨kd=2) (hkl:vl.kind=kd) (hkr:vr.kind=kd) (hok:ShrOk kd l) (hsl:∃ x y z,sl=.slice x y z) (hsr:∃ x y z,sr=.slice x y z)
    (h1:okP (shrL kd vl.link l)) (h2:okP (shrR kd vr.link l)) (hn1:0<vl.num∧vl.num<pages∧¬ vl.num ∈ fl) (hn2:0<vr.num∧vr.num<pages∧¬ vr.num ∈ fl) :
    Calls Tryz.prog 184 #[(.pointer (some ⟨tb,0,none⟩)),(.pointer (some ⟨pl,0,none⟩)),(.pointer (some ⟨pr,0,none⟩)),.slice (some ⟨g,off,none⟩) l.length cap] w fun e w'=>e=.returned (.string (keyB (tx l (midC l))))∧∃ V',TS w' B D Gp V' K pk (m+2) (updA (updA A vl.num (shrL kd vl.link l)) vr.num (shrR kd vr.link l)) fl pages∧TF b B w w' V V'∧NR w' pr { vr with link:=(shrR kd vr.link l).link,cells:=(shrR kd vr.link l).cells }:=by
  rcases hkd with rfl | rfl
  · have e2:shrR 1 vr.link l=⟨1,vr.link,l.drop (midC l)⟩:=if_pos rfl
    rw [e2] at h2 ⊢
    exact cshare1 h hm ht hl hr hbl hbr hne hst hcap hok.len hok.used hkl hkr (by have:=hok.mid;omega) hsl hsr h1 h2 hn1 hn2 hok.key
  · have e2:shrR 2 vr.link l=⟨2,numB (tx l (midC l)) ((tx l (midC l)).size - 4),l.drop (midC l+1)⟩:=if_neg (by decide)
    rw [e2] at h2 ⊢
    exact cshare2 h hm ht hl hr hbl hbr hne hst hcap hok.len hok.used hkl hkr (by have:=hok.mid;omega) hsl hsr _ rfl (hok.four rfl) h1 h2 hn1 hn2 hok.key
theorem csplit (h:TS w B D Gp V K pk m A fl pages) (hm:m≤36000) (hpg:pages<58000) (ht:TB w tb Gp root) {b0 b1 p0 pn:Nat} {v0 vn:NV} {g off cap:Nat} {l:List ByteArray} {X:List Nat}
    (hp:NDb w b0 b1 p0 v0) (htk:v0.taken≤v0.cells.length) (hl0:v0.cells.length≤1000) (hn:NB w pn vn (.slice (some ⟨g,off,none⟩) l.length cap)) (hbn:b1≤pn) (hst:StB w (some ⟨g,off,none⟩) l) (hcap:l.length≤cap)
    (kd:Nat) (hkd:kd=1∨kd=2) (hkn:vn.kind=kd) (hok:ShrOk kd l)
    (h1:∀ n,n≤60000→okP (shrL kd (if kd=1 then n else vn.link) l)) (h2:okP (shrR kd vn.link l)) (hX:(0 :: (fl ++ X)).Perm (List.range pages)) (hnX:vn.num ∈ X) (hks:(keyB (tx l (midC l))).size≤200) :
    Calls Tryz.prog 156 #[(.pointer (some ⟨tb,0,none⟩)),(.pointer (some ⟨p0,0,none⟩)),(.pointer (some ⟨pn,0,none⟩))] w fun e w'=>e=.returned (.tuple #[])∧splPost w B D Gp V K pk m A fl pages b0 p0 v0 vn.num (fun n=>shrL kd (if kd=1 then n else vn.link) l) (shrR kd vn.link l) (keyB (tx l (midC l))) w':=by
  rcases hkd with rfl | rfl
  · have e2:shrR 1 vn.link l=⟨1,vn.link,l.drop (midC l)⟩:=if_pos rfl
    rw [e2] at h2 ⊢
    exact csplit1 h hm hpg ht hp htk hl0 hn hbn hst hcap hok.len hok.used hkn (by have:=hok.mid;omega) h1 h2 hX hnX hok.key hks
  · have e2:shrR 2 vn.link l=⟨2,numB (tx l (midC l)) ((tx l (midC l)).size - 4),l.drop (midC l+1)⟩:=if_neg (by decide)
    rw [e2] at h2 ⊢
    exact csplit2 h hm hpg ht hp htk hl0 hn hbn hst hcap hok.len hok.used hkn (by have:=hok.mid;omega) _ rfl (hok.four rfl) (h1 0 (by omega)) h2 hX hnX hok.key hks
end
end Go.Proofs.YtmgjdjjfeapcdaaGreat
