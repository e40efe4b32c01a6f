/- a node is joined with the one beside it -/
import Derived.Test.YtmgjdjjfeapcdaaGreatMgAP
namespace Go.Proofs.YtmgjdjjfeapcdaaGreat
open Go.RowKit Go.Lib Go.Maps Go.Sort
attribute [local go_sem ↓] Go.wp_at_zero Go.wp_at_succ
theorem NDb.nr {w:World} {b top p:Nat} {v:NV} (h:NDb w b top p v):NR w p v:=h.nd.nr
/- a node gets another link and other cells -/
theorem one_set {w:World} {pl:Nat} {vl:NV} {sl s:Value} {l:List ByteArray} {k:Nat} (hl:NB w pl vl sl) {b:Nat} (hb:b≤pl) :
    NB (w.setCell ⟨pl,2,none⟩ s) pl { vl with cells:=l } s∧NF b w (w.setCell ⟨pl,2,none⟩ s)∧NB ((w.setCell ⟨pl,2,none⟩ s).setCell ⟨pl,1,none⟩ (.int .i64 (k:Int))) pl { vl with cells:=l,link:=k } s∧NF b w ((w.setCell ⟨pl,2,none⟩ s).setCell ⟨pl,1,none⟩ (.int .i64 (k:Int))):=by
  have g1:=set_grown w pl 2 s
  have g2:=set_grown (w.setCell ⟨pl,2,none⟩ s) pl 1 (.int .i64 (k:Int))
  have b1:NB (w.setCell ⟨pl,2,none⟩ s) pl { vl with cells:=l } s:=by show (w.setCell ⟨pl,2,none⟩ s).heap[pl]? = _;rw [set_blk hl];rfl
  refine ⟨b1,(NF.refl w).set g1 hb (.inr ⟨_,hl⟩),?_,((NF.refl w).set g1 hb (.inr ⟨_,hl⟩)).set g2 hb (.inr ⟨_,b1⟩)⟩
  show ((w.setCell ⟨pl,2,none⟩ s).setCell ⟨pl,1,none⟩ (.int .i64 (k:Int))).heap[pl]? = _
  rw [set_blk b1]
  rfl
theorem StB.setN {w:World} {p k:Nat} {v:NV} {s u:Value} {a:Option Addr} {l:List ByteArray} (hn:NB w p v s) (h:StB w a l):StB (w.setCell ⟨p,k,none⟩ u) a l:=by
  rcases h with h | ⟨b,off,cur,e,hh,hc⟩
  · exact .inl h
  · refine .inr ⟨b,off,cur,e,?_,hc⟩
    exact ((set_grown w p k u).block b (Array.getElem?_eq_some_iff.1 hh).1 (fun e=>by injection e with e;exact ne_CC ⟨_,hn⟩ ⟨_,hh⟩ (by decide) e)).trans hh
theorem NB.setN {w:World} {p q k:Nat} {v:NV} {s u:Value} (hn:NB w q v s) (hne:¬ q=p):NB (w.setCell ⟨p,k,none⟩ u) q v s:=((set_grown w p k u).block q (Array.getElem?_eq_some_iff.1 hn).1 (fun e=>by injection e with e;exact hne e)).trans hn
/- a cell of a node is another one -/
theorem NDb.setc {w:World} {b top p g cap:Nat} {v:NV} (hn:NB w p v (.slice (some ⟨g,0,none⟩) v.cells.length cap)) (ho:w.ownsRow b 9 1 (.slice (some ⟨g,0,none⟩) v.cells.length cap) v.cells.length (valsS v.cells)) (hb:b≤p) (ht:p<top) (hg:g<top) (i:Nat) (c:ByteArray) :
    NDb (w.setCell ⟨g,i,none⟩ (.string c)) b top p { v with cells:=v.cells.set i c }∧NF b w (w.setCell ⟨g,i,none⟩ (.string c)):=by
  obtain ⟨h1,h2⟩:=ho.stored i (.string c)
  have e:(valsS v.cells).set i (.string c)=valsS (v.cells.set i c):=by simp [valsS,List.map_set]
  have hgg:b≤g∧isC w g 9:=by
    rcases ho.2 with ⟨e',_⟩ | ⟨g',cap',cur,e',hb',hh,_⟩
    · cases e'
    · injection e' with e'
      injection e' with e'
      injection e' with e'
      subst e'
      exact ⟨hb',_,hh⟩
  rw [e] at h1
  refine ⟨⟨.slice (some ⟨g,0,none⟩) v.cells.length cap,?_,?_,hb,ht,fun k hk=>by cases hk;exact hg⟩,(NF.refl w).set h2 hgg.1 (.inl hgg.2)⟩
  · exact (h2.block p (Array.getElem?_eq_some_iff.1 hn).1 (fun e=>by injection e with e;exact ne_CC hgg.2 ⟨_,hn⟩ (by decide) e)).trans hn
  · show World.ownsRow _ _ _ _ _ (v.cells.set i c).length _
    rw [List.length_set]
    exact h1
theorem join_facts {w w':World} {b p g cap:Nat} {v:NV} (hn:NB w p v (.slice (some ⟨g,0,none⟩) v.cells.length cap)) (ho:w.ownsRow b 9 1 (.slice (some ⟨g,0,none⟩) v.cells.length cap) v.cells.length (valsS v.cells)) (hb:Below w.heap.size w w') (i:Nat) (hi:i<v.cells.length) :
    w'.cell? ⟨p,2,none⟩=some (.slice (some ⟨g,0,none⟩) v.cells.length cap)∧p<w'.heap.size∧w'.cell? ⟨g,i,none⟩=some (.string (tx v.cells i))∧w'.frozen? ⟨g,i,none⟩=false∧g<w'.heap.size:=by
  have hn':NB w' p v _:=(hb.block p (Array.getElem?_eq_some_iff.1 hn).1).trans hn
  have ho':=row_below ho hb
  obtain ⟨y0,y1,y2,y3,y4,y5,y6,y7,y8⟩:=hn'.cells
  refine ⟨y2,y8,?_,ho'.frozenAt i,?_⟩
  · obtain ⟨a,c,e,h1,-⟩:=StB.own ho'
    injection e with e1 e2 e3
    subst e1
    rcases h1 with h1 | ⟨b',o',cur,e,hh,hc⟩
    · rw [h1] at hi;simp at hi
    · injection e with e
      injection e with e1 e2 _
      subst e1 e2
      simp only [World.cell?,hh]
      have:=hc i hi
      rwa [Nat.zero_add] at this
  · rcases ho'.2 with ⟨e',_⟩ | ⟨g',cap',cur,e',hb',hh,_⟩
    · cases e'
    · injection e' with e'
      injection e' with e'
      injection e' with e'
      subst e'
      exact (Array.getElem?_eq_some_iff.1 hh).1
section
variable {w w':World} {B D Gp:Nat} {V V':PV} {K:Pgs} {pk m:Nat} {A:Nat→PgV} {fl:List Nat} {pages tb root:Nat}
/- the right one is loaded; leaves; one page is enough -/
set_option maxRecDepth 20000 in
set_option maxHeartbeats 4000000 in
theorem cjoinR1M (h:TS w B D Gp V K pk m A fl pages) (hm:m≤36000) (ht:TB w tb Gp root) {b0 b1 p0 pn:Nat} {v0 vn vs:NV} (l:List ByteArray)
    (hp:NDb w b0 b1 p0 v0) (htk:v0.taken=0) (hl0:0<v0.cells.length∧v0.cells.length≤1000) (hc0:kS (tx v0.cells 0)≤(tx v0.cells 0).size∧(tx v0.cells 0).size≤240) (hkz:(keyB (tx v0.cells 0)).size≤200)
    (hn:NRs w pn vn) (hbn:b1≤pn)
    (hch:∀ Y:World,TS Y B D Gp V K pk m A fl pages→TB Y tb Gp root→NDb Y b0 b1 p0 v0→Calls Tryz.prog 103 #[(.pointer (some ⟨tb,0,none⟩)),(.pointer (some ⟨p0,0,none⟩)),.int .i64 1] Y fun e w'=>∃ (V':PV) (q:Nat),e=.returned (.pointer (some ⟨q,0,none⟩))∧TS w' B D Gp V' K pk m A fl pages∧St2 Y w' B V V'∧ND w' Y.heap.size q vs∧Y.heap.size≤q)
    (hkn:vn.kind=1) (hks:vs.kind=1) (hn0:vn.cells.length≤400) (hs0:0<vs.cells.length∧vs.cells.length≤400)
    (hl:withL 1 vn.cells (keyB (tx v0.cells 0)) vs.link vs.cells=l) (hu:usedC l≤1012) (hok:okP ⟨1,vs.link,l⟩)
    (hn1:0<vn.num∧vn.num<pages∧¬ vn.num ∈ fl) (hn2:0<vs.num∧vs.num<pages∧¬ vs.num ∈ fl) :
    Calls Tryz.prog 157 #[(.pointer (some ⟨tb,0,none⟩)),(.pointer (some ⟨p0,0,none⟩)),(.pointer (some ⟨pn,0,none⟩))] w fun e w'=>e=.returned (.tuple #[])∧∃ V',TS w' B D Gp V' K pk (m+3) (updA (updA (updA A vn.num ⟨1,vs.link,l⟩) vs.num ⟨3,fl.headD 0,[]⟩) 0 ⟨4,vs.num,[]⟩) (vs.num :: fl) pages∧TF b0 B w w' V V'∧NDb w' b0 w'.heap.size p0 { v0 with cells:=v0.cells.eraseIdx 0 }∧NRs w' p0 { v0 with cells:=v0.cells.eraseIdx 0 }:=by
  have hb01:b0≤b1:=by obtain ⟨_,_,_,q1,q2,_⟩:=hp;omega
  have y6:=hp.cellsT
  have y8:p0<w.heap.size:=by obtain ⟨_,q,_⟩:=hp;exact q.cells.2.2.2.2.2.2.2.2
  rw [htk] at y6
  have HCH:=hide (hch)
  have H:=hide (show TS w B D Gp V K pk m A fl pages∧NDb w b0 b1 p0 v0∧NRs w pn vn∧TB w tb Gp root from ⟨h,hp,hn,ht⟩)
  have HX:=hide (show b0≤b1∧b1≤pn∧m≤36000∧v0.cells.length≤1000∧0<v0.cells.length∧okP ⟨1,vs.link,l⟩∧(0<vn.num∧vn.num<pages∧¬ vn.num ∈ fl)∧(0<vs.num∧vs.num<pages∧¬ vs.num ∈ fl) from ⟨hb01,hbn,hm,hl0.2,hl0.1,hok,hn1,hn2⟩)
  have HU:=hide (hu)
  have HKE:=hide (fun (Y:World) (hY:NR Y p0 v0)=>ckeyN hY 0 hl0.1 hc0.1 hc0.2)
  obtain ⟨kb,hkb⟩:∃ kb,keyB (tx v0.cells 0)=kb:=⟨_,rfl⟩
  rw [hkb] at HKE hl hkz
  have HWI:=hide (fun (Y:World) (q:Nat) (h1:NRs Y pn vn) (h2:NRs Y q vs)=>cwithN h1 h2 (.inl hkn) (by omega) (by omega) kb hkz)
  have HS0:=hide (hs0.1)
  rw [hkn,hl] at HWI
  have hll:l.length≤vn.cells.length+vs.cells.length+1∧0<l.length:=by rw [← hl];simp [withL];omega
  have HLL:=hide (show l.length≤1000∧0<l.length from ⟨by omega,by omega⟩)
  have HKD:=hide (show vn.kind=1∧vs.kind=1 from ⟨hkn,hks⟩)
  clear h hp hn ht hch hkb hl hkz hc0 hl0 hbn hb01 hm hok hn1 hn2 hu hn0 hs0 hll hkn hks htk
  go_enter Tryz.func157,Tryz.ntmps157
  go_wp2_with fail
  go_region
  all_goals
    go_wp2_with fail
    have hd:Below w.heap.size w w.drew:=drawnB w 1
    obtain ⟨h1,h2⟩:=H.out.1.below hd
    have hnb:NDb w.drew b0 b1 p0 v0:=H.out.2.1.below hd
    refine (HCH.out _ h1 (H.out.1.stayTB h2 H.out.2.2.2) hnb).mono ?_
    rintro e w1 ⟨V1,q,rfl,k1,k2,k3,k4⟩
    have k2:=h2.trans k2
    have hn1:=H.out.1.stayNRs k2 H.out.2.2.1
    have hp1:=H.out.1.stayNDb k2 H.out.2.1
    have hq1:=k3.nr.s HS0.out
    have hne:¬ pn=q:=by obtain ⟨_,_,n1,_⟩:=H.out.2.2.1;have:=n1.cells.2.2.2.2.2.2.2.2;have:w.heap.size≤q:=k4;omega
    have hne':¬ q=pn:=fun e=>hne e.symm
    have hbq:b1≤q:=by obtain ⟨_,_,n1,_⟩:=H.out.2.2.1;have:=n1.cells.2.2.2.2.2.2.2.2;have:w.heap.size≤q:=k4;have:=HX.out.2.1;omega
    have HBQ:=hide (show b1≤pn∧b1≤q from ⟨HX.out.2.1,hbq⟩)
    have tb1:=H.out.1.stayTB k2 H.out.2.2.2
    have HK:=hide (show TS w1 B D Gp V1 K pk m A fl pages∧St2 w w1 B V V1∧NRs w1 pn vn∧NDb w1 b0 b1 p0 v0∧NRs w1 q vs∧TB w1 tb Gp root from ⟨k1,k2,hn1,hp1,hq1,tb1⟩)
    obtain ⟨a1,c1,n1,-⟩:=HK.out.2.2.1
    obtain ⟨a2,c2,n2,-⟩:=HK.out.2.2.2.2.1
    obtain ⟨u0,u1,u2,u3,u4,u5,u6,u7,u8⟩:=n1.cells
    obtain ⟨t0,t1,t2,t3,t4,t5,t6,t7,t8⟩:=n2.cells
    rw [HKD.out.1] at u0
    rw [HKD.out.2] at t0
    clear hd h1 h2 hnb k1 k2 k3 k4 hn1 hq1 hp1 hbq tb1 n1 n2 HCH u1 u2 u3 u4 u5 u6 u7 t1 t2 t3 t4 t5 t6 t7 y6 y8
    go_wp2_with fail
    go_region
    all_goals
      have hd:Below w1.heap.size w1 w1.drew:=drawnB w1 1
      have HK2:=hide (show NRs w1.drew pn vn∧NDb w1.drew b0 b1 p0 v0∧NRs w1.drew q vs from ⟨HK.out.1.stayNRs (HK.out.1.below hd).2 HK.out.2.2.1,HK.out.2.2.2.1.below hd,HK.out.1.stayNRs (HK.out.1.below hd).2 HK.out.2.2.2.2.1⟩)
      clear hd
      go_wp2_with fail
      refine (HKE.out _ HK2.out.2.1.nr).mono ?_
      rintro e w8 ⟨rfl,hw⟩;rw [hw];clear hw
      go_wp2_with fail
      refine (HWI.out _ _ HK2.out.1 HK2.out.2.2).mono ?_
      rintro e w2 ⟨v2,rfl,ho2,hb2⟩
      obtain ⟨a,c,rfl,st2,hlc,-⟩:=StB.own ho2
      have hb2:Below w1.heap.size w1 w2:=(drawnB w1 1).trans hb2
      obtain ⟨q2,s2⟩:=HK.out.1.below hb2
      obtain ⟨a1',c1',n1,-⟩:=HK.out.1.stayNRs s2 HK.out.2.2.1
      obtain ⟨a2',c2',n2,st3,-⟩:=HK.out.1.stayNRs s2 HK.out.2.2.2.2.1
      have hp2:NDb w2 b0 b1 p0 v0:=HK.out.2.2.2.1.below hb2
      have tb2:=HK.out.1.stayTB s2 HK.out.2.2.2.2.2
      have hx:=HX.out
      have HUS:=hide (cusedB st2 c (by have:=HU.out;omega))
      have HU':=HU.out
      obtain ⟨f1,f2,f3,f4⟩:=one_set (s:=.slice a l.length c) (l:=l) (k:=vs.link) n1 HBQ.out.1
      have hnr:NR ((w2.setCell ⟨pn,2,none⟩ (.slice a l.length c)).setCell ⟨pn,1,none⟩ (.int .i64 (vs.link:Int))) pn { vn with cells:=l,link:=vs.link }:=⟨a,c,f3,(st2.setN n1).setN f1⟩
      have hnq:NR ((w2.setCell ⟨pn,2,none⟩ (.slice a l.length c)).setCell ⟨pn,1,none⟩ (.int .i64 (vs.link:Int))) q vs:=⟨a2',c2',(n2.setN hne').setN hne',(st3.setN n1).setN f1⟩
      have q3:=f4.ts q2
      have tf3:TF b0 B w _ V V1:=((H.out.1.tf HK.out.2.1 b0).trans (HK.out.1.tf s2 b0)).trans ((f4.mono HX.out.1).tf q2)
      have hp3:=(f4.pm (show PM w2 [⟨b0,p0,v0⟩] b1 from ⟨hp2,trivial⟩)).1
      have tb3:=f4.stayTB tb2
      have hpg:pgN { vn with cells:=l,link:=vs.link }=⟨1,vs.link,l⟩:=by unfold pgN;rw [show ({ vn with cells:=l,link:=vs.link }:NV).kind=vn.kind from rfl,HKD.out.1]
      have HW:=hide (ctwrite q3 (by omega) tb3 hnr (by rw [hpg];exact hx.2.2.2.2.2.1) hx.2.2.2.2.2.2.1.1 hx.2.2.2.2.2.2.1.2.1 hx.2.2.2.2.2.2.1.2.2)
      rw [hpg] at HW
      have H3:=hide (show _∧_∧_∧_∧_ from ⟨q3,tf3,hp3,tb3,hnq⟩)
      obtain ⟨u0,u1,u2,u3,u4,u5,u6,u7,u8⟩:=n1.cells
      obtain ⟨t0,t1,t2,t3,t4,t5,t6,t7,t8⟩:=n2.cells
      have fz1:=u7 1
      have fz2:=u7 2
      rw [HKD.out.1] at u0
      clear ho2 st2 hlc hb2 q2 s2 n1 n2 st3 hp2 tb2 f1 f2 f3 f4 hnr hnq q3 tf3 hp3 tb3 hpg hx HK2 u3 u4 u5 u6 u7 t0 t2 t3 t4 t5 t6 t7
      generalize usedC l=U at HUS HU'
      have HU2:¬ ((1012:Int)<(U:Int)):=by omega
      clear HU'
      generalize l.length=LL at *
      go_wp2_with fail
      refine HUS.out.mono ?_
      rintro e w9 ⟨rfl,hw⟩;rw [hw];clear hw
      go_wp2_with fail
      refine HW.out.mono ?_
      rintro e w4 ⟨rfl,V4,k1,k2⟩
      obtain ⟨j1,j2,j3,j4,j5⟩:=H3.out
      have hx:=HX.out
      have hp4:=j1.stayNDb k2 j3
      obtain ⟨a5,c5,n5,-⟩:=j1.stayNR k2 j5
      have HF:=hide (ctfree k1 (by omega) (j1.stayTB k2 j4) vs.num hx.2.2.2.2.2.2.2.1 hx.2.2.2.2.2.2.2.2.1 hx.2.2.2.2.2.2.2.2.2)
      have H4:=hide (show TS w4 B D Gp V4 K pk (m+1) (updA A vn.num ⟨1,vs.link,l⟩) fl pages∧TF b0 B w w4 V V4∧NDb w4 b0 b1 p0 v0 from ⟨k1,j2.trans (j1.tf k2 b0),hp4⟩)
      obtain ⟨t0,t1,t2,t3,t4,t5,t6,t7,t8⟩:=n5.cells
      clear k1 k2 j1 j2 j3 j4 j5 hx hp4 n5 t0 t1 t2 t4 t5 t6 t7 HW H3 HUS HU2
      go_wp2_with fail
      refine HF.out.mono ?_
      rintro e w5 ⟨rfl,V5,k1,k2⟩
      have hp5:=H4.out.1.stayNDb k2 H4.out.2.2
      have HR:=hide (cremoveN hp5 HX.out.2.2.2.1 0 HX.out.2.2.2.2.1)
      have H5:=hide (show TS w5 B D Gp V5 K pk (m+1+2) (updA (updA (updA A vn.num ⟨1,vs.link,l⟩) vs.num ⟨3,fl.headD 0,[]⟩) 0 ⟨4,vs.num,[]⟩) (vs.num :: fl) pages∧TF b0 B w w5 V V5 from ⟨k1,H4.out.2.1.trans (H4.out.1.tf k2 b0)⟩)
      clear k1 k2 hp5 H4 HF
      go_wp2_with fail
      refine HR.out.mono ?_
      rintro e w6 ⟨rfl,i1,i2,i3⟩
      go_wp2
      go_end0
      exact ⟨rfl,V5,i2.ts H5.out.1,H5.out.2.trans (i2.tf H5.out.1),i1,i3⟩
/- the left one is loaded; leaves; one page is enough -/
set_option maxRecDepth 20000 in
set_option maxHeartbeats 4000000 in
theorem cjoinL1M (h:TS w B D Gp V K pk m A fl pages) (hm:m≤36000) (ht:TB w tb Gp root) {b0 b1 p0 pn:Nat} {v0 vn vs:NV} (l:List ByteArray) (t:Nat)
    (hp:NDb w b0 b1 p0 v0) (htk:v0.taken=(t+1)) (hl0:t<v0.cells.length∧v0.cells.length≤1000) (hc0:kS (tx v0.cells t)≤(tx v0.cells t).size∧(tx v0.cells t).size≤240) (hkz:(keyB (tx v0.cells t)).size≤200)
    (hn:NRs w pn vn) (hbn:b1≤pn)
    (hch:∀ Y:World,TS Y B D Gp V K pk m A fl pages→TB Y tb Gp root→NDb Y b0 b1 p0 v0→Calls Tryz.prog 103 #[(.pointer (some ⟨tb,0,none⟩)),(.pointer (some ⟨p0,0,none⟩)),.int .i64 (t:Int)] Y fun e w'=>∃ (V':PV) (q:Nat),e=.returned (.pointer (some ⟨q,0,none⟩))∧TS w' B D Gp V' K pk m A fl pages∧St2 Y w' B V V'∧ND w' Y.heap.size q vs∧Y.heap.size≤q)
    (hkn:vn.kind=1) (hks:vs.kind=1) (hn0:vn.cells.length≤400) (hs0:0<vs.cells.length∧vs.cells.length≤400)
    (hl:withL 1 vs.cells (keyB (tx v0.cells t)) vn.link vn.cells=l) (hu:usedC l≤1012) (hok:okP ⟨1,vn.link,l⟩)
    (hn1:0<vs.num∧vs.num<pages∧¬ vs.num ∈ fl) (hn2:0<vn.num∧vn.num<pages∧¬ vn.num ∈ fl) :
    Calls Tryz.prog 157 #[(.pointer (some ⟨tb,0,none⟩)),(.pointer (some ⟨p0,0,none⟩)),(.pointer (some ⟨pn,0,none⟩))] w fun e w'=>e=.returned (.tuple #[])∧∃ V',TS w' B D Gp V' K pk (m+3) (updA (updA (updA A vs.num ⟨1,vn.link,l⟩) vn.num ⟨3,fl.headD 0,[]⟩) 0 ⟨4,vn.num,[]⟩) (vn.num :: fl) pages∧TF b0 B w w' V V'∧NDb w' b0 w'.heap.size p0 { v0 with cells:=v0.cells.eraseIdx t }∧NRs w' p0 { v0 with cells:=v0.cells.eraseIdx t }:=by
  have hb01:b0≤b1:=by obtain ⟨_,_,_,q1,q2,_⟩:=hp;omega
  have y6:=hp.cellsT
  have y8:p0<w.heap.size:=by obtain ⟨_,q,_⟩:=hp;exact q.cells.2.2.2.2.2.2.2.2
  obtain ⟨tk,hvt⟩:∃ tk,v0.taken=tk:=⟨_,rfl⟩
  rw [hvt] at y6 htk
  have HCH:=hide (hch)
  have H:=hide (show TS w B D Gp V K pk m A fl pages∧NDb w b0 b1 p0 v0∧NRs w pn vn∧TB w tb Gp root from ⟨h,hp,hn,ht⟩)
  have HX:=hide (show b0≤b1∧b1≤pn∧m≤36000∧v0.cells.length≤1000∧t<v0.cells.length∧okP ⟨1,vn.link,l⟩∧(0<vs.num∧vs.num<pages∧¬ vs.num ∈ fl)∧(0<vn.num∧vn.num<pages∧¬ vn.num ∈ fl) from ⟨hb01,hbn,hm,hl0.2,hl0.1,hok,hn1,hn2⟩)
  have HU:=hide (hu)
  have HKE:=hide (fun (Y:World) (hY:NR Y p0 v0)=>ckeyN hY t hl0.1 hc0.1 hc0.2)
  obtain ⟨kb,hkb⟩:∃ kb,keyB (tx v0.cells t)=kb:=⟨_,rfl⟩
  rw [hkb] at HKE hl hkz
  have HWI:=hide (fun (Y:World) (q:Nat) (h1:NRs Y q vs) (h2:NRs Y pn vn)=>cwithN h1 h2 (.inl hks) (by omega) (by omega) kb hkz)
  have HS0:=hide (hs0.1)
  rw [hks,hl] at HWI
  have hll:l.length≤vs.cells.length+vn.cells.length+1∧0<l.length:=by rw [← hl];simp [withL];omega
  have HLL:=hide (show l.length≤1000∧0<l.length from ⟨by omega,by omega⟩)
  have HKD:=hide (show vs.kind=1∧vn.kind=1 from ⟨hks,hkn⟩)
  have ht1:wrap64 ((tk:Int) - 1)=(t:Int):=by unfold wrap64;omega
  have ht2:(0:Int)<(tk:Int):=by omega
  clear h hp hn ht hch hkb hl hkz hc0 hl0 hbn hb01 hm hok hn1 hn2 hu hn0 hs0 hll hkn hks htk hvt
  go_enter Tryz.func157,Tryz.ntmps157
  go_wp2_with fail
  go_region
  all_goals
    go_wp2_with fail
    have hd:Below w.heap.size w w.drew:=drawnB w 1
    obtain ⟨h1,h2⟩:=H.out.1.below hd
    have hnb:NDb w.drew b0 b1 p0 v0:=H.out.2.1.below hd
    refine (HCH.out _ h1 (H.out.1.stayTB h2 H.out.2.2.2) hnb).mono ?_
    rintro e w1 ⟨V1,q,rfl,k1,k2,k3,k4⟩
    have k2:=h2.trans k2
    have hn1:=H.out.1.stayNRs k2 H.out.2.2.1
    have hp1:=H.out.1.stayNDb k2 H.out.2.1
    have hq1:=k3.nr.s HS0.out
    have hne:¬ pn=q:=by obtain ⟨_,_,n1,_⟩:=H.out.2.2.1;have:=n1.cells.2.2.2.2.2.2.2.2;have:w.heap.size≤q:=k4;omega
    have hne':¬ q=pn:=fun e=>hne e.symm
    have hbq:b1≤q:=by obtain ⟨_,_,n1,_⟩:=H.out.2.2.1;have:=n1.cells.2.2.2.2.2.2.2.2;have:w.heap.size≤q:=k4;have:=HX.out.2.1;omega
    have HBQ:=hide (show b1≤q∧b1≤pn from ⟨hbq,HX.out.2.1⟩)
    have tb1:=H.out.1.stayTB k2 H.out.2.2.2
    have HK:=hide (show TS w1 B D Gp V1 K pk m A fl pages∧St2 w w1 B V V1∧NRs w1 q vs∧NDb w1 b0 b1 p0 v0∧NRs w1 pn vn∧TB w1 tb Gp root from ⟨k1,k2,hq1,hp1,hn1,tb1⟩)
    obtain ⟨a1,c1,n1,-⟩:=HK.out.2.2.1
    obtain ⟨a2,c2,n2,-⟩:=HK.out.2.2.2.2.1
    obtain ⟨u0,u1,u2,u3,u4,u5,u6,u7,u8⟩:=n1.cells
    obtain ⟨t0,t1,t2,t3,t4,t5,t6,t7,t8⟩:=n2.cells
    rw [HKD.out.1] at u0
    rw [HKD.out.2] at t0
    clear hd h1 h2 hnb k1 k2 k3 k4 hn1 hq1 hp1 hbq tb1 n1 n2 HCH u1 u2 u3 u4 u5 u6 u7 t1 t2 t3 t4 t5 t6 t7 y6 y8
    go_wp2_with fail
    go_region
    all_goals
      have hd:Below w1.heap.size w1 w1.drew:=drawnB w1 1
      have HK2:=hide (show NRs w1.drew q vs∧NDb w1.drew b0 b1 p0 v0∧NRs w1.drew pn vn from ⟨HK.out.1.stayNRs (HK.out.1.below hd).2 HK.out.2.2.1,HK.out.2.2.2.1.below hd,HK.out.1.stayNRs (HK.out.1.below hd).2 HK.out.2.2.2.2.1⟩)
      clear hd
      go_wp2_with fail
      refine (HKE.out _ HK2.out.2.1.nr).mono ?_
      rintro e w8 ⟨rfl,hw⟩;rw [hw];clear hw
      go_wp2_with fail
      refine (HWI.out _ _ HK2.out.1 HK2.out.2.2).mono ?_
      rintro e w2 ⟨v2,rfl,ho2,hb2⟩
      obtain ⟨a,c,rfl,st2,hlc,-⟩:=StB.own ho2
      have hb2:Below w1.heap.size w1 w2:=(drawnB w1 1).trans hb2
      obtain ⟨q2,s2⟩:=HK.out.1.below hb2
      obtain ⟨a1',c1',n1,-⟩:=HK.out.1.stayNRs s2 HK.out.2.2.1
      obtain ⟨a2',c2',n2,st3,-⟩:=HK.out.1.stayNRs s2 HK.out.2.2.2.2.1
      have hp2:NDb w2 b0 b1 p0 v0:=HK.out.2.2.2.1.below hb2
      have tb2:=HK.out.1.stayTB s2 HK.out.2.2.2.2.2
      have hx:=HX.out
      have HUS:=hide (cusedB st2 c (by have:=HU.out;omega))
      have HU':=HU.out
      obtain ⟨f1,f2,f3,f4⟩:=one_set (s:=.slice a l.length c) (l:=l) (k:=vn.link) n1 HBQ.out.1
      have hnr:NR ((w2.setCell ⟨q,2,none⟩ (.slice a l.length c)).setCell ⟨q,1,none⟩ (.int .i64 (vn.link:Int))) q { vs with cells:=l,link:=vn.link }:=⟨a,c,f3,(st2.setN n1).setN f1⟩
      have hnq:NR ((w2.setCell ⟨q,2,none⟩ (.slice a l.length c)).setCell ⟨q,1,none⟩ (.int .i64 (vn.link:Int))) pn vn:=⟨a2',c2',(n2.setN hne).setN hne,(st3.setN n1).setN f1⟩
      have q3:=f4.ts q2
      have tf3:TF b0 B w _ V V1:=((H.out.1.tf HK.out.2.1 b0).trans (HK.out.1.tf s2 b0)).trans ((f4.mono HX.out.1).tf q2)
      have hp3:=(f4.pm (show PM w2 [⟨b0,p0,v0⟩] b1 from ⟨hp2,trivial⟩)).1
      have tb3:=f4.stayTB tb2
      have hpg:pgN { vs with cells:=l,link:=vn.link }=⟨1,vn.link,l⟩:=by unfold pgN;rw [show ({ vs with cells:=l,link:=vn.link }:NV).kind=vs.kind from rfl,HKD.out.1]
      have HW:=hide (ctwrite q3 (by omega) tb3 hnr (by rw [hpg];exact hx.2.2.2.2.2.1) hx.2.2.2.2.2.2.1.1 hx.2.2.2.2.2.2.1.2.1 hx.2.2.2.2.2.2.1.2.2)
      rw [hpg] at HW
      have H3:=hide (show _∧_∧_∧_∧_ from ⟨q3,tf3,hp3,tb3,hnq⟩)
      obtain ⟨u0,u1,u2,u3,u4,u5,u6,u7,u8⟩:=n1.cells
      obtain ⟨t0,t1,t2,t3,t4,t5,t6,t7,t8⟩:=n2.cells
      have fz1:=u7 1
      have fz2:=u7 2
      rw [HKD.out.1] at u0
      clear ho2 st2 hlc hb2 q2 s2 n1 n2 st3 hp2 tb2 f1 f2 f3 f4 hnr hnq q3 tf3 hp3 tb3 hpg hx HK2 u3 u4 u5 u6 u7 t0 t2 t3 t4 t5 t6 t7
      generalize usedC l=U at HUS HU'
      have HU2:¬ ((1012:Int)<(U:Int)):=by omega
      clear HU'
      generalize l.length=LL at *
      go_wp2_with fail
      refine HUS.out.mono ?_
      rintro e w9 ⟨rfl,hw⟩;rw [hw];clear hw
      go_wp2_with fail
      refine HW.out.mono ?_
      rintro e w4 ⟨rfl,V4,k1,k2⟩
      obtain ⟨j1,j2,j3,j4,j5⟩:=H3.out
      have hx:=HX.out
      have hp4:=j1.stayNDb k2 j3
      obtain ⟨a5,c5,n5,-⟩:=j1.stayNR k2 j5
      have HF:=hide (ctfree k1 (by omega) (j1.stayTB k2 j4) vn.num hx.2.2.2.2.2.2.2.1 hx.2.2.2.2.2.2.2.2.1 hx.2.2.2.2.2.2.2.2.2)
      have H4:=hide (show TS w4 B D Gp V4 K pk (m+1) (updA A vs.num ⟨1,vn.link,l⟩) fl pages∧TF b0 B w w4 V V4∧NDb w4 b0 b1 p0 v0 from ⟨k1,j2.trans (j1.tf k2 b0),hp4⟩)
      obtain ⟨t0,t1,t2,t3,t4,t5,t6,t7,t8⟩:=n5.cells
      clear k1 k2 j1 j2 j3 j4 j5 hx hp4 n5 t0 t1 t2 t4 t5 t6 t7 HW H3 HUS HU2
      go_wp2_with fail
      refine HF.out.mono ?_
      rintro e w5 ⟨rfl,V5,k1,k2⟩
      have hp5:=H4.out.1.stayNDb k2 H4.out.2.2
      have HR:=hide (cremoveN hp5 HX.out.2.2.2.1 t HX.out.2.2.2.2.1)
      have H5:=hide (show TS w5 B D Gp V5 K pk (m+1+2) (updA (updA (updA A vs.num ⟨1,vn.link,l⟩) vn.num ⟨3,fl.headD 0,[]⟩) 0 ⟨4,vn.num,[]⟩) (vn.num :: fl) pages∧TF b0 B w w5 V V5 from ⟨k1,H4.out.2.1.trans (H4.out.1.tf k2 b0)⟩)
      clear k1 k2 hp5 H4 HF
      go_wp2_with fail
      refine HR.out.mono ?_
      rintro e w6 ⟨rfl,i1,i2,i3⟩
      go_wp2
      go_end0
      exact ⟨rfl,V5,i2.ts H5.out.1,H5.out.2.trans (i2.tf H5.out.1),i1,i3⟩
/- the right one is loaded; inner nodes; one page is enough -/
set_option maxRecDepth 20000 in
set_option maxHeartbeats 4000000 in
theorem cjoinR2M (h:TS w B D Gp V K pk m A fl pages) (hm:m≤36000) (ht:TB w tb Gp root) {b0 b1 p0 pn:Nat} {v0 vn vs:NV} (l:List ByteArray)
    (hp:NDb w b0 b1 p0 v0) (htk:v0.taken=0) (hl0:0<v0.cells.length∧v0.cells.length≤1000) (hc0:kS (tx v0.cells 0)≤(tx v0.cells 0).size∧(tx v0.cells 0).size≤240) (hkz:(keyB (tx v0.cells 0)).size≤200)
    (hn:NRs w pn vn) (hbn:b1≤pn)
    (hch:∀ Y:World,TS Y B D Gp V K pk m A fl pages→TB Y tb Gp root→NDb Y b0 b1 p0 v0→Calls Tryz.prog 103 #[(.pointer (some ⟨tb,0,none⟩)),(.pointer (some ⟨p0,0,none⟩)),.int .i64 1] Y fun e w'=>∃ (V':PV) (q:Nat),e=.returned (.pointer (some ⟨q,0,none⟩))∧TS w' B D Gp V' K pk m A fl pages∧St2 Y w' B V V'∧ND w' Y.heap.size q vs∧Y.heap.size≤q)
    (hkn:vn.kind=2) (hks:vs.kind=2) (hn0:vn.cells.length≤400) (hs0:0<vs.cells.length∧vs.cells.length≤400)
    (hl:withL 2 vn.cells (keyB (tx v0.cells 0)) vs.link vs.cells=l) (hu:usedC l≤1012) (hok:okP ⟨2,vn.link,l⟩)
    (hn1:0<vn.num∧vn.num<pages∧¬ vn.num ∈ fl) (hn2:0<vs.num∧vs.num<pages∧¬ vs.num ∈ fl) :
    Calls Tryz.prog 157 #[(.pointer (some ⟨tb,0,none⟩)),(.pointer (some ⟨p0,0,none⟩)),(.pointer (some ⟨pn,0,none⟩))] w fun e w'=>e=.returned (.tuple #[])∧∃ V',TS w' B D Gp V' K pk (m+3) (updA (updA (updA A vn.num ⟨2,vn.link,l⟩) vs.num ⟨3,fl.headD 0,[]⟩) 0 ⟨4,vs.num,[]⟩) (vs.num :: fl) pages∧TF b0 B w w' V V'∧NDb w' b0 w'.heap.size p0 { v0 with cells:=v0.cells.eraseIdx 0 }∧NRs w' p0 { v0 with cells:=v0.cells.eraseIdx 0 }:=by
  have hb01:b0≤b1:=by obtain ⟨_,_,_,q1,q2,_⟩:=hp;omega
  have y6:=hp.cellsT
  have y8:p0<w.heap.size:=by obtain ⟨_,q,_⟩:=hp;exact q.cells.2.2.2.2.2.2.2.2
  rw [htk] at y6
  have HCH:=hide (hch)
  have H:=hide (show TS w B D Gp V K pk m A fl pages∧NDb w b0 b1 p0 v0∧NRs w pn vn∧TB w tb Gp root from ⟨h,hp,hn,ht⟩)
  have HX:=hide (show b0≤b1∧b1≤pn∧m≤36000∧v0.cells.length≤1000∧0<v0.cells.length∧okP ⟨2,vn.link,l⟩∧(0<vn.num∧vn.num<pages∧¬ vn.num ∈ fl)∧(0<vs.num∧vs.num<pages∧¬ vs.num ∈ fl) from ⟨hb01,hbn,hm,hl0.2,hl0.1,hok,hn1,hn2⟩)
  have HU:=hide (hu)
  have HKE:=hide (fun (Y:World) (hY:NR Y p0 v0)=>ckeyN hY 0 hl0.1 hc0.1 hc0.2)
  obtain ⟨kb,hkb⟩:∃ kb,keyB (tx v0.cells 0)=kb:=⟨_,rfl⟩
  rw [hkb] at HKE hl hkz
  have HWI:=hide (fun (Y:World) (q:Nat) (h1:NRs Y pn vn) (h2:NRs Y q vs)=>cwithN h1 h2 (.inr hkn) (by omega) (by omega) kb hkz)
  have HS0:=hide (hs0.1)
  rw [hkn,hl] at HWI
  have hll:l.length≤vn.cells.length+vs.cells.length+1∧0<l.length:=by rw [← hl];simp [withL];omega
  have HLL:=hide (show l.length≤1000∧0<l.length from ⟨by omega,by omega⟩)
  have HKD:=hide (show vn.kind=2∧vs.kind=2 from ⟨hkn,hks⟩)
  clear h hp hn ht hch hkb hl hkz hc0 hl0 hbn hb01 hm hok hn1 hn2 hu hn0 hs0 hll hkn hks htk
  go_enter Tryz.func157,Tryz.ntmps157
  go_wp2_with fail
  go_region
  all_goals
    go_wp2_with fail
    have hd:Below w.heap.size w w.drew:=drawnB w 1
    obtain ⟨h1,h2⟩:=H.out.1.below hd
    have hnb:NDb w.drew b0 b1 p0 v0:=H.out.2.1.below hd
    refine (HCH.out _ h1 (H.out.1.stayTB h2 H.out.2.2.2) hnb).mono ?_
    rintro e w1 ⟨V1,q,rfl,k1,k2,k3,k4⟩
    have k2:=h2.trans k2
    have hn1:=H.out.1.stayNRs k2 H.out.2.2.1
    have hp1:=H.out.1.stayNDb k2 H.out.2.1
    have hq1:=k3.nr.s HS0.out
    have hne:¬ pn=q:=by obtain ⟨_,_,n1,_⟩:=H.out.2.2.1;have:=n1.cells.2.2.2.2.2.2.2.2;have:w.heap.size≤q:=k4;omega
    have hne':¬ q=pn:=fun e=>hne e.symm
    have hbq:b1≤q:=by obtain ⟨_,_,n1,_⟩:=H.out.2.2.1;have:=n1.cells.2.2.2.2.2.2.2.2;have:w.heap.size≤q:=k4;have:=HX.out.2.1;omega
    have HBQ:=hide (show b1≤pn∧b1≤q from ⟨HX.out.2.1,hbq⟩)
    have tb1:=H.out.1.stayTB k2 H.out.2.2.2
    have HK:=hide (show TS w1 B D Gp V1 K pk m A fl pages∧St2 w w1 B V V1∧NRs w1 pn vn∧NDb w1 b0 b1 p0 v0∧NRs w1 q vs∧TB w1 tb Gp root from ⟨k1,k2,hn1,hp1,hq1,tb1⟩)
    obtain ⟨a1,c1,n1,-⟩:=HK.out.2.2.1
    obtain ⟨a2,c2,n2,-⟩:=HK.out.2.2.2.2.1
    obtain ⟨u0,u1,u2,u3,u4,u5,u6,u7,u8⟩:=n1.cells
    obtain ⟨t0,t1,t2,t3,t4,t5,t6,t7,t8⟩:=n2.cells
    rw [HKD.out.1] at u0
    rw [HKD.out.2] at t0
    clear hd h1 h2 hnb k1 k2 k3 k4 hn1 hq1 hp1 hbq tb1 n1 n2 HCH u1 u2 u3 u4 u5 u6 u7 t1 t2 t3 t4 t5 t6 t7 y6 y8
    go_wp2_with fail
    go_region
    all_goals
      have hd:Below w1.heap.size w1 w1.drew:=drawnB w1 1
      have HK2:=hide (show NRs w1.drew pn vn∧NDb w1.drew b0 b1 p0 v0∧NRs w1.drew q vs from ⟨HK.out.1.stayNRs (HK.out.1.below hd).2 HK.out.2.2.1,HK.out.2.2.2.1.below hd,HK.out.1.stayNRs (HK.out.1.below hd).2 HK.out.2.2.2.2.1⟩)
      clear hd
      go_wp2_with fail
      refine (HKE.out _ HK2.out.2.1.nr).mono ?_
      rintro e w8 ⟨rfl,hw⟩;rw [hw];clear hw
      go_wp2_with fail
      refine (HWI.out _ _ HK2.out.1 HK2.out.2.2).mono ?_
      rintro e w2 ⟨v2,rfl,ho2,hb2⟩
      obtain ⟨a,c,rfl,st2,hlc,-⟩:=StB.own ho2
      have hb2:Below w1.heap.size w1 w2:=(drawnB w1 1).trans hb2
      obtain ⟨q2,s2⟩:=HK.out.1.below hb2
      obtain ⟨a1',c1',n1,-⟩:=HK.out.1.stayNRs s2 HK.out.2.2.1
      obtain ⟨a2',c2',n2,st3,-⟩:=HK.out.1.stayNRs s2 HK.out.2.2.2.2.1
      have hp2:NDb w2 b0 b1 p0 v0:=HK.out.2.2.2.1.below hb2
      have tb2:=HK.out.1.stayTB s2 HK.out.2.2.2.2.2
      have hx:=HX.out
      have HUS:=hide (cusedB st2 c (by have:=HU.out;omega))
      have HU':=HU.out
      obtain ⟨f1,f2,f3,f4⟩:=one_set (s:=.slice a l.length c) (l:=l) (k:=vs.link) n1 HBQ.out.1
      have hnr:NR (w2.setCell ⟨pn,2,none⟩ (.slice a l.length c)) pn { vn with cells:=l }:=⟨a,c,f1,st2.setN n1⟩
      have hnq:NR (w2.setCell ⟨pn,2,none⟩ (.slice a l.length c)) q vs:=⟨a2',c2',n2.setN hne',st3.setN n1⟩
      have q3:=f2.ts q2
      have tf3:TF b0 B w _ V V1:=((H.out.1.tf HK.out.2.1 b0).trans (HK.out.1.tf s2 b0)).trans ((f2.mono HX.out.1).tf q2)
      have hp3:=(f2.pm (show PM w2 [⟨b0,p0,v0⟩] b1 from ⟨hp2,trivial⟩)).1
      have tb3:=f2.stayTB tb2
      have hpg:pgN { vn with cells:=l }=⟨2,vn.link,l⟩:=by unfold pgN;rw [show ({ vn with cells:=l }:NV).kind=vn.kind from rfl,HKD.out.1]
      have HW:=hide (ctwrite q3 (by omega) tb3 hnr (by rw [hpg];exact hx.2.2.2.2.2.1) hx.2.2.2.2.2.2.1.1 hx.2.2.2.2.2.2.1.2.1 hx.2.2.2.2.2.2.1.2.2)
      rw [hpg] at HW
      have H3:=hide (show _∧_∧_∧_∧_ from ⟨q3,tf3,hp3,tb3,hnq⟩)
      obtain ⟨u0,u1,u2,u3,u4,u5,u6,u7,u8⟩:=n1.cells
      obtain ⟨t0,t1,t2,t3,t4,t5,t6,t7,t8⟩:=n2.cells
      have fz1:=u7 1
      have fz2:=u7 2
      rw [HKD.out.1] at u0
      clear ho2 st2 hlc hb2 q2 s2 n1 n2 st3 hp2 tb2 f1 f2 f3 f4 hnr hnq q3 tf3 hp3 tb3 hpg hx HK2 u3 u4 u5 u6 u7 t0 t2 t3 t4 t5 t6 t7
      generalize usedC l=U at HUS HU'
      have HU2:¬ ((1012:Int)<(U:Int)):=by omega
      clear HU'
      generalize l.length=LL at *
      go_wp2_with fail
      refine HUS.out.mono ?_
      rintro e w9 ⟨rfl,hw⟩;rw [hw];clear hw
      go_wp2_with fail
      refine HW.out.mono ?_
      rintro e w4 ⟨rfl,V4,k1,k2⟩
      obtain ⟨j1,j2,j3,j4,j5⟩:=H3.out
      have hx:=HX.out
      have hp4:=j1.stayNDb k2 j3
      obtain ⟨a5,c5,n5,-⟩:=j1.stayNR k2 j5
      have HF:=hide (ctfree k1 (by omega) (j1.stayTB k2 j4) vs.num hx.2.2.2.2.2.2.2.1 hx.2.2.2.2.2.2.2.2.1 hx.2.2.2.2.2.2.2.2.2)
      have H4:=hide (show TS w4 B D Gp V4 K pk (m+1) (updA A vn.num ⟨2,vn.link,l⟩) fl pages∧TF b0 B w w4 V V4∧NDb w4 b0 b1 p0 v0 from ⟨k1,j2.trans (j1.tf k2 b0),hp4⟩)
      obtain ⟨t0,t1,t2,t3,t4,t5,t6,t7,t8⟩:=n5.cells
      clear k1 k2 j1 j2 j3 j4 j5 hx hp4 n5 t0 t1 t2 t4 t5 t6 t7 HW H3 HUS HU2
      go_wp2_with fail
      refine HF.out.mono ?_
      rintro e w5 ⟨rfl,V5,k1,k2⟩
      have hp5:=H4.out.1.stayNDb k2 H4.out.2.2
      have HR:=hide (cremoveN hp5 HX.out.2.2.2.1 0 HX.out.2.2.2.2.1)
      have H5:=hide (show TS w5 B D Gp V5 K pk (m+1+2) (updA (updA (updA A vn.num ⟨2,vn.link,l⟩) vs.num ⟨3,fl.headD 0,[]⟩) 0 ⟨4,vs.num,[]⟩) (vs.num :: fl) pages∧TF b0 B w w5 V V5 from ⟨k1,H4.out.2.1.trans (H4.out.1.tf k2 b0)⟩)
      clear k1 k2 hp5 H4 HF
      go_wp2_with fail
      refine HR.out.mono ?_
      rintro e w6 ⟨rfl,i1,i2,i3⟩
      go_wp2
      go_end0
      exact ⟨rfl,V5,i2.ts H5.out.1,H5.out.2.trans (i2.tf H5.out.1),i1,i3⟩
/- the left one is loaded; inner nodes; one page is enough -/
set_option maxRecDepth 20000 in
set_option maxHeartbeats 4000000 in
theorem cjoinL2M (h:TS w B D Gp V K pk m A fl pages) (hm:m≤36000) (ht:TB w tb Gp root) {b0 b1 p0 pn:Nat} {v0 vn vs:NV} (l:List ByteArray) (t:Nat)
    (hp:NDb w b0 b1 p0 v0) (htk:v0.taken=(t+1)) (hl0:t<v0.cells.length∧v0.cells.length≤1000) (hc0:kS (tx v0.cells t)≤(tx v0.cells t).size∧(tx v0.cells t).size≤240) (hkz:(keyB (tx v0.cells t)).size≤200)
    (hn:NRs w pn vn) (hbn:b1≤pn)
    (hch:∀ Y:World,TS Y B D Gp V K pk m A fl pages→TB Y tb Gp root→NDb Y b0 b1 p0 v0→Calls Tryz.prog 103 #[(.pointer (some ⟨tb,0,none⟩)),(.pointer (some ⟨p0,0,none⟩)),.int .i64 (t:Int)] Y fun e w'=>∃ (V':PV) (q:Nat),e=.returned (.pointer (some ⟨q,0,none⟩))∧TS w' B D Gp V' K pk m A fl pages∧St2 Y w' B V V'∧ND w' Y.heap.size q vs∧Y.heap.size≤q)
    (hkn:vn.kind=2) (hks:vs.kind=2) (hn0:vn.cells.length≤400) (hs0:0<vs.cells.length∧vs.cells.length≤400)
    (hl:withL 2 vs.cells (keyB (tx v0.cells t)) vn.link vn.cells=l) (hu:usedC l≤1012) (hok:okP ⟨2,vs.link,l⟩)
    (hn1:0<vs.num∧vs.num<pages∧¬ vs.num ∈ fl) (hn2:0<vn.num∧vn.num<pages∧¬ vn.num ∈ fl) :
    Calls Tryz.prog 157 #[(.pointer (some ⟨tb,0,none⟩)),(.pointer (some ⟨p0,0,none⟩)),(.pointer (some ⟨pn,0,none⟩))] w fun e w'=>e=.returned (.tuple #[])∧∃ V',TS w' B D Gp V' K pk (m+3) (updA (updA (updA A vs.num ⟨2,vs.link,l⟩) vn.num ⟨3,fl.headD 0,[]⟩) 0 ⟨4,vn.num,[]⟩) (vn.num :: fl) pages∧TF b0 B w w' V V'∧NDb w' b0 w'.heap.size p0 { v0 with cells:=v0.cells.eraseIdx t }∧NRs w' p0 { v0 with cells:=v0.cells.eraseIdx t }:=by
  have hb01:b0≤b1:=by obtain ⟨_,_,_,q1,q2,_⟩:=hp;omega
  have y6:=hp.cellsT
  have y8:p0<w.heap.size:=by obtain ⟨_,q,_⟩:=hp;exact q.cells.2.2.2.2.2.2.2.2
  obtain ⟨tk,hvt⟩:∃ tk,v0.taken=tk:=⟨_,rfl⟩
  rw [hvt] at y6 htk
  have HCH:=hide (hch)
  have H:=hide (show TS w B D Gp V K pk m A fl pages∧NDb w b0 b1 p0 v0∧NRs w pn vn∧TB w tb Gp root from ⟨h,hp,hn,ht⟩)
  have HX:=hide (show b0≤b1∧b1≤pn∧m≤36000∧v0.cells.length≤1000∧t<v0.cells.length∧okP ⟨2,vs.link,l⟩∧(0<vs.num∧vs.num<pages∧¬ vs.num ∈ fl)∧(0<vn.num∧vn.num<pages∧¬ vn.num ∈ fl) from ⟨hb01,hbn,hm,hl0.2,hl0.1,hok,hn1,hn2⟩)
  have HU:=hide (hu)
  have HKE:=hide (fun (Y:World) (hY:NR Y p0 v0)=>ckeyN hY t hl0.1 hc0.1 hc0.2)
  obtain ⟨kb,hkb⟩:∃ kb,keyB (tx v0.cells t)=kb:=⟨_,rfl⟩
  rw [hkb] at HKE hl hkz
  have HWI:=hide (fun (Y:World) (q:Nat) (h1:NRs Y q vs) (h2:NRs Y pn vn)=>cwithN h1 h2 (.inr hks) (by omega) (by omega) kb hkz)
  have HS0:=hide (hs0.1)
  rw [hks,hl] at HWI
  have hll:l.length≤vs.cells.length+vn.cells.length+1∧0<l.length:=by rw [← hl];simp [withL];omega
  have HLL:=hide (show l.length≤1000∧0<l.length from ⟨by omega,by omega⟩)
  have HKD:=hide (show vs.kind=2∧vn.kind=2 from ⟨hks,hkn⟩)
  have ht1:wrap64 ((tk:Int) - 1)=(t:Int):=by unfold wrap64;omega
  have ht2:(0:Int)<(tk:Int):=by omega
  clear h hp hn ht hch hkb hl hkz hc0 hl0 hbn hb01 hm hok hn1 hn2 hu hn0 hs0 hll hkn hks htk hvt
  go_enter Tryz.func157,Tryz.ntmps157
  go_wp2_with fail
  go_region
  all_goals
    go_wp2_with fail
    have hd:Below w.heap.size w w.drew:=drawnB w 1
    obtain ⟨h1,h2⟩:=H.out.1.below hd
    have hnb:NDb w.drew b0 b1 p0 v0:=H.out.2.1.below hd
    refine (HCH.out _ h1 (H.out.1.stayTB h2 H.out.2.2.2) hnb).mono ?_
    rintro e w1 ⟨V1,q,rfl,k1,k2,k3,k4⟩
    have k2:=h2.trans k2
    have hn1:=H.out.1.stayNRs k2 H.out.2.2.1
    have hp1:=H.out.1.stayNDb k2 H.out.2.1
    have hq1:=k3.nr.s HS0.out
    have hne:¬ pn=q:=by obtain ⟨_,_,n1,_⟩:=H.out.2.2.1;have:=n1.cells.2.2.2.2.2.2.2.2;have:w.heap.size≤q:=k4;omega
    have hne':¬ q=pn:=fun e=>hne e.symm
    have hbq:b1≤q:=by obtain ⟨_,_,n1,_⟩:=H.out.2.2.1;have:=n1.cells.2.2.2.2.2.2.2.2;have:w.heap.size≤q:=k4;have:=HX.out.2.1;omega
    have HBQ:=hide (show b1≤q∧b1≤pn from ⟨hbq,HX.out.2.1⟩)
    have tb1:=H.out.1.stayTB k2 H.out.2.2.2
    have HK:=hide (show TS w1 B D Gp V1 K pk m A fl pages∧St2 w w1 B V V1∧NRs w1 q vs∧NDb w1 b0 b1 p0 v0∧NRs w1 pn vn∧TB w1 tb Gp root from ⟨k1,k2,hq1,hp1,hn1,tb1⟩)
    obtain ⟨a1,c1,n1,-⟩:=HK.out.2.2.1
    obtain ⟨a2,c2,n2,-⟩:=HK.out.2.2.2.2.1
    obtain ⟨u0,u1,u2,u3,u4,u5,u6,u7,u8⟩:=n1.cells
    obtain ⟨t0,t1,t2,t3,t4,t5,t6,t7,t8⟩:=n2.cells
    rw [HKD.out.1] at u0
    rw [HKD.out.2] at t0
    clear hd h1 h2 hnb k1 k2 k3 k4 hn1 hq1 hp1 hbq tb1 n1 n2 HCH u1 u2 u3 u4 u5 u6 u7 t1 t2 t3 t4 t5 t6 t7 y6 y8
    go_wp2_with fail
    go_region
    all_goals
      have hd:Below w1.heap.size w1 w1.drew:=drawnB w1 1
      have HK2:=hide (show NRs w1.drew q vs∧NDb w1.drew b0 b1 p0 v0∧NRs w1.drew pn vn from ⟨HK.out.1.stayNRs (HK.out.1.below hd).2 HK.out.2.2.1,HK.out.2.2.2.1.below hd,HK.out.1.stayNRs (HK.out.1.below hd).2 HK.out.2.2.2.2.1⟩)
      clear hd
      go_wp2_with fail
      refine (HKE.out _ HK2.out.2.1.nr).mono ?_
      rintro e w8 ⟨rfl,hw⟩;rw [hw];clear hw
      go_wp2_with fail
      refine (HWI.out _ _ HK2.out.1 HK2.out.2.2).mono ?_
      rintro e w2 ⟨v2,rfl,ho2,hb2⟩
      obtain ⟨a,c,rfl,st2,hlc,-⟩:=StB.own ho2
      have hb2:Below w1.heap.size w1 w2:=(drawnB w1 1).trans hb2
      obtain ⟨q2,s2⟩:=HK.out.1.below hb2
      obtain ⟨a1',c1',n1,-⟩:=HK.out.1.stayNRs s2 HK.out.2.2.1
      obtain ⟨a2',c2',n2,st3,-⟩:=HK.out.1.stayNRs s2 HK.out.2.2.2.2.1
      have hp2:NDb w2 b0 b1 p0 v0:=HK.out.2.2.2.1.below hb2
      have tb2:=HK.out.1.stayTB s2 HK.out.2.2.2.2.2
      have hx:=HX.out
      have HUS:=hide (cusedB st2 c (by have:=HU.out;omega))
      have HU':=HU.out
      obtain ⟨f1,f2,f3,f4⟩:=one_set (s:=.slice a l.length c) (l:=l) (k:=vn.link) n1 HBQ.out.1
      have hnr:NR (w2.setCell ⟨q,2,none⟩ (.slice a l.length c)) q { vs with cells:=l }:=⟨a,c,f1,st2.setN n1⟩
      have hnq:NR (w2.setCell ⟨q,2,none⟩ (.slice a l.length c)) pn vn:=⟨a2',c2',n2.setN hne,st3.setN n1⟩
      have q3:=f2.ts q2
      have tf3:TF b0 B w _ V V1:=((H.out.1.tf HK.out.2.1 b0).trans (HK.out.1.tf s2 b0)).trans ((f2.mono HX.out.1).tf q2)
      have hp3:=(f2.pm (show PM w2 [⟨b0,p0,v0⟩] b1 from ⟨hp2,trivial⟩)).1
      have tb3:=f2.stayTB tb2
      have hpg:pgN { vs with cells:=l }=⟨2,vs.link,l⟩:=by unfold pgN;rw [show ({ vs with cells:=l }:NV).kind=vs.kind from rfl,HKD.out.1]
      have HW:=hide (ctwrite q3 (by omega) tb3 hnr (by rw [hpg];exact hx.2.2.2.2.2.1) hx.2.2.2.2.2.2.1.1 hx.2.2.2.2.2.2.1.2.1 hx.2.2.2.2.2.2.1.2.2)
      rw [hpg] at HW
      have H3:=hide (show _∧_∧_∧_∧_ from ⟨q3,tf3,hp3,tb3,hnq⟩)
      obtain ⟨u0,u1,u2,u3,u4,u5,u6,u7,u8⟩:=n1.cells
      obtain ⟨t0,t1,t2,t3,t4,t5,t6,t7,t8⟩:=n2.cells
      have fz1:=u7 1
      have fz2:=u7 2
      rw [HKD.out.1] at u0
      clear ho2 st2 hlc hb2 q2 s2 n1 n2 st3 hp2 tb2 f1 f2 f3 f4 hnr hnq q3 tf3 hp3 tb3 hpg hx HK2 u3 u4 u5 u6 u7 t0 t2 t3 t4 t5 t6 t7
      generalize usedC l=U at HUS HU'
      have HU2:¬ ((1012:Int)<(U:Int)):=by omega
      clear HU'
      generalize l.length=LL at *
      go_wp2_with fail
      refine HUS.out.mono ?_
      rintro e w9 ⟨rfl,hw⟩;rw [hw];clear hw
      go_wp2_with fail
      refine HW.out.mono ?_
      rintro e w4 ⟨rfl,V4,k1,k2⟩
      obtain ⟨j1,j2,j3,j4,j5⟩:=H3.out
      have hx:=HX.out
      have hp4:=j1.stayNDb k2 j3
      obtain ⟨a5,c5,n5,-⟩:=j1.stayNR k2 j5
      have HF:=hide (ctfree k1 (by omega) (j1.stayTB k2 j4) vn.num hx.2.2.2.2.2.2.2.1 hx.2.2.2.2.2.2.2.2.1 hx.2.2.2.2.2.2.2.2.2)
      have H4:=hide (show TS w4 B D Gp V4 K pk (m+1) (updA A vs.num ⟨2,vs.link,l⟩) fl pages∧TF b0 B w w4 V V4∧NDb w4 b0 b1 p0 v0 from ⟨k1,j2.trans (j1.tf k2 b0),hp4⟩)
      obtain ⟨t0,t1,t2,t3,t4,t5,t6,t7,t8⟩:=n5.cells
      clear k1 k2 j1 j2 j3 j4 j5 hx hp4 n5 t0 t1 t2 t4 t5 t6 t7 HW H3 HUS HU2
      go_wp2_with fail
      refine HF.out.mono ?_
      rintro e w5 ⟨rfl,V5,k1,k2⟩
      have hp5:=H4.out.1.stayNDb k2 H4.out.2.2
      have HR:=hide (cremoveN hp5 HX.out.2.2.2.1 t HX.out.2.2.2.2.1)
      have H5:=hide (show TS w5 B D Gp V5 K pk (m+1+2) (updA (updA (updA A vs.num ⟨2,vs.link,l⟩) vn.num ⟨3,fl.headD 0,[]⟩) 0 ⟨4,vn.num,[]⟩) (vn.num :: fl) pages∧TF b0 B w w5 V V5 from ⟨k1,H4.out.2.1.trans (H4.out.1.tf k2 b0)⟩)
      clear k1 k2 hp5 H4 HF
      go_wp2_with fail
      refine HR.out.mono ?_
      rintro e w6 ⟨rfl,i1,i2,i3⟩
      go_wp2
      go_end0
      exact ⟨rfl,V5,i2.ts H5.out.1,H5.out.2.trans (i2.tf H5.out.1),i1,i3⟩
/- the right one is loaded; leaves; both share -/
set_option maxRecDepth 20000 in
set_option maxHeartbeats 4000000 in
theorem cjoinR1S (h:TS w B D Gp V K pk m A fl pages) (hm:m≤36000) (ht:TB w tb Gp root) {b0 b1 p0 pn:Nat} {v0 vn vs:NV} (l:List ByteArray)
    (hp:NDb w b0 b1 p0 v0) (htk:v0.taken=0) (hl0:0<v0.cells.length∧v0.cells.length≤1000) (hc0:kS (tx v0.cells 0)≤(tx v0.cells 0).size∧(tx v0.cells 0).size≤240) (hkz:(keyB (tx v0.cells 0)).size≤200)
    (hn:NRs w pn vn) (hbn:b1≤pn)
    (hch:∀ Y:World,TS Y B D Gp V K pk m A fl pages→TB Y tb Gp root→NDb Y b0 b1 p0 v0→Calls Tryz.prog 103 #[(.pointer (some ⟨tb,0,none⟩)),(.pointer (some ⟨p0,0,none⟩)),.int .i64 1] Y fun e w'=>∃ (V':PV) (q:Nat),e=.returned (.pointer (some ⟨q,0,none⟩))∧TS w' B D Gp V' K pk m A fl pages∧St2 Y w' B V V'∧ND w' Y.heap.size q vs∧Y.heap.size≤q)
    (hkn:vn.kind=1) (hks:vs.kind=1) (hn0:vn.cells.length≤400) (hs0:0<vs.cells.length∧vs.cells.length≤400)
    (hl:withL 1 vn.cells (keyB (tx v0.cells 0)) vs.link vs.cells=l) (hu:1012<usedC l) (hu2:usedC l≤100000) (hok:okP (shrL 1 vn.link l)∧okP (shrR 1 vs.link l)∧ShrOk 1 l) (hkm:(keyB (tx l (midC l))).size≤200)
    (hn1:0<vn.num∧vn.num<pages∧¬ vn.num ∈ fl) (hn2:0<vs.num∧vs.num<pages∧¬ vs.num ∈ fl) :
    Calls Tryz.prog 157 #[(.pointer (some ⟨tb,0,none⟩)),(.pointer (some ⟨p0,0,none⟩)),(.pointer (some ⟨pn,0,none⟩))] w fun e w'=>e=.returned (.tuple #[])∧∃ V',TS w' B D Gp V' K pk (m+2) (updA (updA A vn.num (shrL 1 vn.link l)) vs.num (shrR 1 vs.link l)) fl pages∧TF b0 B w w' V V'∧NDb w' b0 w'.heap.size p0 { v0 with cells:=v0.cells.set 0 (childB (keyB (tx l (midC l))) vs.num) }:=by
  have hb01:b0≤b1:=by obtain ⟨_,_,_,q1,q2,_⟩:=hp;omega
  have y6:=hp.cellsT
  have y8:p0<w.heap.size:=by obtain ⟨_,q,_⟩:=hp;exact q.cells.2.2.2.2.2.2.2.2
  rw [htk] at y6
  have HCH:=hide (hch)
  have H:=hide (show TS w B D Gp V K pk m A fl pages∧NDb w b0 b1 p0 v0∧NRs w pn vn∧TB w tb Gp root from ⟨h,hp,hn,ht⟩)
  have HX:=hide (show b0≤b1∧b1≤pn∧m≤36000∧v0.cells.length≤1000∧0<v0.cells.length∧(okP (shrL 1 vn.link l)∧okP (shrR 1 vs.link l)∧ShrOk 1 l)∧(0<vn.num∧vn.num<pages∧¬ vn.num ∈ fl)∧(0<vs.num∧vs.num<pages∧¬ vs.num ∈ fl) from ⟨hb01,hbn,hm,hl0.2,hl0.1,hok,hn1,hn2⟩)
  have HU:=hide ((⟨hu,hu2⟩:_∧_))
  have HKE:=hide (fun (Y:World) (hY:NR Y p0 v0)=>ckeyN hY 0 hl0.1 hc0.1 hc0.2)
  obtain ⟨kb,hkb⟩:∃ kb,keyB (tx v0.cells 0)=kb:=⟨_,rfl⟩
  rw [hkb] at HKE hl hkz
  have HWI:=hide (fun (Y:World) (q:Nat) (h1:NRs Y pn vn) (h2:NRs Y q vs)=>cwithN h1 h2 (.inl hkn) (by omega) (by omega) kb hkz)
  have HS0:=hide (hs0.1)
  rw [hkn,hl] at HWI
  have hll:l.length≤vn.cells.length+vs.cells.length+1∧0<l.length:=by rw [← hl];simp [withL];omega
  have HLL:=hide (show l.length≤1000∧0<l.length from ⟨by omega,by omega⟩)
  have HKD:=hide (show vn.kind=1∧vs.kind=1 from ⟨hkn,hks⟩)
  have HCC:=hide (fun (n:Nat) (Y:World)=>cchild (keyB (tx l (midC l))) n Y hkm)
  obtain ⟨km,hkm'⟩:∃ km,keyB (tx l (midC l))=km:=⟨_,rfl⟩
  obtain ⟨P1,hP1⟩:∃ P1,shrL 1 vn.link l=P1:=⟨_,rfl⟩
  obtain ⟨P2,hP2⟩:∃ P2,shrR 1 vs.link l=P2:=⟨_,rfl⟩
  have HPP:=hide (show keyB (tx l (midC l))=km∧shrL 1 vn.link l=P1∧shrR 1 vs.link l=P2 from ⟨hkm',hP1,hP2⟩)
  rw [hkm'] at HCC
  rw [hkm',hP1,hP2]
  clear hkm' hP1 hP2
  clear h hp hn ht hch hkb hl hkz hc0 hl0 hbn hb01 hm hok hn1 hn2 hu hn0 hs0 hll hkn hks htk hu2 hkm
  go_enter Tryz.func157,Tryz.ntmps157
  go_wp2_with fail
  go_region
  all_goals
    go_wp2_with fail
    have hd:Below w.heap.size w w.drew:=drawnB w 1
    obtain ⟨h1,h2⟩:=H.out.1.below hd
    have hnb:NDb w.drew b0 b1 p0 v0:=H.out.2.1.below hd
    refine (HCH.out _ h1 (H.out.1.stayTB h2 H.out.2.2.2) hnb).mono ?_
    rintro e w1 ⟨V1,q,rfl,k1,k2,k3,k4⟩
    have k2:=h2.trans k2
    have hn1:=H.out.1.stayNRs k2 H.out.2.2.1
    have hp1:=H.out.1.stayNDb k2 H.out.2.1
    have hq1:=k3.nr.s HS0.out
    have hne:¬ pn=q:=by obtain ⟨_,_,n1,_⟩:=H.out.2.2.1;have:=n1.cells.2.2.2.2.2.2.2.2;have:w.heap.size≤q:=k4;omega
    have hne':¬ q=pn:=fun e=>hne e.symm
    have hbq:b1≤q:=by obtain ⟨_,_,n1,_⟩:=H.out.2.2.1;have:=n1.cells.2.2.2.2.2.2.2.2;have:w.heap.size≤q:=k4;have:=HX.out.2.1;omega
    have HBQ:=hide (show b1≤pn∧b1≤q from ⟨HX.out.2.1,hbq⟩)
    have tb1:=H.out.1.stayTB k2 H.out.2.2.2
    have HK:=hide (show TS w1 B D Gp V1 K pk m A fl pages∧St2 w w1 B V V1∧NRs w1 pn vn∧NDb w1 b0 b1 p0 v0∧NRs w1 q vs∧TB w1 tb Gp root from ⟨k1,k2,hn1,hp1,hq1,tb1⟩)
    obtain ⟨a1,c1,n1,-⟩:=HK.out.2.2.1
    obtain ⟨a2,c2,n2,-⟩:=HK.out.2.2.2.2.1
    obtain ⟨u0,u1,u2,u3,u4,u5,u6,u7,u8⟩:=n1.cells
    obtain ⟨t0,t1,t2,t3,t4,t5,t6,t7,t8⟩:=n2.cells
    rw [HKD.out.1] at u0
    rw [HKD.out.2] at t0
    clear hd h1 h2 hnb k1 k2 k3 k4 hn1 hq1 hp1 hbq tb1 n1 n2 HCH u1 u2 u3 u4 u5 u6 u7 t1 t2 t3 t4 t5 t6 t7 y6 y8
    go_wp2_with fail
    go_region
    all_goals
      have hd:Below w1.heap.size w1 w1.drew:=drawnB w1 1
      have HK2:=hide (show NRs w1.drew pn vn∧NDb w1.drew b0 b1 p0 v0∧NRs w1.drew q vs from ⟨HK.out.1.stayNRs (HK.out.1.below hd).2 HK.out.2.2.1,HK.out.2.2.2.1.below hd,HK.out.1.stayNRs (HK.out.1.below hd).2 HK.out.2.2.2.2.1⟩)
      clear hd
      go_wp2_with fail
      refine (HKE.out _ HK2.out.2.1.nr).mono ?_
      rintro e w8 ⟨rfl,hw⟩;rw [hw];clear hw
      go_wp2_with fail
      refine (HWI.out _ _ HK2.out.1 HK2.out.2.2).mono ?_
      rintro e w2 ⟨v2,rfl,ho2,hb2⟩
      obtain ⟨a,c,rfl,st2,hlc,-⟩:=StB.own ho2
      have hb2:Below w1.heap.size w1 w2:=(drawnB w1 1).trans hb2
      obtain ⟨q2,s2⟩:=HK.out.1.below hb2
      obtain ⟨a1',c1',n1,-⟩:=HK.out.1.stayNRs s2 HK.out.2.2.1
      obtain ⟨a2',c2',n2,st3,-⟩:=HK.out.1.stayNRs s2 HK.out.2.2.2.2.1
      have hp2:NDb w2 b0 b1 p0 v0:=HK.out.2.2.2.1.below hb2
      have tb2:=HK.out.1.stayTB s2 HK.out.2.2.2.2.2
      have hx:=HX.out
      have HUS:=hide (cusedB st2 c (by have:=HU.out;omega))
      have HU':=HU.out
      obtain ⟨g,off,hga⟩:∃ g off:Nat,a=some ⟨g,off,none⟩:=by
        rcases st2 with e | ⟨b',o',_,e,_⟩
        · have:=HLL.out.2;rw [e] at this;simp at this
        · exact ⟨b',o',e⟩
      subst hga
      have HSH:=hide (cshare q2 (by omega) tb2 (b:=b1) n1 n2 HBQ.out.1 HBQ.out.2 hne st2 hlc 1 (.inl rfl) HKD.out.1 HKD.out.2 hx.2.2.2.2.2.1.2.2 ⟨_,_,_,rfl⟩ ⟨_,_,_,rfl⟩ hx.2.2.2.2.2.1.1 hx.2.2.2.2.2.1.2.1 hx.2.2.2.2.2.2.1 hx.2.2.2.2.2.2.2)
      have H3:=hide (show TF b0 B w w2 V V1∧NDb w2 b0 b1 p0 v0 from ⟨(H.out.1.tf HK.out.2.1 b0).trans (HK.out.1.tf s2 b0),hp2⟩)
      rw [HPP.out.1,HPP.out.2.1,HPP.out.2.2] at HSH
      clear ho2 st2 hlc hb2 q2 s2 n1 n2 st3 hp2 tb2 hx HK2
      generalize usedC l=U at HUS HU'
      have HU2:(1012:Int)<(U:Int):=by omega
      clear HU'
      generalize l.length=LL at *
      go_wp2_with fail
      refine HUS.out.mono ?_
      rintro e w9 ⟨rfl,hw⟩;rw [hw];clear hw
      go_wp2_with fail
      refine HSH.out.mono ?_
      rintro e w3 ⟨rfl,V3,j1,j2,j3⟩
      have nd3:NDb w3 b0 b1 p0 v0:=(j2.pm [⟨b0,p0,v0⟩] b1 (Nat.le_refl _) (show PM _ [⟨b0,p0,v0⟩] b1 from ⟨H3.out.2,trivial⟩)).1
      obtain ⟨a5,c5,n5,-⟩:=j3
      obtain ⟨t0,t1,t2,t3,t4,t5,t6,t7,t8⟩:=n5.cells
      obtain ⟨sp,o1,o2,o3,o4,o5⟩:=nd3
      rcases o2.2 with ⟨_,e'⟩ | ⟨pg,pcap,pcur,rfl,_,hph,hpl,hpc,hps,hpt⟩
      · have:=HX.out.2.2.2.2.1;omega
      obtain ⟨y0,y1,y2,y3,y4,y5,y6,y7,y8⟩:=o1.cells
      have hpg:pg<w3.heap.size:=(Array.getElem?_eq_some_iff.1 hph).1
      have H4:=hide (show NB w3.drew p0 v0 (.slice (some ⟨pg,0,none⟩) v0.cells.length pcap)∧w3.drew.ownsRow b0 9 1 (.slice (some ⟨pg,0,none⟩) v0.cells.length pcap) v0.cells.length (valsS v0.cells)∧b0≤p0 from ⟨o1,o2,o3⟩)
      have H5:=hide (show TS w3 B D Gp V3 K pk (m+2) (updA (updA A vn.num P1) vs.num P2) fl pages∧TF b0 B w w3 V V3 from ⟨j1,H3.out.1.trans (j2.mono HX.out.1)⟩)
      have hat:(0:Int)<(v0.cells.length:Int):=by have:=HX.out.2.2.2.2.1;omega
      have HVL:=hide (show v0.cells.length=v0.cells.length from rfl)
      clear j1 j2 o1 o2 o3 o4 o5 n5 t0 t1 t2 t4 t5 t6 t7 y0 y1 y3 y4 y5 y6 y7 hph hps hpt HSH HUS HU2 H3
      go_wp2_with fail
      go_region_with (go_at_call 185;refine (HCC.out _ _).mono ?_;rintro e w4 ⟨rfl,hb4⟩;obtain ⟨z1,z2,z3,z4,z5⟩:=join_facts H4.out.1 H4.out.2.1 hb4 0 HX.out.2.2.2.2.1)
      all_goals
        go_wp2
        refine bodyPost_ret (results_none rfl _ _ _) rfl ?_
        obtain ⟨o1,o2,o3⟩:=H4.out
        have n4:NB w4 p0 v0 (.slice (some ⟨pg,0,none⟩) v0.cells.length pcap):=(hb4.block p0 (Array.getElem?_eq_some_iff.1 o1).1).trans o1
        obtain ⟨i1,i2⟩:=NDb.setc (top:=w4.heap.size) n4 (row_below o2 hb4) o3 z2 z5 0 (childB km vs.num)
        obtain ⟨j3,j4⟩:=TS.below (w':=w4) H5.out.1 ⟨hb4.1,hb4.2,hb4.3,hb4.4,hb4.5⟩
        exact ⟨rfl,V3,i2.ts j3,(H5.out.2.trans (H5.out.1.tf j4 b0)).trans (i2.tf j3),i1.up i2.size⟩
/- the left one is loaded; leaves; both share -/
set_option maxRecDepth 20000 in
set_option maxHeartbeats 4000000 in
theorem cjoinL1S (h:TS w B D Gp V K pk m A fl pages) (hm:m≤36000) (ht:TB w tb Gp root) {b0 b1 p0 pn:Nat} {v0 vn vs:NV} (l:List ByteArray) (t:Nat)
    (hp:NDb w b0 b1 p0 v0) (htk:v0.taken=(t+1)) (hl0:t<v0.cells.length∧v0.cells.length≤1000) (hc0:kS (tx v0.cells t)≤(tx v0.cells t).size∧(tx v0.cells t).size≤240) (hkz:(keyB (tx v0.cells t)).size≤200)
    (hn:NRs w pn vn) (hbn:b1≤pn)
    (hch:∀ Y:World,TS Y B D Gp V K pk m A fl pages→TB Y tb Gp root→NDb Y b0 b1 p0 v0→Calls Tryz.prog 103 #[(.pointer (some ⟨tb,0,none⟩)),(.pointer (some ⟨p0,0,none⟩)),.int .i64 (t:Int)] Y fun e w'=>∃ (V':PV) (q:Nat),e=.returned (.pointer (some ⟨q,0,none⟩))∧TS w' B D Gp V' K pk m A fl pages∧St2 Y w' B V V'∧ND w' Y.heap.size q vs∧Y.heap.size≤q)
    (hkn:vn.kind=1) (hks:vs.kind=1) (hn0:vn.cells.length≤400) (hs0:0<vs.cells.length∧vs.cells.length≤400)
    (hl:withL 1 vs.cells (keyB (tx v0.cells t)) vn.link vn.cells=l) (hu:1012<usedC l) (hu2:usedC l≤100000) (hok:okP (shrL 1 vs.link l)∧okP (shrR 1 vn.link l)∧ShrOk 1 l) (hkm:(keyB (tx l (midC l))).size≤200)
    (hn1:0<vs.num∧vs.num<pages∧¬ vs.num ∈ fl) (hn2:0<vn.num∧vn.num<pages∧¬ vn.num ∈ fl) :
    Calls Tryz.prog 157 #[(.pointer (some ⟨tb,0,none⟩)),(.pointer (some ⟨p0,0,none⟩)),(.pointer (some ⟨pn,0,none⟩))] w fun e w'=>e=.returned (.tuple #[])∧∃ V',TS w' B D Gp V' K pk (m+2) (updA (updA A vs.num (shrL 1 vs.link l)) vn.num (shrR 1 vn.link l)) fl pages∧TF b0 B w w' V V'∧NDb w' b0 w'.heap.size p0 { v0 with cells:=v0.cells.set t (childB (keyB (tx l (midC l))) vn.num) }:=by
  have hb01:b0≤b1:=by obtain ⟨_,_,_,q1,q2,_⟩:=hp;omega
  have y6:=hp.cellsT
  have y8:p0<w.heap.size:=by obtain ⟨_,q,_⟩:=hp;exact q.cells.2.2.2.2.2.2.2.2
  obtain ⟨tk,hvt⟩:∃ tk,v0.taken=tk:=⟨_,rfl⟩
  rw [hvt] at y6 htk
  have HCH:=hide (hch)
  have H:=hide (show TS w B D Gp V K pk m A fl pages∧NDb w b0 b1 p0 v0∧NRs w pn vn∧TB w tb Gp root from ⟨h,hp,hn,ht⟩)
  have HX:=hide (show b0≤b1∧b1≤pn∧m≤36000∧v0.cells.length≤1000∧t<v0.cells.length∧(okP (shrL 1 vs.link l)∧okP (shrR 1 vn.link l)∧ShrOk 1 l)∧(0<vs.num∧vs.num<pages∧¬ vs.num ∈ fl)∧(0<vn.num∧vn.num<pages∧¬ vn.num ∈ fl) from ⟨hb01,hbn,hm,hl0.2,hl0.1,hok,hn1,hn2⟩)
  have HU:=hide ((⟨hu,hu2⟩:_∧_))
  have HKE:=hide (fun (Y:World) (hY:NR Y p0 v0)=>ckeyN hY t hl0.1 hc0.1 hc0.2)
  obtain ⟨kb,hkb⟩:∃ kb,keyB (tx v0.cells t)=kb:=⟨_,rfl⟩
  rw [hkb] at HKE hl hkz
  have HWI:=hide (fun (Y:World) (q:Nat) (h1:NRs Y q vs) (h2:NRs Y pn vn)=>cwithN h1 h2 (.inl hks) (by omega) (by omega) kb hkz)
  have HS0:=hide (hs0.1)
  rw [hks,hl] at HWI
  have hll:l.length≤vs.cells.length+vn.cells.length+1∧0<l.length:=by rw [← hl];simp [withL];omega
  have HLL:=hide (show l.length≤1000∧0<l.length from ⟨by omega,by omega⟩)
  have HKD:=hide (show vs.kind=1∧vn.kind=1 from ⟨hks,hkn⟩)
  have ht1:wrap64 ((tk:Int) - 1)=(t:Int):=by unfold wrap64;omega
  have ht2:(0:Int)<(tk:Int):=by omega
  have HCC:=hide (fun (n:Nat) (Y:World)=>cchild (keyB (tx l (midC l))) n Y hkm)
  obtain ⟨km,hkm'⟩:∃ km,keyB (tx l (midC l))=km:=⟨_,rfl⟩
  obtain ⟨P1,hP1⟩:∃ P1,shrL 1 vs.link l=P1:=⟨_,rfl⟩
  obtain ⟨P2,hP2⟩:∃ P2,shrR 1 vn.link l=P2:=⟨_,rfl⟩
  have HPP:=hide (show keyB (tx l (midC l))=km∧shrL 1 vs.link l=P1∧shrR 1 vn.link l=P2 from ⟨hkm',hP1,hP2⟩)
  rw [hkm'] at HCC
  rw [hkm',hP1,hP2]
  clear hkm' hP1 hP2
  clear h hp hn ht hch hkb hl hkz hc0 hl0 hbn hb01 hm hok hn1 hn2 hu hn0 hs0 hll hkn hks htk hvt hu2 hkm
  go_enter Tryz.func157,Tryz.ntmps157
  go_wp2_with fail
  go_region
  all_goals
    go_wp2_with fail
    have hd:Below w.heap.size w w.drew:=drawnB w 1
    obtain ⟨h1,h2⟩:=H.out.1.below hd
    have hnb:NDb w.drew b0 b1 p0 v0:=H.out.2.1.below hd
    refine (HCH.out _ h1 (H.out.1.stayTB h2 H.out.2.2.2) hnb).mono ?_
    rintro e w1 ⟨V1,q,rfl,k1,k2,k3,k4⟩
    have k2:=h2.trans k2
    have hn1:=H.out.1.stayNRs k2 H.out.2.2.1
    have hp1:=H.out.1.stayNDb k2 H.out.2.1
    have hq1:=k3.nr.s HS0.out
    have hne:¬ pn=q:=by obtain ⟨_,_,n1,_⟩:=H.out.2.2.1;have:=n1.cells.2.2.2.2.2.2.2.2;have:w.heap.size≤q:=k4;omega
    have hne':¬ q=pn:=fun e=>hne e.symm
    have hbq:b1≤q:=by obtain ⟨_,_,n1,_⟩:=H.out.2.2.1;have:=n1.cells.2.2.2.2.2.2.2.2;have:w.heap.size≤q:=k4;have:=HX.out.2.1;omega
    have HBQ:=hide (show b1≤q∧b1≤pn from ⟨hbq,HX.out.2.1⟩)
    have tb1:=H.out.1.stayTB k2 H.out.2.2.2
    have HK:=hide (show TS w1 B D Gp V1 K pk m A fl pages∧St2 w w1 B V V1∧NRs w1 q vs∧NDb w1 b0 b1 p0 v0∧NRs w1 pn vn∧TB w1 tb Gp root from ⟨k1,k2,hq1,hp1,hn1,tb1⟩)
    obtain ⟨a1,c1,n1,-⟩:=HK.out.2.2.1
    obtain ⟨a2,c2,n2,-⟩:=HK.out.2.2.2.2.1
    obtain ⟨u0,u1,u2,u3,u4,u5,u6,u7,u8⟩:=n1.cells
    obtain ⟨t0,t1,t2,t3,t4,t5,t6,t7,t8⟩:=n2.cells
    rw [HKD.out.1] at u0
    rw [HKD.out.2] at t0
    clear hd h1 h2 hnb k1 k2 k3 k4 hn1 hq1 hp1 hbq tb1 n1 n2 HCH u1 u2 u3 u4 u5 u6 u7 t1 t2 t3 t4 t5 t6 t7 y6 y8
    go_wp2_with fail
    go_region
    all_goals
      have hd:Below w1.heap.size w1 w1.drew:=drawnB w1 1
      have HK2:=hide (show NRs w1.drew q vs∧NDb w1.drew b0 b1 p0 v0∧NRs w1.drew pn vn from ⟨HK.out.1.stayNRs (HK.out.1.below hd).2 HK.out.2.2.1,HK.out.2.2.2.1.below hd,HK.out.1.stayNRs (HK.out.1.below hd).2 HK.out.2.2.2.2.1⟩)
      clear hd
      go_wp2_with fail
      refine (HKE.out _ HK2.out.2.1.nr).mono ?_
      rintro e w8 ⟨rfl,hw⟩;rw [hw];clear hw
      go_wp2_with fail
      refine (HWI.out _ _ HK2.out.1 HK2.out.2.2).mono ?_
      rintro e w2 ⟨v2,rfl,ho2,hb2⟩
      obtain ⟨a,c,rfl,st2,hlc,-⟩:=StB.own ho2
      have hb2:Below w1.heap.size w1 w2:=(drawnB w1 1).trans hb2
      obtain ⟨q2,s2⟩:=HK.out.1.below hb2
      obtain ⟨a1',c1',n1,-⟩:=HK.out.1.stayNRs s2 HK.out.2.2.1
      obtain ⟨a2',c2',n2,st3,-⟩:=HK.out.1.stayNRs s2 HK.out.2.2.2.2.1
      have hp2:NDb w2 b0 b1 p0 v0:=HK.out.2.2.2.1.below hb2
      have tb2:=HK.out.1.stayTB s2 HK.out.2.2.2.2.2
      have hx:=HX.out
      have HUS:=hide (cusedB st2 c (by have:=HU.out;omega))
      have HU':=HU.out
      obtain ⟨g,off,hga⟩:∃ g off:Nat,a=some ⟨g,off,none⟩:=by
        rcases st2 with e | ⟨b',o',_,e,_⟩
        · have:=HLL.out.2;rw [e] at this;simp at this
        · exact ⟨b',o',e⟩
      subst hga
      have HSH:=hide (cshare q2 (by omega) tb2 (b:=b1) n1 n2 HBQ.out.1 HBQ.out.2 hne' st2 hlc 1 (.inl rfl) HKD.out.1 HKD.out.2 hx.2.2.2.2.2.1.2.2 ⟨_,_,_,rfl⟩ ⟨_,_,_,rfl⟩ hx.2.2.2.2.2.1.1 hx.2.2.2.2.2.1.2.1 hx.2.2.2.2.2.2.1 hx.2.2.2.2.2.2.2)
      have H3:=hide (show TF b0 B w w2 V V1∧NDb w2 b0 b1 p0 v0 from ⟨(H.out.1.tf HK.out.2.1 b0).trans (HK.out.1.tf s2 b0),hp2⟩)
      rw [HPP.out.1,HPP.out.2.1,HPP.out.2.2] at HSH
      clear ho2 st2 hlc hb2 q2 s2 n1 n2 st3 hp2 tb2 hx HK2
      generalize usedC l=U at HUS HU'
      have HU2:(1012:Int)<(U:Int):=by omega
      clear HU'
      generalize l.length=LL at *
      go_wp2_with fail
      refine HUS.out.mono ?_
      rintro e w9 ⟨rfl,hw⟩;rw [hw];clear hw
      go_wp2_with fail
      refine HSH.out.mono ?_
      rintro e w3 ⟨rfl,V3,j1,j2,j3⟩
      have nd3:NDb w3 b0 b1 p0 v0:=(j2.pm [⟨b0,p0,v0⟩] b1 (Nat.le_refl _) (show PM _ [⟨b0,p0,v0⟩] b1 from ⟨H3.out.2,trivial⟩)).1
      obtain ⟨a5,c5,n5,-⟩:=j3
      obtain ⟨t0,t1,t2,t3,t4,t5,t6,t7,t8⟩:=n5.cells
      obtain ⟨sp,o1,o2,o3,o4,o5⟩:=nd3
      rcases o2.2 with ⟨_,e'⟩ | ⟨pg,pcap,pcur,rfl,_,hph,hpl,hpc,hps,hpt⟩
      · have:=HX.out.2.2.2.2.1;omega
      obtain ⟨y0,y1,y2,y3,y4,y5,y6,y7,y8⟩:=o1.cells
      have hpg:pg<w3.heap.size:=(Array.getElem?_eq_some_iff.1 hph).1
      have H4:=hide (show NB w3.drew p0 v0 (.slice (some ⟨pg,0,none⟩) v0.cells.length pcap)∧w3.drew.ownsRow b0 9 1 (.slice (some ⟨pg,0,none⟩) v0.cells.length pcap) v0.cells.length (valsS v0.cells)∧b0≤p0 from ⟨o1,o2,o3⟩)
      have H5:=hide (show TS w3 B D Gp V3 K pk (m+2) (updA (updA A vs.num P1) vn.num P2) fl pages∧TF b0 B w w3 V V3 from ⟨j1,H3.out.1.trans (j2.mono HX.out.1)⟩)
      have hat:(t:Int)<(v0.cells.length:Int):=by have:=HX.out.2.2.2.2.1;omega
      have HVL:=hide (show v0.cells.length=v0.cells.length from rfl)
      clear j1 j2 o1 o2 o3 o4 o5 n5 t0 t1 t2 t4 t5 t6 t7 y0 y1 y3 y4 y5 y6 y7 hph hps hpt HSH HUS HU2 H3
      go_wp2_with fail
      go_region_with (go_at_call 185;refine (HCC.out _ _).mono ?_;rintro e w4 ⟨rfl,hb4⟩;obtain ⟨z1,z2,z3,z4,z5⟩:=join_facts H4.out.1 H4.out.2.1 hb4 t HX.out.2.2.2.2.1)
      all_goals
        go_wp2
        refine bodyPost_ret (results_none rfl _ _ _) rfl ?_
        obtain ⟨o1,o2,o3⟩:=H4.out
        have n4:NB w4 p0 v0 (.slice (some ⟨pg,0,none⟩) v0.cells.length pcap):=(hb4.block p0 (Array.getElem?_eq_some_iff.1 o1).1).trans o1
        obtain ⟨i1,i2⟩:=NDb.setc (top:=w4.heap.size) n4 (row_below o2 hb4) o3 z2 z5 t (childB km vn.num)
        obtain ⟨j3,j4⟩:=TS.below (w':=w4) H5.out.1 ⟨hb4.1,hb4.2,hb4.3,hb4.4,hb4.5⟩
        exact ⟨rfl,V3,i2.ts j3,(H5.out.2.trans (H5.out.1.tf j4 b0)).trans (i2.tf j3),i1.up i2.size⟩
/- the right one is loaded; inner nodes; both share -/
set_option maxRecDepth 20000 in
set_option maxHeartbeats 4000000 in
theorem cjoinR2S (h:TS w B D Gp V K pk m A fl pages) (hm:m≤36000) (ht:TB w tb Gp root) {b0 b1 p0 pn:Nat} {v0 vn vs:NV} (l:List ByteArray)
    (hp:NDb w b0 b1 p0 v0) (htk:v0.taken=0) (hl0:0<v0.cells.length∧v0.cells.length≤1000) (hc0:kS (tx v0.cells 0)≤(tx v0.cells 0).size∧(tx v0.cells 0).size≤240) (hkz:(keyB (tx v0.cells 0)).size≤200)
    (hn:NRs w pn vn) (hbn:b1≤pn)
    (hch:∀ Y:World,TS Y B D Gp V K pk m A fl pages→TB Y tb Gp root→NDb Y b0 b1 p0 v0→Calls Tryz.prog 103 #[(.pointer (some ⟨tb,0,none⟩)),(.pointer (some ⟨p0,0,none⟩)),.int .i64 1] Y fun e w'=>∃ (V':PV) (q:Nat),e=.returned (.pointer (some ⟨q,0,none⟩))∧TS w' B D Gp V' K pk m A fl pages∧St2 Y w' B V V'∧ND w' Y.heap.size q vs∧Y.heap.size≤q)
    (hkn:vn.kind=2) (hks:vs.kind=2) (hn0:vn.cells.length≤400) (hs0:0<vs.cells.length∧vs.cells.length≤400)
    (hl:withL 2 vn.cells (keyB (tx v0.cells 0)) vs.link vs.cells=l) (hu:1012<usedC l) (hu2:usedC l≤100000) (hok:okP (shrL 2 vn.link l)∧okP (shrR 2 vs.link l)∧ShrOk 2 l) (hkm:(keyB (tx l (midC l))).size≤200)
    (hn1:0<vn.num∧vn.num<pages∧¬ vn.num ∈ fl) (hn2:0<vs.num∧vs.num<pages∧¬ vs.num ∈ fl) :
    Calls Tryz.prog 157 #[(.pointer (some ⟨tb,0,none⟩)),(.pointer (some ⟨p0,0,none⟩)),(.pointer (some ⟨pn,0,none⟩))] w fun e w'=>e=.returned (.tuple #[])∧∃ V',TS w' B D Gp V' K pk (m+2) (updA (updA A vn.num (shrL 2 vn.link l)) vs.num (shrR 2 vs.link l)) fl pages∧TF b0 B w w' V V'∧NDb w' b0 w'.heap.size p0 { v0 with cells:=v0.cells.set 0 (childB (keyB (tx l (midC l))) vs.num) }:=by
  have hb01:b0≤b1:=by obtain ⟨_,_,_,q1,q2,_⟩:=hp;omega
  have y6:=hp.cellsT
  have y8:p0<w.heap.size:=by obtain ⟨_,q,_⟩:=hp;exact q.cells.2.2.2.2.2.2.2.2
  rw [htk] at y6
  have HCH:=hide (hch)
  have H:=hide (show TS w B D Gp V K pk m A fl pages∧NDb w b0 b1 p0 v0∧NRs w pn vn∧TB w tb Gp root from ⟨h,hp,hn,ht⟩)
  have HX:=hide (show b0≤b1∧b1≤pn∧m≤36000∧v0.cells.length≤1000∧0<v0.cells.length∧(okP (shrL 2 vn.link l)∧okP (shrR 2 vs.link l)∧ShrOk 2 l)∧(0<vn.num∧vn.num<pages∧¬ vn.num ∈ fl)∧(0<vs.num∧vs.num<pages∧¬ vs.num ∈ fl) from ⟨hb01,hbn,hm,hl0.2,hl0.1,hok,hn1,hn2⟩)
  have HU:=hide ((⟨hu,hu2⟩:_∧_))
  have HKE:=hide (fun (Y:World) (hY:NR Y p0 v0)=>ckeyN hY 0 hl0.1 hc0.1 hc0.2)
  obtain ⟨kb,hkb⟩:∃ kb,keyB (tx v0.cells 0)=kb:=⟨_,rfl⟩
  rw [hkb] at HKE hl hkz
  have HWI:=hide (fun (Y:World) (q:Nat) (h1:NRs Y pn vn) (h2:NRs Y q vs)=>cwithN h1 h2 (.inr hkn) (by omega) (by omega) kb hkz)
  have HS0:=hide (hs0.1)
  rw [hkn,hl] at HWI
  have hll:l.length≤vn.cells.length+vs.cells.length+1∧0<l.length:=by rw [← hl];simp [withL];omega
  have HLL:=hide (show l.length≤1000∧0<l.length from ⟨by omega,by omega⟩)
  have HKD:=hide (show vn.kind=2∧vs.kind=2 from ⟨hkn,hks⟩)
  have HCC:=hide (fun (n:Nat) (Y:World)=>cchild (keyB (tx l (midC l))) n Y hkm)
  obtain ⟨km,hkm'⟩:∃ km,keyB (tx l (midC l))=km:=⟨_,rfl⟩
  obtain ⟨P1,hP1⟩:∃ P1,shrL 2 vn.link l=P1:=⟨_,rfl⟩
  obtain ⟨P2,hP2⟩:∃ P2,shrR 2 vs.link l=P2:=⟨_,rfl⟩
  have HPP:=hide (show keyB (tx l (midC l))=km∧shrL 2 vn.link l=P1∧shrR 2 vs.link l=P2 from ⟨hkm',hP1,hP2⟩)
  rw [hkm'] at HCC
  rw [hkm',hP1,hP2]
  clear hkm' hP1 hP2
  clear h hp hn ht hch hkb hl hkz hc0 hl0 hbn hb01 hm hok hn1 hn2 hu hn0 hs0 hll hkn hks htk hu2 hkm
  go_enter Tryz.func157,Tryz.ntmps157
  go_wp2_with fail
  go_region
  all_goals
    go_wp2_with fail
    have hd:Below w.heap.size w w.drew:=drawnB w 1
    obtain ⟨h1,h2⟩:=H.out.1.below hd
    have hnb:NDb w.drew b0 b1 p0 v0:=H.out.2.1.below hd
    refine (HCH.out _ h1 (H.out.1.stayTB h2 H.out.2.2.2) hnb).mono ?_
    rintro e w1 ⟨V1,q,rfl,k1,k2,k3,k4⟩
    have k2:=h2.trans k2
    have hn1:=H.out.1.stayNRs k2 H.out.2.2.1
    have hp1:=H.out.1.stayNDb k2 H.out.2.1
    have hq1:=k3.nr.s HS0.out
    have hne:¬ pn=q:=by obtain ⟨_,_,n1,_⟩:=H.out.2.2.1;have:=n1.cells.2.2.2.2.2.2.2.2;have:w.heap.size≤q:=k4;omega
    have hne':¬ q=pn:=fun e=>hne e.symm
    have hbq:b1≤q:=by obtain ⟨_,_,n1,_⟩:=H.out.2.2.1;have:=n1.cells.2.2.2.2.2.2.2.2;have:w.heap.size≤q:=k4;have:=HX.out.2.1;omega
    have HBQ:=hide (show b1≤pn∧b1≤q from ⟨HX.out.2.1,hbq⟩)
    have tb1:=H.out.1.stayTB k2 H.out.2.2.2
    have HK:=hide (show TS w1 B D Gp V1 K pk m A fl pages∧St2 w w1 B V V1∧NRs w1 pn vn∧NDb w1 b0 b1 p0 v0∧NRs w1 q vs∧TB w1 tb Gp root from ⟨k1,k2,hn1,hp1,hq1,tb1⟩)
    obtain ⟨a1,c1,n1,-⟩:=HK.out.2.2.1
    obtain ⟨a2,c2,n2,-⟩:=HK.out.2.2.2.2.1
    obtain ⟨u0,u1,u2,u3,u4,u5,u6,u7,u8⟩:=n1.cells
    obtain ⟨t0,t1,t2,t3,t4,t5,t6,t7,t8⟩:=n2.cells
    rw [HKD.out.1] at u0
    rw [HKD.out.2] at t0
    clear hd h1 h2 hnb k1 k2 k3 k4 hn1 hq1 hp1 hbq tb1 n1 n2 HCH u1 u2 u3 u4 u5 u6 u7 t1 t2 t3 t4 t5 t6 t7 y6 y8
    go_wp2_with fail
    go_region
    all_goals
      have hd:Below w1.heap.size w1 w1.drew:=drawnB w1 1
      have HK2:=hide (show NRs w1.drew pn vn∧NDb w1.drew b0 b1 p0 v0∧NRs w1.drew q vs from ⟨HK.out.1.stayNRs (HK.out.1.below hd).2 HK.out.2.2.1,HK.out.2.2.2.1.below hd,HK.out.1.stayNRs (HK.out.1.below hd).2 HK.out.2.2.2.2.1⟩)
      clear hd
      go_wp2_with fail
      refine (HKE.out _ HK2.out.2.1.nr).mono ?_
      rintro e w8 ⟨rfl,hw⟩;rw [hw];clear hw
      go_wp2_with fail
      refine (HWI.out _ _ HK2.out.1 HK2.out.2.2).mono ?_
      rintro e w2 ⟨v2,rfl,ho2,hb2⟩
      obtain ⟨a,c,rfl,st2,hlc,-⟩:=StB.own ho2
      have hb2:Below w1.heap.size w1 w2:=(drawnB w1 1).trans hb2
      obtain ⟨q2,s2⟩:=HK.out.1.below hb2
      obtain ⟨a1',c1',n1,-⟩:=HK.out.1.stayNRs s2 HK.out.2.2.1
      obtain ⟨a2',c2',n2,st3,-⟩:=HK.out.1.stayNRs s2 HK.out.2.2.2.2.1
      have hp2:NDb w2 b0 b1 p0 v0:=HK.out.2.2.2.1.below hb2
      have tb2:=HK.out.1.stayTB s2 HK.out.2.2.2.2.2
      have hx:=HX.out
      have HUS:=hide (cusedB st2 c (by have:=HU.out;omega))
      have HU':=HU.out
      obtain ⟨g,off,hga⟩:∃ g off:Nat,a=some ⟨g,off,none⟩:=by
        rcases st2 with e | ⟨b',o',_,e,_⟩
        · have:=HLL.out.2;rw [e] at this;simp at this
        · exact ⟨b',o',e⟩
      subst hga
      have HSH:=hide (cshare q2 (by omega) tb2 (b:=b1) n1 n2 HBQ.out.1 HBQ.out.2 hne st2 hlc 2 (.inr rfl) HKD.out.1 HKD.out.2 hx.2.2.2.2.2.1.2.2 ⟨_,_,_,rfl⟩ ⟨_,_,_,rfl⟩ hx.2.2.2.2.2.1.1 hx.2.2.2.2.2.1.2.1 hx.2.2.2.2.2.2.1 hx.2.2.2.2.2.2.2)
      have H3:=hide (show TF b0 B w w2 V V1∧NDb w2 b0 b1 p0 v0 from ⟨(H.out.1.tf HK.out.2.1 b0).trans (HK.out.1.tf s2 b0),hp2⟩)
      rw [HPP.out.1,HPP.out.2.1,HPP.out.2.2] at HSH
      clear ho2 st2 hlc hb2 q2 s2 n1 n2 st3 hp2 tb2 hx HK2
      generalize usedC l=U at HUS HU'
      have HU2:(1012:Int)<(U:Int):=by omega
      clear HU'
      generalize l.length=LL at *
      go_wp2_with fail
      refine HUS.out.mono ?_
      rintro e w9 ⟨rfl,hw⟩;rw [hw];clear hw
      go_wp2_with fail
      refine HSH.out.mono ?_
      rintro e w3 ⟨rfl,V3,j1,j2,j3⟩
      have nd3:NDb w3 b0 b1 p0 v0:=(j2.pm [⟨b0,p0,v0⟩] b1 (Nat.le_refl _) (show PM _ [⟨b0,p0,v0⟩] b1 from ⟨H3.out.2,trivial⟩)).1
      obtain ⟨a5,c5,n5,-⟩:=j3
      obtain ⟨t0,t1,t2,t3,t4,t5,t6,t7,t8⟩:=n5.cells
      obtain ⟨sp,o1,o2,o3,o4,o5⟩:=nd3
      rcases o2.2 with ⟨_,e'⟩ | ⟨pg,pcap,pcur,rfl,_,hph,hpl,hpc,hps,hpt⟩
      · have:=HX.out.2.2.2.2.1;omega
      obtain ⟨y0,y1,y2,y3,y4,y5,y6,y7,y8⟩:=o1.cells
      have hpg:pg<w3.heap.size:=(Array.getElem?_eq_some_iff.1 hph).1
      have H4:=hide (show NB w3.drew p0 v0 (.slice (some ⟨pg,0,none⟩) v0.cells.length pcap)∧w3.drew.ownsRow b0 9 1 (.slice (some ⟨pg,0,none⟩) v0.cells.length pcap) v0.cells.length (valsS v0.cells)∧b0≤p0 from ⟨o1,o2,o3⟩)
      have H5:=hide (show TS w3 B D Gp V3 K pk (m+2) (updA (updA A vn.num P1) vs.num P2) fl pages∧TF b0 B w w3 V V3 from ⟨j1,H3.out.1.trans (j2.mono HX.out.1)⟩)
      have hat:(0:Int)<(v0.cells.length:Int):=by have:=HX.out.2.2.2.2.1;omega
      have HVL:=hide (show v0.cells.length=v0.cells.length from rfl)
      clear j1 j2 o1 o2 o3 o4 o5 n5 t0 t1 t2 t4 t5 t6 t7 y0 y1 y3 y4 y5 y6 y7 hph hps hpt HSH HUS HU2 H3
      go_wp2_with fail
      go_region_with (go_at_call 185;refine (HCC.out _ _).mono ?_;rintro e w4 ⟨rfl,hb4⟩;obtain ⟨z1,z2,z3,z4,z5⟩:=join_facts H4.out.1 H4.out.2.1 hb4 0 HX.out.2.2.2.2.1)
      all_goals
        go_wp2
        refine bodyPost_ret (results_none rfl _ _ _) rfl ?_
        obtain ⟨o1,o2,o3⟩:=H4.out
        have n4:NB w4 p0 v0 (.slice (some ⟨pg,0,none⟩) v0.cells.length pcap):=(hb4.block p0 (Array.getElem?_eq_some_iff.1 o1).1).trans o1
        obtain ⟨i1,i2⟩:=NDb.setc (top:=w4.heap.size) n4 (row_below o2 hb4) o3 z2 z5 0 (childB km vs.num)
        obtain ⟨j3,j4⟩:=TS.below (w':=w4) H5.out.1 ⟨hb4.1,hb4.2,hb4.3,hb4.4,hb4.5⟩
        exact ⟨rfl,V3,i2.ts j3,(H5.out.2.trans (H5.out.1.tf j4 b0)).trans (i2.tf j3),i1.up i2.size⟩
/- the left one is loaded; inner nodes; both share -/
set_option maxRecDepth 20000 in
set_option maxHeartbeats 4000000 in
theorem cjoinL2S (h:TS w B D Gp V K pk m A fl pages) (hm:m≤36000) (ht:TB w tb Gp root) {b0 b1 p0 pn:Nat} {v0 vn vs:NV} (l:List ByteArray) (t:Nat)
    (hp:NDb w b0 b1 p0 v0) (htk:v0.taken=(t+1)) (hl0:t<v0.cells.length∧v0.cells.length≤1000) (hc0:kS (tx v0.cells t)≤(tx v0.cells t).size∧(tx v0.cells t).size≤240) (hkz:(keyB (tx v0.cells t)).size≤200)
    (hn:NRs w pn vn) (hbn:b1≤pn)
    (hch:∀ Y:World,TS Y B D Gp V K pk m A fl pages→TB Y tb Gp root→NDb Y b0 b1 p0 v0→Calls Tryz.prog 103 #[(.pointer (some ⟨tb,0,none⟩)),(.pointer (some ⟨p0,0,none⟩)),.int .i64 (t:Int)] Y fun e w'=>∃ (V':PV) (q:Nat),e=.returned (.pointer (some ⟨q,0,none⟩))∧TS w' B D Gp V' K pk m A fl pages∧St2 Y w' B V V'∧ND w' Y.heap.size q vs∧Y.heap.size≤q)
    (hkn:vn.kind=2) (hks:vs.kind=2) (hn0:vn.cells.length≤400) (hs0:0<vs.cells.length∧vs.cells.length≤400)
    (hl:withL 2 vs.cells (keyB (tx v0.cells t)) vn.link vn.cells=l) (hu:1012<usedC l) (hu2:usedC l≤100000) (hok:okP (shrL 2 vs.link l)∧okP (shrR 2 vn.link l)∧ShrOk 2 l) (hkm:(keyB (tx l (midC l))).size≤200)
    (hn1:0<vs.num∧vs.num<pages∧¬ vs.num ∈ fl) (hn2:0<vn.num∧vn.num<pages∧¬ vn.num ∈ fl) :
    Calls Tryz.prog 157 #[(.pointer (some ⟨tb,0,none⟩)),(.pointer (some ⟨p0,0,none⟩)),(.pointer (some ⟨pn,0,none⟩))] w fun e w'=>e=.returned (.tuple #[])∧∃ V',TS w' B D Gp V' K pk (m+2) (updA (updA A vs.num (shrL 2 vs.link l)) vn.num (shrR 2 vn.link l)) fl pages∧TF b0 B w w' V V'∧NDb w' b0 w'.heap.size p0 { v0 with cells:=v0.cells.set t (childB (keyB (tx l (midC l))) vn.num) }:=by
  have hb01:b0≤b1:=by obtain ⟨_,_,_,q1,q2,_⟩:=hp;omega
  have y6:=hp.cellsT
  have y8:p0<w.heap.size:=by obtain ⟨_,q,_⟩:=hp;exact q.cells.2.2.2.2.2.2.2.2
  obtain ⟨tk,hvt⟩:∃ tk,v0.taken=tk:=⟨_,rfl⟩
  rw [hvt] at y6 htk
  have HCH:=hide (hch)
  have H:=hide (show TS w B D Gp V K pk m A fl pages∧NDb w b0 b1 p0 v0∧NRs w pn vn∧TB w tb Gp root from ⟨h,hp,hn,ht⟩)
  have HX:=hide (show b0≤b1∧b1≤pn∧m≤36000∧v0.cells.length≤1000∧t<v0.cells.length∧(okP (shrL 2 vs.link l)∧okP (shrR 2 vn.link l)∧ShrOk 2 l)∧(0<vs.num∧vs.num<pages∧¬ vs.num ∈ fl)∧(0<vn.num∧vn.num<pages∧¬ vn.num ∈ fl) from ⟨hb01,hbn,hm,hl0.2,hl0.1,hok,hn1,hn2⟩)
  have HU:=hide ((⟨hu,hu2⟩:_∧_))
  have HKE:=hide (fun (Y:World) (hY:NR Y p0 v0)=>ckeyN hY t hl0.1 hc0.1 hc0.2)
  obtain ⟨kb,hkb⟩:∃ kb,keyB (tx v0.cells t)=kb:=⟨_,rfl⟩
  rw [hkb] at HKE hl hkz
  have HWI:=hide (fun (Y:World) (q:Nat) (h1:NRs Y q vs) (h2:NRs Y pn vn)=>cwithN h1 h2 (.inr hks) (by omega) (by omega) kb hkz)
  have HS0:=hide (hs0.1)
  rw [hks,hl] at HWI
  have hll:l.length≤vs.cells.length+vn.cells.length+1∧0<l.length:=by rw [← hl];simp [withL];omega
  have HLL:=hide (show l.length≤1000∧0<l.length from ⟨by omega,by omega⟩)
  have HKD:=hide (show vs.kind=2∧vn.kind=2 from ⟨hks,hkn⟩)
  have ht1:wrap64 ((tk:Int) - 1)=(t:Int):=by unfold wrap64;omega
  have ht2:(0:Int)<(tk:Int):=by omega
  have HCC:=hide (fun (n:Nat) (Y:World)=>cchild (keyB (tx l (midC l))) n Y hkm)
  obtain ⟨km,hkm'⟩:∃ km,keyB (tx l (midC l))=km:=⟨_,rfl⟩
  obtain ⟨P1,hP1⟩:∃ P1,shrL 2 vs.link l=P1:=⟨_,rfl⟩
  obtain ⟨P2,hP2⟩:∃ P2,shrR 2 vn.link l=P2:=⟨_,rfl⟩
  have HPP:=hide (show keyB (tx l (midC l))=km∧shrL 2 vs.link l=P1∧shrR 2 vn.link l=P2 from ⟨hkm',hP1,hP2⟩)
  rw [hkm'] at HCC
  rw [hkm',hP1,hP2]
  clear hkm' hP1 hP2
  clear h hp hn ht hch hkb hl hkz hc0 hl0 hbn hb01 hm hok hn1 hn2 hu hn0 hs0 hll hkn hks htk hvt hu2 hkm
  go_enter Tryz.func157,Tryz.ntmps157
  go_wp2_with fail
  go_region
  all_goals
    go_wp2_with fail
    have hd:Below w.heap.size w w.drew:=drawnB w 1
    obtain ⟨h1,h2⟩:=H.out.1.below hd
    have hnb:NDb w.drew b0 b1 p0 v0:=H.out.2.1.below hd
    refine (HCH.out _ h1 (H.out.1.stayTB h2 H.out.2.2.2) hnb).mono ?_
    rintro e w1 ⟨V1,q,rfl,k1,k2,k3,k4⟩
    have k2:=h2.trans k2
    have hn1:=H.out.1.stayNRs k2 H.out.2.2.1
    have hp1:=H.out.1.stayNDb k2 H.out.2.1
    have hq1:=k3.nr.s HS0.out
    have hne:¬ pn=q:=by obtain ⟨_,_,n1,_⟩:=H.out.2.2.1;have:=n1.cells.2.2.2.2.2.2.2.2;have:w.heap.size≤q:=k4;omega
    have hne':¬ q=pn:=fun e=>hne e.symm
    have hbq:b1≤q:=by obtain ⟨_,_,n1,_⟩:=H.out.2.2.1;have:=n1.cells.2.2.2.2.2.2.2.2;have:w.heap.size≤q:=k4;have:=HX.out.2.1;omega
    have HBQ:=hide (show b1≤q∧b1≤pn from ⟨hbq,HX.out.2.1⟩)
    have tb1:=H.out.1.stayTB k2 H.out.2.2.2
    have HK:=hide (show TS w1 B D Gp V1 K pk m A fl pages∧St2 w w1 B V V1∧NRs w1 q vs∧NDb w1 b0 b1 p0 v0∧NRs w1 pn vn∧TB w1 tb Gp root from ⟨k1,k2,hq1,hp1,hn1,tb1⟩)
    obtain ⟨a1,c1,n1,-⟩:=HK.out.2.2.1
    obtain ⟨a2,c2,n2,-⟩:=HK.out.2.2.2.2.1
    obtain ⟨u0,u1,u2,u3,u4,u5,u6,u7,u8⟩:=n1.cells
    obtain ⟨t0,t1,t2,t3,t4,t5,t6,t7,t8⟩:=n2.cells
    rw [HKD.out.1] at u0
    rw [HKD.out.2] at t0
    clear hd h1 h2 hnb k1 k2 k3 k4 hn1 hq1 hp1 hbq tb1 n1 n2 HCH u1 u2 u3 u4 u5 u6 u7 t1 t2 t3 t4 t5 t6 t7 y6 y8
    go_wp2_with fail
    go_region
    all_goals
      have hd:Below w1.heap.size w1 w1.drew:=drawnB w1 1
      have HK2:=hide (show NRs w1.drew q vs∧NDb w1.drew b0 b1 p0 v0∧NRs w1.drew pn vn from ⟨HK.out.1.stayNRs (HK.out.1.below hd).2 HK.out.2.2.1,HK.out.2.2.2.1.below hd,HK.out.1.stayNRs (HK.out.1.below hd).2 HK.out.2.2.2.2.1⟩)
      clear hd
      go_wp2_with fail
      refine (HKE.out _ HK2.out.2.1.nr).mono ?_
      rintro e w8 ⟨rfl,hw⟩;rw [hw];clear hw
      go_wp2_with fail
      refine (HWI.out _ _ HK2.out.1 HK2.out.2.2).mono ?_
      rintro e w2 ⟨v2,rfl,ho2,hb2⟩
      obtain ⟨a,c,rfl,st2,hlc,-⟩:=StB.own ho2
      have hb2:Below w1.heap.size w1 w2:=(drawnB w1 1).trans hb2
      obtain ⟨q2,s2⟩:=HK.out.1.below hb2
      obtain ⟨a1',c1',n1,-⟩:=HK.out.1.stayNRs s2 HK.out.2.2.1
      obtain ⟨a2',c2',n2,st3,-⟩:=HK.out.1.stayNRs s2 HK.out.2.2.2.2.1
      have hp2:NDb w2 b0 b1 p0 v0:=HK.out.2.2.2.1.below hb2
      have tb2:=HK.out.1.stayTB s2 HK.out.2.2.2.2.2
      have hx:=HX.out
      have HUS:=hide (cusedB st2 c (by have:=HU.out;omega))
      have HU':=HU.out
      obtain ⟨g,off,hga⟩:∃ g off:Nat,a=some ⟨g,off,none⟩:=by
        rcases st2 with e | ⟨b',o',_,e,_⟩
        · have:=HLL.out.2;rw [e] at this;simp at this
        · exact ⟨b',o',e⟩
      subst hga
      have HSH:=hide (cshare q2 (by omega) tb2 (b:=b1) n1 n2 HBQ.out.1 HBQ.out.2 hne' st2 hlc 2 (.inr rfl) HKD.out.1 HKD.out.2 hx.2.2.2.2.2.1.2.2 ⟨_,_,_,rfl⟩ ⟨_,_,_,rfl⟩ hx.2.2.2.2.2.1.1 hx.2.2.2.2.2.1.2.1 hx.2.2.2.2.2.2.1 hx.2.2.2.2.2.2.2)
      have H3:=hide (show TF b0 B w w2 V V1∧NDb w2 b0 b1 p0 v0 from ⟨(H.out.1.tf HK.out.2.1 b0).trans (HK.out.1.tf s2 b0),hp2⟩)
      rw [HPP.out.1,HPP.out.2.1,HPP.out.2.2] at HSH
      clear ho2 st2 hlc hb2 q2 s2 n1 n2 st3 hp2 tb2 hx HK2
      generalize usedC l=U at HUS HU'
      have HU2:(1012:Int)<(U:Int):=by omega
      clear HU'
      generalize l.length=LL at *
      go_wp2_with fail
      refine HUS.out.mono ?_
      rintro e w9 ⟨rfl,hw⟩;rw [hw];clear hw
      go_wp2_with fail
      refine HSH.out.mono ?_
      rintro e w3 ⟨rfl,V3,j1,j2,j3⟩
      have nd3:NDb w3 b0 b1 p0 v0:=(j2.pm [⟨b0,p0,v0⟩] b1 (Nat.le_refl _) (show PM _ [⟨b0,p0,v0⟩] b1 from ⟨H3.out.2,trivial⟩)).1
      obtain ⟨a5,c5,n5,-⟩:=j3
      obtain ⟨t0,t1,t2,t3,t4,t5,t6,t7,t8⟩:=n5.cells
      obtain ⟨sp,o1,o2,o3,o4,o5⟩:=nd3
      rcases o2.2 with ⟨_,e'⟩ | ⟨pg,pcap,pcur,rfl,_,hph,hpl,hpc,hps,hpt⟩
      · have:=HX.out.2.2.2.2.1;omega
      obtain ⟨y0,y1,y2,y3,y4,y5,y6,y7,y8⟩:=o1.cells
      have hpg:pg<w3.heap.size:=(Array.getElem?_eq_some_iff.1 hph).1
      have H4:=hide (show NB w3.drew p0 v0 (.slice (some ⟨pg,0,none⟩) v0.cells.length pcap)∧w3.drew.ownsRow b0 9 1 (.slice (some ⟨pg,0,none⟩) v0.cells.length pcap) v0.cells.length (valsS v0.cells)∧b0≤p0 from ⟨o1,o2,o3⟩)
      have H5:=hide (show TS w3 B D Gp V3 K pk (m+2) (updA (updA A vs.num P1) vn.num P2) fl pages∧TF b0 B w w3 V V3 from ⟨j1,H3.out.1.trans (j2.mono HX.out.1)⟩)
      have hat:(t:Int)<(v0.cells.length:Int):=by have:=HX.out.2.2.2.2.1;omega
      have HVL:=hide (show v0.cells.length=v0.cells.length from rfl)
      clear j1 j2 o1 o2 o3 o4 o5 n5 t0 t1 t2 t4 t5 t6 t7 y0 y1 y3 y4 y5 y6 y7 hph hps hpt HSH HUS HU2 H3
      go_wp2_with fail
      go_region_with (go_at_call 185;refine (HCC.out _ _).mono ?_;rintro e w4 ⟨rfl,hb4⟩;obtain ⟨z1,z2,z3,z4,z5⟩:=join_facts H4.out.1 H4.out.2.1 hb4 t HX.out.2.2.2.2.1)
      all_goals
        go_wp2
        refine bodyPost_ret (results_none rfl _ _ _) rfl ?_
        obtain ⟨o1,o2,o3⟩:=H4.out
        have n4:NB w4 p0 v0 (.slice (some ⟨pg,0,none⟩) v0.cells.length pcap):=(hb4.block p0 (Array.getElem?_eq_some_iff.1 o1).1).trans o1
        obtain ⟨i1,i2⟩:=NDb.setc (top:=w4.heap.size) n4 (row_below o2 hb4) o3 z2 z5 t (childB km vn.num)
        obtain ⟨j3,j4⟩:=TS.below (w':=w4) H5.out.1 ⟨hb4.1,hb4.2,hb4.3,hb4.4,hb4.5⟩
        exact ⟨rfl,V3,i2.ts j3,(H5.out.2.trans (H5.out.1.tf j4 b0)).trans (i2.tf j3),i1.up i2.size⟩
end
end Go.Proofs.YtmgjdjjfeapcdaaGreat
