/- share of inner nodes -/
import Derived.Test.YtmgjdjjfeapcdaaGreatMgAO
namespace Go.Proofs.YtmgjdjjfeapcdaaGreat
open Go.RowKit Go.Lib Go.Maps Go.Sort
attribute [local go_sem ↓] Go.wp_at_zero Go.wp_at_succ
theorem mc_facts {mc L cap:Nat} (h:mc+1<L) (hL:L≤1000) (hc:L≤cap):IntKind.i64.wrap ((mc:Int)+1)=((mc+1:Nat):Int)∧((mc+1:Nat):Int)≤(L:Int)∧((mc+1:Nat):Int)≤(cap:Int)∧((mc+1:Nat):Int)<(L:Int)∧((mc+1:Nat):Int)<(cap:Int):=⟨by rw [IntKind.wrap_i64];omega,by omega,by omega,by omega,by omega⟩
/- a node's link and cells are others -/
theorem one_node {w:World} {pl pr:Nat} {vl vr:NV} {sl sr:Value} {l l2:List ByteArray} {s2:Value} {np:Nat} (hl:NB w pl vl sl) (hr:NB w pr vr sr) (hne:¬ pl=pr) {b:Nat} (hbr:b≤pr) :
    NB (((w.setCell ⟨pr,1,none⟩ (.int .i64 (np:Int))).setCell ⟨pr,2,none⟩ s2).drew) pl vl sl∧NB (((w.setCell ⟨pr,1,none⟩ (.int .i64 (np:Int))).setCell ⟨pr,2,none⟩ s2).drew) pr { vr with link:=np,cells:=l2 } s2∧NF b w (((w.setCell ⟨pr,1,none⟩ (.int .i64 (np:Int))).setCell ⟨pr,2,none⟩ s2).drew)∧(∀ a,StB w a l→StB (((w.setCell ⟨pr,1,none⟩ (.int .i64 (np:Int))).setCell ⟨pr,2,none⟩ s2).drew) a l):=by
  have g1:=set_grown w pr 1 (.int .i64 (np:Int))
  have g2:=set_grown (w.setCell ⟨pr,1,none⟩ (.int .i64 (np:Int))) pr 2 s2
  have b1:NB (w.setCell ⟨pr,1,none⟩ (.int .i64 (np:Int))) pr { vr with link:=np } sr:=by show (w.setCell ⟨pr,1,none⟩ (.int .i64 (np:Int))).heap[pr]? = _;rw [set_blk hr];rfl
  have b2:NB (w.setCell ⟨pr,1,none⟩ (.int .i64 (np:Int))) pl vl sl:=(g1.block pl (Array.getElem?_eq_some_iff.1 hl).1 (fun e=>by injection e with e;exact hne e)).trans hl
  refine ⟨?_,?_,?_,fun a ha=>?_⟩
  · show ((w.setCell ⟨pr,1,none⟩ (.int .i64 (np:Int))).setCell ⟨pr,2,none⟩ s2).heap[pl]? = _
    rw [g2.block pl (Array.getElem?_eq_some_iff.1 b2).1 (fun e=>by injection e with e;exact hne e)]
    exact b2
  · show ((w.setCell ⟨pr,1,none⟩ (.int .i64 (np:Int))).setCell ⟨pr,2,none⟩ s2).heap[pr]? = _
    rw [set_blk b1]
    rfl
  · exact (((NF.refl w).set g1 hbr (.inr ⟨_,hr⟩)).set g2 hbr (.inr ⟨_,b1⟩)).bel (drawnB _ 1)
  · rcases ha with ha | ⟨b,off,cur,e,hh,hc⟩
    · exact .inl ha
    · refine .inr ⟨b,off,cur,e,?_,hc⟩
      show ((w.setCell ⟨pr,1,none⟩ (.int .i64 (np:Int))).setCell ⟨pr,2,none⟩ s2).heap[b]? = _
      have h1:(w.setCell ⟨pr,1,none⟩ (.int .i64 (np:Int))).heap[b]? = some (.cells cur 9 (0,0)):=(g1.block b (Array.getElem?_eq_some_iff.1 hh).1 (fun e=>by injection e with e;exact ne_CC ⟨_,hr⟩ ⟨_,hh⟩ (by decide) e)).trans hh
      rw [g2.block b (Array.getElem?_eq_some_iff.1 h1).1 (fun e=>by injection e with e;exact ne_CC ⟨_,b1⟩ ⟨_,h1⟩ (by decide) e)]
      exact h1
section
variable {w w:World} {B D Gp:Nat} {V V':PV} {K:Pgs} {pk m:Nat} {A:Nat→PgV} {fl:List Nat} {pages tb root:Nat}
set_option maxRecDepth 20000 in
set_option maxHeartbeats 4000000 in
theorem cshare2 (h:TS w B D Gp V K pk m A fl pages) (hm:m≤39000) (ht:TB w tb Gp root) {b pl pr:Nat} {vl vr:NV} {sl sr:Value} {g off cap:Nat} {l:List ByteArray}
    (hl:NB w pl vl sl) (hr:NB w pr vr sr) (hbl:b≤pl) (hbr:b≤pr) (hne:¬ pl=pr) (hst:StB w (some ⟨g,off,none⟩) l) (hcap:l.length≤cap) (hlen:l.length≤1000) (hu:usedC l≤1500)
    (hkl:vl.kind=2) (hkr:vr.kind=2) (hmid0:midC l+1<l.length) (hsl:∃ x y z,sl=.slice x y z) (hsr:∃ x y z,sr=.slice x y z)
    (np:Nat) (hnp:numB (tx l (midC l)) ((tx l (midC l)).size - 4)=np) (h4:4≤(tx l (midC l)).size)
    (h1:okP ⟨2,vl.link,l.take (midC l)⟩) (h2:okP ⟨2,np,l.drop (midC l+1)⟩) (hn1:0<vl.num∧vl.num<pages∧¬ vl.num ∈ fl) (hn2:0<vr.num∧vr.num<pages∧¬ vr.num ∈ fl)
    (hk:kS (tx l (midC l))≤(tx l (midC l)).size∧(tx l (midC l)).size≤240) :
    Calls Tryz.prog 184 #[(.pointer (some ⟨tb,0,none⟩)),(.pointer (some ⟨pl,0,none⟩)),(.pointer (some ⟨pr,0,none⟩)),.slice (some ⟨g,off,none⟩) l.length cap] w fun e w'=>e=.returned (.string (keyB (tx l (midC l))))∧∃ V',TS w' B D Gp V' K pk (m+2) (updA (updA A vl.num ⟨2,vl.link,l.take (midC l)⟩) vr.num ⟨2,np,l.drop (midC l+1)⟩) fl pages∧TF b B w w' V V'∧NR w' pr { vr with link:=np,cells:=l.drop (midC l+1) }:=by
  obtain ⟨x1,y1,z1,rfl⟩:=hsl
  obtain ⟨x2,y2,z2,rfl⟩:=hsr
  have HM:=hide (cmiddle hst cap hcap (by omega) hlen)
  have H:=hide (h)
  have HTB:=hide (ht)
  have HL:=hide (hl)
  have HR:=hide (hr)
  have HST:=hide (hst)
  obtain ⟨mc,hmc⟩:∃ mc,midC l=mc:=⟨_,rfl⟩
  rw [hmc] at HM hmid0 h1 h2 hk hnp h4 ⊢
  have hmid:mc<l.length:=Nat.lt_of_succ_lt hmid0
  have HX:=hide (show (okP ⟨2,vl.link,l.take mc⟩∧okP ⟨2,np,l.drop (mc+1)⟩)∧(0<vl.num∧vl.num<pages∧¬ vl.num ∈ fl)∧(0<vr.num∧vr.num<pages∧¬ vr.num ∈ fl)∧(kS (tx l mc)≤(tx l mc).size∧(tx l mc).size≤240)∧m≤39000∧mc<l.length∧vl.kind=2∧vr.kind=2∧b≤pl∧b≤pr from ⟨⟨h1,h2⟩,hn1,hn2,hk,hm,hmid,hkl,hkr,hbl,hbr⟩)
  have hlt1:(mc:Int)≤(l.length:Int):=by omega
  have hlt2:(mc:Int)≤(cap:Int):=by omega
  have hlt3:(mc:Int)<(l.length:Int):=by omega
  have hlc:(l.length:Int)≤(cap:Int):=by omega
  have HPO:=hide (fun X=>cpageOf (tx l mc) X h4 (by omega))
  rw [hnp] at HPO
  obtain ⟨hw2,hlt5,hlt6,hlt7,hlt8⟩:=mc_facts hmid0 hlen hcap
  clear h ht hl hr hst h1 h2 hn1 hn2 hk hmc hm hkl hkr
  go_enter Tryz.func184,Tryz.ntmps184
  go_wp2_with fail
  refine HM.out.mono ?_
  rintro e w1 ⟨rfl,hb1⟩
  obtain ⟨q1,s1⟩:=H.out.below hb1
  have nl1:=H.out.stayNB s1 HL.out
  have nr1:=H.out.stayNB s1 HR.out
  obtain ⟨u0,u1,u2,u3,u4,u5,u6,u7,u8⟩:=nl1.cells
  obtain ⟨t0,t1,t2,t3,t4,t5,t6,t7,t8⟩:=nr1.cells
  have fl2:=u7 2
  have fr2:=t7 2
  have HB1:=hide (hb1)
  rw [HX.out.2.2.2.2.2.2.1] at u0
  clear u7 t7 HM hb1
  generalize hLL:l.length=LL at *
  go_wp2_with fail
  go_region
  all_goals
    have HLL:=hide (hLL)
    obtain ⟨n1,n2,n3,n4⟩:=two_rows (l:=l) (l1:=l.take mc) (l2:=l.drop mc) (s1:=.slice (some ⟨g,off,none⟩) mc cap) (s2:=.slice (some ⟨g,off+mc,none⟩) (LL - mc) (cap - mc)) nl1 nr1 hne hbl hbr
    have q2:=n3.ts q1
    have st2:=n4 _ (HST.out.below HB1.out)
    have hx:=HX.out
    have tf2:TF b B w (((w1.setCell ⟨pl,2,none⟩ (.slice (some ⟨g,off,none⟩) mc cap)).setCell ⟨pr,2,none⟩ (.slice (some ⟨g,off+mc,none⟩) (LL - mc) (cap - mc))).drew) V V:=(H.out.tf s1 b).trans (n3.tf q1)
    obtain ⟨w0',w1',w2',w3',w4',w5',w6',w7',w8'⟩:=n1.cells
    rw [show ({ vl with cells:=l.take mc }:NV).kind=vl.kind from rfl,hx.2.2.2.2.2.2.1] at w0'
    obtain ⟨x0',x1',x2',x3',x4',x5',x6',x7',x8'⟩:=n2.cells
    have fx1:=x7' 1
    have fx2:=x7' 2
    obtain ⟨gb,goff,gcur,he,hgh,hgc⟩:=st2.resolve_left (fun e=>by have h1:=hx.2.2.2.2.2.1;have h2:=HLL.out;rw [e] at h2;simp at h2;omega)
    injection he with he
    injection he with he1 he2 _
    subst he1
    subst he2
    have hcell:(((w1.setCell ⟨pl,2,none⟩ (.slice (some ⟨g,off,none⟩) mc cap)).setCell ⟨pr,2,none⟩ (.slice (some ⟨g,off+mc,none⟩) (LL - mc) (cap - mc))).drew).cell? ⟨g,off+mc,none⟩=some (.string (tx l mc)):=by
      simp only [World.cell?,hgh]
      exact hgc mc (by rw [HLL.out];exact hx.2.2.2.2.2.1)
    have hglt:g<(((w1.setCell ⟨pl,2,none⟩ (.slice (some ⟨g,off,none⟩) mc cap)).setCell ⟨pr,2,none⟩ (.slice (some ⟨g,off+mc,none⟩) (LL - mc) (cap - mc))).drew).heap.size:=(Array.getElem?_eq_some_iff.1 hgh).1
    have HN1:=hide (n1)
    have HN2:=hide (n2)
    have HQ2:=hide (q2)
    have HTF2:=hide (tf2)
    have HST2:=hide (st2)
    clear n1 n2 n3 n4 q2 st2 tf2 hx w1' w2' w3' w4' w5' w6' w7' nl1 nr1 q1 s1 x0' x3' x4' x5' x6' x7' hgh hgc
    generalize hW2:((w1.setCell ⟨pl,2,none⟩ (.slice (some ⟨g,off,none⟩) mc cap)).setCell ⟨pr,2,none⟩ (.slice (some ⟨g,off+mc,none⟩) (LL - mc) (cap - mc))).drew=W2 at *
    clear hW2 u0 u1 u2 u3 u4 u5 u6 u8 t0 t1 t2 t3 t4 t5 t6 t8 fl2 fr2
    obtain ⟨cm,hcm⟩:∃ cm,tx l mc=cm:=⟨_,rfl⟩
    rw [hcm] at HPO hcell
    have HCM:=hide (hcm)
    clear hcm
    go_wp2_with fail
    go_region_with (go_at_call 161;refine (HPO.out _).mono ?_;rintro e w7 ⟨rfl,hw⟩;rw [hw];clear hw)
    all_goals
      obtain ⟨n1,n2,q2,tf2,st2⟩:=(⟨HN1.out,HN2.out,HQ2.out,HTF2.out,HST2.out⟩:_∧_∧_∧_∧_)
      obtain ⟨o1,o2,o3,o4⟩:=one_node (l:=l) (np:=np) (l2:=l.drop (mc+1)) (s2:=.slice (some ⟨g,off+(mc+1),none⟩) (LL - (mc+1)) (cap - (mc+1))) n1 n2 hne hbr
      have q3:=o3.ts q2
      have st3:=o4 _ st2
      have tf3:=tf2.trans (o3.tf q2)
      have hx:=HX.out
      have e1:(l.take mc).length=mc:=by have:=hx.2.2.2.2.2.1;simp;have:=HLL.out;omega
      have e2:(l.drop (mc+1)).length=LL - (mc+1):=by simp [HLL.out]
      generalize hW3:((W2.setCell ⟨pr,1,none⟩ (.int .i64 (np:Int))).setCell ⟨pr,2,none⟩ (.slice (some ⟨g,off+(mc+1),none⟩) (LL - (mc+1)) (cap - (mc+1)))).drew=W3 at *
      clear hW3
      have r1:NR W3 pl { vl with cells:=l.take mc }:=⟨_,cap,by rw [e1];exact o1,st3.take mc⟩
      have r2:NR W3 pr { vr with link:=np,cells:=l.drop (mc+1) }:=⟨_,cap - (mc+1),by rw [e2];exact o2,st3.drop (mc+1)⟩
      have tb3:=tf3.stayTB HTB.out
      have hp1:pgN { vl with cells:=l.take mc }=⟨2,vl.link,l.take mc⟩:=by unfold pgN;rw [show ({ vl with cells:=l.take mc }:NV).kind=vl.kind from rfl,hx.2.2.2.2.2.2.1]
      have hp2:pgN { vr with link:=np,cells:=l.drop (mc+1) }=⟨2,np,l.drop (mc+1)⟩:=by unfold pgN;rw [show ({ vr with link:=np,cells:=l.drop (mc+1) }:NV).kind=vr.kind from rfl,hx.2.2.2.2.2.2.2.1]
      have HW1:=hide (ctwrite q3 (by omega) tb3 r1 (by rw [hp1];exact hx.1.1) hx.2.1.1 hx.2.1.2.1 hx.2.1.2.2)
      have HR2:=hide (show _∧_∧_∧_∧_∧_ from ⟨q3,r2,tf3,tb3,hp1,hp2⟩)
      have HST3:=hide (st3)
      clear n1 n2 q2 tf2 st2 o1 o2 o3 o4 q3 st3 tf3 e1 e2 r1 r2 tb3 hp1 hp2 hx HN1 HN2 HQ2 HTF2 HST2 hcell fx1 fx2 w0' w8' x1' x2' x8' hglt HPO
      go_wp2_with fail
      refine HW1.out.mono ?_
      rintro e w3 ⟨rfl,V3,k1,k2⟩
      obtain ⟨q2,r2,tf2,tb2,hp1,hp2⟩:=HR2.out
      have hx:=HX.out
      have HW2:=hide (ctwrite k1 (by omega) (q2.stayTB k2 tb2) (q2.stayNR k2 r2) (by rw [hp2];exact hx.1.2) hx.2.2.1.1 hx.2.2.1.2.1 hx.2.2.1.2.2)
      rw [hp1,hp2] at HW2
      have HT3:=hide (show TS w3 B D Gp V3 K pk (m+1) (updA A vl.num ⟨2,vl.link,l.take mc⟩) fl pages∧TF b B w w3 V V3∧StB w3 (some ⟨g,off,none⟩) l∧NR w3 pr { vr with link:=np,cells:=l.drop (mc+1) } from ⟨by rw [← hp1];exact k1,tf2.trans (q2.tf k2 b),q2.staySt k2 HST3.out,q2.stayNR k2 r2⟩)
      clear k1 k2 q2 r2 tf2 tb2 hp1 hp2 hx HW1 HR2 HST3
      go_wp2_with fail
      refine HW2.out.mono ?_
      rintro e w4 ⟨rfl,V4,k1,k2⟩
      have hs4:=HT3.out.1.staySt k2 HT3.out.2.2.1
      have hx:=HX.out
      obtain ⟨gb,goff,gcur,he,hgh,hgc⟩:=hs4.resolve_left (fun e=>by have h1:=hx.2.2.2.2.2.1;have h2:=HLL.out;rw [e] at h2;simp at h2;omega)
      injection he with he
      injection he with he1 he2 _
      have hcell:w4.cell? ⟨g,off+mc,none⟩=some (.string (tx l mc)):=by
        rw [he1,he2]
        simp only [World.cell?,hgh]
        exact hgc mc (by rw [HLL.out];exact hx.2.2.2.2.2.1)
      have HK:=hide (ckeyOf (tx l mc) w4 hx.2.2.2.1.1 (by have:=hx.2.2.2.1.2;omega))
      have HFIN:=hide (show TS w4 B D Gp V4 K pk (m+1+1) (updA (updA A vl.num ⟨2,vl.link,l.take mc⟩) vr.num ⟨2,np,l.drop (mc+1)⟩) fl pages∧TF b B w w4 V V4∧NR w4 pr { vr with link:=np,cells:=l.drop (mc+1) } from ⟨k1,HT3.out.2.1.trans (HT3.out.1.tf k2 b),HT3.out.1.stayNR k2 HT3.out.2.2.2⟩)
      rw [HCM.out] at HK hcell
      clear k1 k2 hs4 hx hgh hgc he1 he2 HT3 HW2
      go_wp2_with fail
      refine HK.out.mono ?_
      rintro e w5 ⟨rfl,hw⟩;rw [hw];clear hw
      go_wp2_with fail
      go_ret
      exact ⟨by rw [HCM.out];rfl,V4,HFIN.out⟩
end
end Go.Proofs.YtmgjdjjfeapcdaaGreat
