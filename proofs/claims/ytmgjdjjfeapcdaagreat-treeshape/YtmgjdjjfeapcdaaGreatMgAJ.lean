/- package pool: grow, Alloc -/
import Derived.Test.YtmgjdjjfeapcdaaGreatMgAI
import Derived.Test.YtmgjdjjfeapcdaaGreatSrt
import Derived.Shelf.SortM.Plain
import Derived.Shelf.SortM.SortNone
namespace Go.Proofs.YtmgjdjjfeapcdaaGreat
open Go.RowKit Go.Lib Go.Maps Go.Sort
attribute [local go_sem ↓] Go.wp_at_zero Go.wp_at_succ
theorem updR_updR (F:Int→Option FrP) (n:Int) (x y:FrP):updR (updR F n x) n y=updR F n y:=by
  funext k
  unfold updR
  split <;> rfl
theorem poolC_pages (b:Bk) (P:PS):(poolC b P).setIfInBounds 2 (.int .i64 ((P.pages:Int)+1))=poolC b { P with pages:=P.pages+1 }:=by
  unfold poolC
  simp
set_option maxRecDepth 20000 in
set_option maxHeartbeats 2000000 in
theorem cgrow {w:World} {B D Gp:Nat} {V:PV} {C K:Pgs} {pk m:Nat} (h:PO w B D Gp V C K pk m) (hm:m≤49000) (hp:V.P.pages<59000) :
    Calls Tryz.prog 124 #[(.pointer (some ⟨Gp,0,none⟩))] w fun e w'=>∃ V',St2 w w' B V V'∧V'.P.free=V.P.free∧((e=.returned (.tuple #[.int .i64 (V.P.pages:Int),.int .i64 0])∧V'.P.pages=V.P.pages+1∧PO w' B D Gp V' (wth C V.P.pages (pgB 3 0)) K pk (m+1))∨(e=.returned (.tuple #[.int .i64 0,.int .i64 2])∧V'.S.down=true∧PO w' B D Gp V' C K pk m)):=by
  obtain ⟨c0,c1,c2,c3,c4,c5,c6,c7,c8,c9⟩:=h.pp.cells
  have hlt:¬ (65536:Int)≤(V.P.pages:Int):=by omega
  have HP:=hide (h)
  clear h c0 c1 c3 c4 c5 c6 c7 c8 c9
  go_enter Tryz.func124,Tryz.ntmps124
  go_wp2_with fail
  refine (csealB (K:=3) (Lk:=0) ⟨by decide,by decide⟩ (by decide) none 0 _).mono ?_
  rintro e w1 ⟨rfl,hb1⟩
  obtain ⟨p1,s1⟩:=HP.out.below hb1
  have HS1:=hide (s1)
  have HM:=hide (cmakeRoom p1 (by omega))
  clear p1 s1 hb1 c2 hlt
  go_wp2_with fail
  refine HM.out.mono ?_
  rintro e w2 ⟨V1,k1,k2,k3,k4,k5,k6,(⟨rfl,k7⟩ | ⟨rfl,k7⟩)⟩
  · obtain ⟨c0,c1,c2,c3,c4,c5,c6,c7,c8,c9⟩:=k1.pp.cells
    have z2:=k1.pp.unfrozen 2
    have hw:wrap64 ((V1.P.pages:Int)+1)=(V1.P.pages:Int)+1:=by
      unfold wrap64
      have:=k1.pi.pg
      omega
    have hmo:=k1.pi.most
    have hch:=k1.pi.pg
    have h3:PP (w2.setCell ⟨Gp,2,none⟩ (.int .i64 ((V1.P.pages:Int)+1))) B D Gp V1.b { V1.P with pages:=V1.P.pages+1 } V1.L V1.S:=k1.pp.own (poolC_pages _ _) rfl rfl rfl
    have hb3:=k1.pp.own_bel 2 (.int .i64 ((V1.P.pages:Int)+1)) k1.lo
    have hfn:V1.P.fs (V1.P.pages:Int)=none:=by
      cases hq:V1.P.fs (V1.P.pages:Int) with
      | none=>rfl
      | some f=>have:=(k1.pi.held hq).2.2.1;omega
    have hi64:i64 (V1.P.pages:Int):=i64_in (by omega) (by omega)
    have HH:=hide (chold (V1.P.pages:Int) (pgB 3 0) h3 (Nat.le_trans k1.lo hb3.size) hi64 (by show V1.P.order.length≤63;omega) (fun x hx=>(k1.pi.keys x).2 hx) hfn)
    have HP1:=hide (k1)
    have HS2:=hide (HS1.out.trans k2)
    have HB3:=hide (hb3)
    have HK:=hide (show V1.P.pages=V.P.pages∧V1.P.free=V.P.free∧V1.P.order.length<V1.P.most∧i64 (V1.P.pages:Int)∧V1.P.pages<59000 from ⟨k3,k4,k7,hi64,by omega⟩)
    clear k1 k2 k3 k4 k5 k6 k7 HM h3 hb3 hfn hi64 c0 c1 c3 c4 c5 c6 c7 c8 c9 hmo hch HS1
    generalize hW3:w2.setCell ⟨Gp,2,none⟩ (.int .i64 ((V1.P.pages:Int)+1))=w3 at *
    go_wp2_with fail
    refine HH.out.mono ?_
    rintro e w4 ⟨v,rfl,q1,q2⟩
    have hbd:=HK.out
    have HCH:=hide (cchange (V1.P.pages:Int) ⟨w3.heap.size,pgB 3 0,false⟩ (pgB 3 0) q1 (updR_at _ _ _) (Nat.le_trans HP1.out.lo (Nat.le_trans HB3.out.size q2.size)) hbd.2.2.2.1 HP1.out.chs)
    have HQ2:=hide (q2)
    clear q1 q2 HH hbd
    go_wp2_with fail
    refine HCH.out.mono ?_
    rintro e w5 ⟨rfl,q1,q2⟩
    have HQ1:=hide (q1)
    have HQ3:=hide (q2)
    clear q1 q2 HCH
    go_wp2
    go_ret2
    have hk:=HK.out
    refine ⟨⟨{ V1.b with vo:=v },chP { V1.P with pages:=V1.P.pages+1,fs:=updR V1.P.fs (V1.P.pages:Int) ⟨w3.heap.size,pgB 3 0,false⟩,order:=V1.P.order ++ [(V1.P.pages:Int)] } (V1.P.pages:Int) w3.heap.size (pgB 3 0),V1.L,V1.S,V1.N⟩,HS2.out.trans ⟨HB3.out.trans (HQ2.out.trans HQ3.out),id⟩,hk.2.1,.inl ⟨by rw [hk.1];rfl,by show V1.P.pages+1=_;rw [hk.1],⟨HQ1.out,?_,Nat.le_trans HP1.out.lo (Nat.le_trans HB3.out.size (Nat.le_trans HQ2.out.size HQ3.out.size))⟩⟩⟩
    have hpi:=HP1.out.pi.grow (s:=pgB 3 0) w3.heap.size (pgB_size _ _) hk.2.2.1 hk.2.2.2.2
    rw [← hk.1]
    unfold chP
    dsimp only
    rw [updR_updR]
    exact hpi
  · have HK:=hide (show St2 w w2 B V V1∧V1.P.free=V.P.free∧V1.S.down=true∧PO w2 B D Gp V1 C K pk m from ⟨HS1.out.trans k2,k4,k7,k1⟩)
    clear k1 k2 k3 k4 k5 k6 k7 HM
    go_wp2
    go_ret2
    exact ⟨V1,HK.out.1,HK.out.2.1,.inr ⟨rfl,HK.out.2.2⟩⟩
set_option maxRecDepth 20000 in
set_option maxHeartbeats 2000000 in
theorem calloc_new {w:World} {B D Gp:Nat} {V:PV} {C K:Pgs} {pk m:Nat} (h:PO w B D Gp V C K pk m) (hm:m≤49000) (hp:V.P.pages<59000) (hf:V.P.free=0) :
    Calls Tryz.prog 72 #[(.pointer (some ⟨Gp,0,none⟩))] w fun e w'=>∃ V',St2 w w' B V V'∧V'.P.free=V.P.free∧((e=.returned (.tuple #[.int .i64 (V.P.pages:Int),.int .i64 0])∧V'.P.pages=V.P.pages+1∧PO w' B D Gp V' (wth C V.P.pages (pgB 3 0)) K pk (m+1))∨(e=.returned (.tuple #[.int .i64 0,.int .i64 2])∧V'.S.down=true∧PO w' B D Gp V' C K pk m)):=by
  obtain ⟨c0,c1,c2,c3,c4,c5,c6,c7,c8,c9⟩:=h.pp.cells
  rw [hf] at c3
  have HG:=hide (cgrow h hm hp)
  clear h c0 c1 c2 c4 c5 c6 c7 c8 c9
  go_enter Tryz.func72,Tryz.ntmps72
  go_wp2_with fail
  refine HG.out.mono ?_
  rintro e w1 ⟨V1,k1,k2,(⟨rfl,k3,k4⟩ | ⟨rfl,k3,k4⟩)⟩
  · have HK:=hide (show St2 w w1 B V V1∧V1.P.free=V.P.free∧V1.P.pages=V.P.pages+1∧PO w1 B D Gp V1 (wth C V.P.pages (pgB 3 0)) K pk (m+1) from ⟨k1,k2,k3,k4⟩)
    clear k1 k2 k3 k4 HG
    go_wp2
    go_ret2
    exact ⟨V1,HK.out.1,HK.out.2.1,.inl ⟨rfl,HK.out.2.2⟩⟩
  · have HK:=hide (show St2 w w1 B V V1∧V1.P.free=V.P.free∧V1.S.down=true∧PO w1 B D Gp V1 C K pk m from ⟨k1,k2,k3,k4⟩)
    clear k1 k2 k3 k4 HG
    go_wp2
    go_ret2
    exact ⟨V1,HK.out.1,HK.out.2.1,.inr ⟨rfl,HK.out.2.2⟩⟩
set_option maxRecDepth 20000 in
set_option maxHeartbeats 2000000 in
theorem calloc_old {w:World} {B D Gp:Nat} {V:PV} {C K:Pgs} {pk m:Nat} (h:PO w B D Gp V C K pk m) (hm:m≤48000) (h0:0<V.P.free) (h1:V.P.free<V.P.pages) {nx:Nat} (hn:nx≤2147483647) (hC:C V.P.free=some (pgB 3 nx)) (hC0:C 0=some (pgB 4 V.P.free)) :
    Calls Tryz.prog 72 #[(.pointer (some ⟨Gp,0,none⟩))] w fun e w'=>∃ V' C',St2 w w' B V V'∧V'.P.pages=V.P.pages∧PO w' B D Gp V' C' K pk (m+2)∧((e=.returned (.tuple #[.int .i64 (V.P.free:Int),.int .i64 0])∧V'.P.free=nx∧C'=wth (wth C 0 (pgB 4 nx)) V.P.free (pgB 3 0))∨(e=.returned (.tuple #[.int .i64 0,.int .i64 2])∧V'.S.down=true)):=by
  obtain ⟨c0,c1,c2,c3,c4,c5,c6,c7,c8,c9⟩:=h.pp.cells
  have hpg:=h.pi.pg
  have hf0:¬ (V.P.free:Int)=0:=by omega
  have hf1:((V.P.free:Int) == 0)=false:=by simp;omega
  have HO:=hide (copened h (by omega) (V.P.free:Int) (by omega) (by omega) (kd:=3) (lk:=nx) ⟨by decide,by decide⟩ hn hC)
  have HN:=hide (show 0<V.P.free∧V.P.free<V.P.pages∧V.P.pages≤59000 from ⟨h0,h1,hpg.2.2⟩)
  have HC0:=hide (hC0)
  have HLO:=hide (h.lo)
  clear h hpg c0 c1 c2 c4 c5 c6 c7 c8 c9 hC hC0 h0 h1
  go_enter Tryz.func72,Tryz.ntmps72
  go_wp2_with fail
  refine HO.out.mono ?_
  rintro e w1 ⟨V1,k1,k2,k3,k4,(⟨a,c,rfl⟩ | ⟨rfl,k5⟩)⟩
  · have HS1:=hide (k2)
    have HP1:=hide (k1)
    have HK:=hide (show V1.P.pages=V.P.pages∧V1.P.free=V.P.free from ⟨k3,k4⟩)
    have hq:=HN.out
    have HU:=hide (fun (W:World) (hW:PO W B D Gp V1 C K pk m)=>csetFree hW (by omega) nx hn (fr:=V.P.free) (by omega) HC0.out)
    clear k1 k2 k3 k4 HO c3
    go_wp2_with fail
    refine (HU.out _ ?hPO).mono ?_
    case hPO=>exact (HP1.out.below (((Below.refl _ _).alloc (Nat.le_refl _) _))).1
    rintro e w2 ⟨V2,j1,j2,(⟨rfl,j3,j4⟩ | ⟨rfl,j3,j4⟩)⟩
    · have hX:Bx3 w2 w1.heap.size (.int .i64 3) (.int .i64 nx) (.slice a 0 c):=(HP1.out.below (((Below.refl _ _).alloc (Nat.le_refl _) _))).1.stay j1 (Bx3.new _ _ _ _) (by decide)
      have x0:=hX.c0
      have x1:=hX.c1
      have x2:=hX.c2
      have y1:=hX.fz 1
      have y2:=hX.fz 2
      have hXlt:=hX.lt
      have HX:=hide (hX)
      have HP2:=hide (j4)
      have hle:=HS1.out.bel.size
      have HS2:Hid (St2 w w2 B V V2):=(HS1.out.trans (HP1.out.below (((Below.refl _ _).alloc (Nat.le_refl _) _))).2).trans j1
      have HK2:=hide (show V2.P.pages=V.P.pages∧V2.P.free=nx from ⟨by rw [j2];exact HK.out.1,j3⟩)
      have HU2:=hide (fun (W:World) (hW:PO W B D Gp V2 (wth C 0 (pgB 4 nx)) K pk (m+1))=>csealP hW (by omega) (V.P.free:Int) (by omega) (by have:=HK2.out.1;omega) (kd:=3) (lk:=0) ⟨by decide,by decide⟩ (by decide) none 0)
      clear j1 j2 j3 j4 HU hX
      go_wp2_with fail
      refine (HU2.out _ ?hPO).mono ?_
      case hPO=>exact HP2.out.other (c:=w1.heap.size) (((But.refl _ _).set 1 _).set 2 _) ⟨_,HX.out⟩ (by decide)
      rintro e w3 ⟨V3,l1,l2,l3,(⟨rfl,l4⟩ | ⟨rfl,l4,l5⟩)⟩
      · have HR:=hide (show St2 w w3 B V V3∧V3.P.pages=V.P.pages∧V3.P.free=nx∧PO w3 B D Gp V3 (wth (wth C 0 (pgB 4 nx)) V.P.free (pgB 3 0)) K pk (m+2) from ⟨(HS2.out.other (c:=w1.heap.size) (((But.refl _ _).set 1 _).set 2 _) hle HLO.out).trans l1,by rw [l2];exact HK2.out.1,by rw [l3];exact HK2.out.2,l4⟩)
        clear l1 l2 l3 l4 HU2
        go_wp2
        go_ret2
        exact ⟨V3,_,HR.out.1,HR.out.2.1,HR.out.2.2.2,.inl ⟨rfl,HR.out.2.2.1,rfl⟩⟩
      · have HR:=hide (show St2 w w3 B V V3∧V3.P.pages=V.P.pages∧V3.S.down=true∧PO w3 B D Gp V3 (wth C 0 (pgB 4 nx)) K pk (m+2) from ⟨(HS2.out.other (c:=w1.heap.size) (((But.refl _ _).set 1 _).set 2 _) hle HLO.out).trans l1,by rw [l2];exact HK2.out.1,l4,l5.mono (by omega)⟩)
        clear l1 l2 l3 l4 l5 HU2
        go_wp2
        go_ret2
        exact ⟨V3,_,HR.out.1,HR.out.2.1,HR.out.2.2.2,.inr ⟨rfl,HR.out.2.2.1⟩⟩
    · have HR:=hide (show St2 w w2 B V V2∧V2.P.pages=V.P.pages∧V2.S.down=true∧PO w2 B D Gp V2 C K pk (m+2) from ⟨(HS1.out.trans (HP1.out.below (((Below.refl _ _).alloc (Nat.le_refl _) _))).2).trans j1,by rw [j2];exact HK.out.1,j3,j4.mono (by omega)⟩)
      clear j1 j2 j3 j4 HU
      go_wp2
      go_ret2
      exact ⟨V2,_,HR.out.1,HR.out.2.1,HR.out.2.2.2,.inr ⟨rfl,HR.out.2.2.1⟩⟩
  · have HP1:=hide (k1)
    have HR:=hide (show St2 w w1 B V V1∧V1.P.pages=V.P.pages∧V1.S.down=true from ⟨k2,k3,k5⟩)
    clear k1 k2 k3 k4 k5 HO
    go_wp2
    go_ret2
    exact ⟨V1,C,HR.out.1.trans (HP1.out.below (((Below.refl _ _).alloc (Nat.le_refl _) _))).2,HR.out.2.1,((HP1.out.below (((Below.refl _ _).alloc (Nat.le_refl _) _))).1).mono (by omega),.inr ⟨rfl,HR.out.2.2⟩⟩
end Go.Proofs.YtmgjdjjfeapcdaaGreat
namespace Go.Proofs.YtmgjdjjfeapcdaaGreat
open Go.RowKit Go.Lib Go.Maps Go.Sort Go.Shelf
attribute [local go_sem ↓] Go.wp_at_zero Go.wp_at_succ
section
variable {ops:Array Oper} {rest:List Oper} {o:Oper} {a:Act} {Q:Exit→Act→World→Prop}
end
end Go.Proofs.YtmgjdjjfeapcdaaGreat
namespace Go.Proofs.YtmgjdjjfeapcdaaGreat
open Go.RowKit Go.Lib Go.Maps Go.Sort Go.Shelf
attribute [local go_sem ↓] Go.wp_at_zero Go.wp_at_succ
theorem cpages (X:World) (B D G bp bf n:Nat) (L:LS) (S:DS) (h:PL X B D G bp bf n L S) :
    Calls Tryz.prog 29 #[(.pointer (some ⟨G,0,none⟩))] X fun e w'=>e=.returned (.int .i64 L.last.pages)∧w'=X:=by
  obtain ⟨c0,c1,c2,c3,c4,c5,c6,c7⟩:=h.cells
  clear h
  go_enter Tryz.func29,Tryz.ntmps29
  go_wp2_with fail
  go_ret
  exact ⟨rfl,rfl⟩
end Go.Proofs.YtmgjdjjfeapcdaaGreat
