/- relstorekeep: (*shape).node at an inner node -/
import Derived.Test.YtmgjdjjfeapcdaaGreatTuI
import Derived.Deep.CutBlock
import Derived.Test.YtmgjdjjfeapcdaaGreatTuG
import Derived.Test.YtmgjdjjfeapcdaaGreatMgAX
namespace Go.Proofs.YtmgjdjjfeapcdaaGreat
open Go.RowKit Go.Lib Go.Maps Go.Sort
attribute [local go_sem ↓] Go.wp_at_zero Go.wp_at_succ
section
variable {w w':World} {B D Gp:Nat} {V V':PV} {K:Pgs} {pk m:Nat} {A:Nat→PgV} {fl:List Nat} {pages sp k:Nat} {va vb vc:Value} {lv ln:List Nat} {ks:List ByteArray}
set_option maxRecDepth 20000 in
set_option maxHeartbeats 8000000 in
theorem cnode1 {d:Nat} (IH:NodOk B D Gp K pk m A fl pages sp d) (h:TS w B D Gp V K pk m A fl pages) (hm:m≤50000) (hp:Sp w sp V k va vb vc lv ln ks true) (hB:B≤sp) {x:T (d+1)} {lo hi:ByteArray} (hb:Bnd (d+1) lo hi x) (hd:d≤1000) (hu:usedC (cellsT (d+1) x)≤1012) (hne:¬ cellsT (d+1) x=[]) (hf:∀ p ∈ x.kids,FilN d p.2) (root:Bool) (hr:root=true∨180≤usedC (cellsT (d+1) x)) (hA:∀ q ∈ nodT (d+1) x,A q.1=q.2) (hs:∀ n ∈ numsT (d+1) x,0<n∧n<pages) (hk:k+(nodT (d+1) x).length≤pages) (hL:lv.length+(lvsT (d+1) x).length≤1000000∧ln.length+(lvsT (d+1) x).length≤1000000∧ks.length+(entT (d+1) x).length≤1000000) :
    Calls Tryz.prog 21 #[(.pointer (some ⟨sp,0,none⟩)),(.pointer (some ⟨Gp,0,none⟩)),.int .i64 (x.num:Int),.string lo,.string hi,.bool root] w (nodP w sp B D Gp V K pk m A fl pages k vc lv ln ks (d+2) (nodT (d+1) x).length (lvsT (d+1) x) (entT (d+1) x)):=by
  obtain ⟨num,kids⟩:=x
  show Calls Tryz.prog 21 #[(.pointer (some ⟨sp,0,none⟩)),(.pointer (some ⟨Gp,0,none⟩)),.int .i64 (num:Int),.string lo,.string hi,.bool root] w _
  have hcl0:(cellsT (d+1) (⟨num,kids⟩:Inn (T d))).length+1=kids.length:=by
    have:0<(cellsT (d+1) (⟨num,kids⟩:Inn (T d))).length:=List.length_pos_iff.2 hne
    have e:(cellsT (d+1) (⟨num,kids⟩:Inn (T d))).length=kids.tail.length:=by show (kids.tail.map _).length=_;rw [List.length_map]
    rw [e,List.length_tail] at this
    rw [e,List.length_tail]
    omega
  have hn1:(nodT (d+1) (⟨num,kids⟩:Inn (T d))).length=1+(nodS kids).length:=by show (_ :: _:List (Nat × PgV)).length=_;rw [List.length_cons,Nat.add_comm];rfl
  have hin:∀ q ∈ nodS kids,q ∈ nodT (d+1) (⟨num,kids⟩:Inn (T d)):=fun q hq=>by show q ∈ _ :: _;exact List.mem_cons_of_mem _ hq
  have HCH:=hide (fun (W:World) (V1:PV) (a1:Option Addr) (c1:Nat) (h1:TS W B D Gp V1 K pk m A fl pages) (h2:Sp W sp V1 (k+1) va vb vc lv ln ks true) (base:Nat) (h4:W.ownsRow base 9 1 (.slice a1 (cellsT (d+1) (⟨num,kids⟩:Inn (T d))).length c1) (cellsT (d+1) (⟨num,kids⟩:Inn (T d))).length (valsS (cellsT (d+1) (⟨num,kids⟩:Inn (T d))))) (h5:∀ g,(Value.slice a1 (cellsT (d+1) (⟨num,kids⟩:Inn (T d))).length c1).ownBlock=some g→¬ vc.ownBlock=some g)=>cchildrenS IH h1 h2 hb (by have:0<(cellsT (d+1) (⟨num,kids⟩:Inn (T d))).length:=List.length_pos_iff.2 hne;omega) (by have:=used_len4 (l:=cellsT (d+1) (⟨num,kids⟩:Inn (T d)));omega) hd hf (fun q hq=>hA q (hin q hq)) (fun q hq=>hs q.1 (List.mem_map.2 ⟨q,hin q hq,rfl⟩)) (by omega) hL rfl h4 h5)
  have HNE:Hid (¬ (cellsT (d+1) (⟨num,kids⟩:Inn (T d))).length=0):=fun e=>hne (List.length_eq_zero_iff.1 e)
  clear IH hf hcl0 hin hne
  have hl4:(cellsT (d+1) (⟨num,kids⟩:Inn (T d))).length≤400:=by have:=used_len4 (l:=cellsT (d+1) (⟨num,kids⟩:Inn (T d)));omega
  have hky:=Ky_of hb (by omega) 0
  have hnum:num ∈ numsT (d+1) (⟨num,kids⟩:Inn (T d)):=by show num ∈ List.map _ (_ :: _);simp
  have hnl:0<(nodT (d+1) (⟨num,kids⟩:Inn (T d))).length:=by omega
  have hAx:A num=⟨2,linkT (d+1) (⟨num,kids⟩:Inn (T d)),cellsT (d+1) (⟨num,kids⟩:Inn (T d))⟩:=hA (num,pgT (d+1) (⟨num,kids⟩:Inn (T d))) (by show _ ∈ _ :: _;simp)
  have hvc:∀ g,vc.ownBlock=some g→g<w.heap.size:=fun g hg=>(World.ownsRow.lt hp.rc g hg).2
  have HVC:=hide hvc
  clear hvc
  have HO:=hide (copenS h hm hp hB num (hs _ hnum).2 (by omega))
  rw [hAx] at HO
  have HK:=hide hky
  obtain ⟨cl,hcl⟩:∃ cl,cellsT (d+1) (⟨num,kids⟩:Inn (T d))=cl:=⟨_,rfl⟩
  have HKY:=hide (show (∀ j,j<cl.length→(0<(tx cl j).size∧kS (tx cl j)≤(tx cl j).size∧(tx cl j).size≤240)∧klt (keyB (tx cl j)) lo=false∧ltB (keyB (tx cl j)) hi)∧(∀ j,j+1<cl.length→klt (keyB (tx cl j)) (keyB (tx cl (j+1)))=true) from by
    rw [← hcl]
    exact ⟨fun j hj=>⟨⟨Nat.lt_of_lt_of_le (kS_in (tx (cellsT (d+1) (⟨num,kids⟩:Inn (T d))) j)).1 (hky.key j hj).1,(hky.key j hj).1,(hky.key j hj).2⟩,hky.low j hj,hky.high j hj⟩,fun j hj=>hky.ord j hj⟩)
  rw [hcl] at HO hu hr hl4 HCH HNE
  have HR:=hide hr
  clear hr
  have HU:=hide (And.intro hu hl4)
  obtain ⟨xl,hxl⟩:∃ xl,linkT (d+1) (⟨num,kids⟩:Inn (T d))=xl:=⟨_,rfl⟩
  rw [hxl] at HO HCH
  have HB:=hide hB
  have hsp:=hp.cells.2.2.2.2.2.2
  have HP:Hid (nodP w sp B D Gp V K pk m A fl pages k vc lv ln ks (d+2) (nodT (d+1) (⟨num,kids⟩:Inn (T d))).length (lvsT (d+1) (⟨num,kids⟩:Inn (T d))) (entT (d+1) (⟨num,kids⟩:Inn (T d)))=nodP w sp B D Gp V K pk m A fl pages k vc lv ln ks (d+2) (1+(nodS kids).length) (lvsS kids) (entS kids)):=by rw [hn1];rfl
  rw [HP.out]
  clear HP hn1
  generalize (nodS kids).length=cnt at *
  clear h hp hb hA hs hk hL hm hd hky hnum hnl hAx HK hB
  go_enter Tryz.func21,Tryz.ntmps21
  go_wp2_with fail
  refine HO.out.mono ?_
  rintro e w1 ⟨V1,v1,rfl,k1,k2,k3,k4⟩
  obtain ⟨va1,ca1,rfl,-⟩:=sta_own (L:=cl) k4
  have hb1:Below w1.heap.size w1 (w1.alloc (.cells #[.int .i64 2,.int .i64 (xl:Int),.slice va1 cl.length ca1] 82)):=((Below.refl _ _).alloc (Nat.le_refl _) _)
  obtain ⟨q1,s1⟩:=k1.below hb1
  have q2:=k1.staySp s1 k2
  have q3:=k3.trans (k1.hf s1 sp vc)
  have q4:=own_below k4 hb1
  have bx:=Bx3.new w1 (.int .i64 2) (.int .i64 (xl:Int)) (.slice va1 cl.length ca1)
  have HT:=hide (And.intro q1 (And.intro q2 (And.intro q3 (And.intro q4 bx))))
  clear k1 k2 k3 k4 q1 s1 q3 q2 q4 hb1 HO bx
  go_wp2_with fail
  obtain ⟨W,hW⟩:∃ W,w1.alloc (.cells #[.int .i64 2,.int .i64 (xl:Int),.slice va1 cl.length ca1] 82)=W:=⟨_,rfl⟩
  rw [hW] at HT ⊢
  clear hW
  go_loopw [14,15,28] (fun x14 x15 x28 X=>∃ j:Nat,j≤cl.length∧x14=.int .i64 (usedC (cl.take j):Int)∧x15=.string (lastK cl j)∧x28=.int .i64 (j:Int)∧X=W) (fun _ _ x28 _=>cl.length - (intOf x28).toNat)
  case atStart=>exact ⟨0,Nat.zero_le _,by simp [usedC],rfl,rfl,rfl⟩
  case round =>
    obtain ⟨j,hj,rfl,rfl,rfl,rfl⟩:=hrel
    obtain ⟨c0,c1,c2,c3,c4,c5,c6⟩:=HT.out.2.1.cells
    have f4:=c5 4
    have hsame:=HT.out.2.1.same
    by_cases hjc:j<cl.length
    · have hlt:(j:Int)<(cl.length:Int):=by omega
      have h0:(0:Int)≤(j:Int):=by omega
      obtain ⟨⟨e1,e2,e3⟩,e4,e5⟩:=HKY.out.1 j hjc
      have hord:j=0∨0<j∧klt (lastK cl j) (keyB (tx cl j))=true:=by
        cases j with
        | zero=>exact .inl rfl
        | succ j=>exact .inr ⟨by omega,HKY.out.2 j hjc⟩
      obtain ⟨g,cap,cur,hva,hbg,hg,hc1,hc2,hc3,-,hc5⟩:=own_cur (l:=cl) (n:=cl.length) HT.out.2.2.2.1 (by omega)
      injection hva with hva _ hca
      subst hva hca
      have hcell:wr.cell? ⟨g,j,none⟩=some (.string (tx cl j)):=by
        have:=hc5 j hjc
        simp only [World.cell?,hg]
        rw [this,tx_get hjc]
        simp [hjc]
      have hut:=used_takeS hjc
      have hul:=used_take_le cl (j+1)
      have HX:=hide (show j<cl.length∧usedC (cl.take (j+1))=usedC (cl.take j)+(4+(tx cl j).size)∧lastK cl (j+1)=keyB (tx cl j) from ⟨hjc,hut,rfl⟩)
      obtain ⟨us,hus⟩:∃ us,usedC (cl.take j)=us:=⟨_,rfl⟩
      have husb:us≤1012:=by have:=HU.out;omega
      rw [hus] at HX ⊢
      have bk:=bytS_get e1
      have bkl:=bytS_lt (tx cl j) 0
      have hkS:kS (tx cl j)=1+bytS (tx cl j) 0:=rfl
      have hkb:keyB (tx cl j)=(tx cl j).extract 1 (kS (tx cl j)):=rfl
      have hem:=empty_of (a:=tx cl j) (fun e=>by rw [e] at e1;exact absurd e1 (by decide))
      rw [hkS] at hkb e2
      generalize tx cl j=c at *
      generalize lastK cl j=lk at *
      generalize keyB c=kc at *
      generalize bytS c 0=b0 at *
      have e4':Op.bytesLess (c.extract 1 (1+b0)).toList lo.toList=false:=by rw [← hkb];exact e4
      clear hc1 hc2 hc3 hc5 hg hbg hut hul hus c0 c1 c2 c3 c5 e4 hkS hj
      have HKB:=hide hkb
      have hj0:j=0∨¬ (j:Int)=0:=by omega
      rcases e5 with e5 | e5
      · have hhi:hi.toList.isEmpty=true:=by rw [e5,ByteArray.toList_eq];rfl
        rcases hord with hord | hord
        · subst hord
          replace hcell:wr.cell? ⟨g,0,none⟩=some (.string c):=hcell
          replace hlt:(0:Int)<(cl.length:Int):=hlt
          clear hj0
          go_wp2_with fail
          first | refine ⟨⟨0+1,HX.out.1,?_,?_,rfl,trivial⟩,?_⟩ | refine ⟨⟨_,_,_,_,_,_,_,⟨0+1,HX.out.1,rfl,rfl,rfl⟩,rfl,?_,?_,rfl,rfl,rfl,rfl⟩,?_⟩
          · rw [HX.out.2.1]
            congr 1
          · rw [HX.out.2.2,HKB.out]
          · simp [intOf]
            have:=HX.out.1
            omega
        · rcases hj0 with hj0 | hj0
          · exact absurd hord.1 (by omega)
          · have hg1:Op.bytesLess (c.extract 1 (1+b0)).toList lk.toList=false:=by rw [← hkb];exact klt_asy hord.2
            have hg2:((c.extract 1 (1+b0)).toList == lk.toList)=false:=by rw [← hkb];exact beq_ne hord.2
            clear hord
            go_wp2_with fail
            first | refine ⟨⟨j+1,HX.out.1,?_,?_,by go_num,trivial⟩,?_⟩ | refine ⟨⟨_,_,_,_,_,_,_,⟨j+1,HX.out.1,rfl,rfl,rfl⟩,rfl,?_,?_,rfl,rfl,rfl,by go_num⟩,?_⟩
            · rw [HX.out.2.1]
              congr 1
            · rw [HX.out.2.2,HKB.out]
            · simp [intOf]
              have:=HX.out.1
              omega
      · have hhi:hi.toList.isEmpty=false:=empty_of (fun e=>by rw [e] at e5;revert e5;unfold klt;rw [show (⟨#[]⟩:ByteArray).toList=[] from by rw [ByteArray.toList_eq]];cases kc.toList <;> simp [Op.bytesLess])
        have hlh:Op.bytesLess (c.extract 1 (1+b0)).toList hi.toList=true:=by rw [← hkb];exact e5
        rcases hord with hord | hord
        · subst hord
          replace hcell:wr.cell? ⟨g,0,none⟩=some (.string c):=hcell
          replace hlt:(0:Int)<(cl.length:Int):=hlt
          clear hj0
          go_wp2_with fail
          first | refine ⟨⟨0+1,HX.out.1,?_,?_,rfl,trivial⟩,?_⟩ | refine ⟨⟨_,_,_,_,_,_,_,⟨0+1,HX.out.1,rfl,rfl,rfl⟩,rfl,?_,?_,rfl,rfl,rfl,rfl⟩,?_⟩
          · rw [HX.out.2.1]
            congr 1
          · rw [HX.out.2.2,HKB.out]
          · simp [intOf]
            have:=HX.out.1
            omega
        · rcases hj0 with hj0 | hj0
          · exact absurd hord.1 (by omega)
          · have hg1:Op.bytesLess (c.extract 1 (1+b0)).toList lk.toList=false:=by rw [← hkb];exact klt_asy hord.2
            have hg2:((c.extract 1 (1+b0)).toList == lk.toList)=false:=by rw [← hkb];exact beq_ne hord.2
            clear hord
            go_wp2_with fail
            first | refine ⟨⟨j+1,HX.out.1,?_,?_,by go_num,trivial⟩,?_⟩ | refine ⟨⟨_,_,_,_,_,_,_,⟨j+1,HX.out.1,rfl,rfl,rfl⟩,rfl,?_,?_,rfl,rfl,rfl,by go_num⟩,?_⟩
            · rw [HX.out.2.1]
              congr 1
            · rw [HX.out.2.2,HKB.out]
            · simp [intOf]
              have:=HX.out.1
              omega
    · have hje:j=cl.length:=by omega
      subst hje
      have hnlt:¬ (cl.length:Int)<(cl.length:Int):=by omega
      obtain ⟨us,hus⟩:∃ us,usedC (cl.take cl.length)=us:=⟨_,rfl⟩
      have hu1:root=true∨(180:Int)≤(us:Int):=by rw [← hus,List.take_length];exact HR.out.imp id (fun q=>by omega)
      rw [hus]
      obtain ⟨h1,h2,h3,h4,bx⟩:=HT.out
      have HC:=hide (HCH.out wr V1 va1 ca1 h1 h2 w.heap.size h4 (fun g e q=>by have:=(World.ownsRow.lt h4 g e).1;have:=HVC.out g q;omega))
      have HF3:=hide h3
      have x0:=bx.c0
      have x1:=bx.c1
      have x2:=bx.c2
      have xf:=bx.lt
      obtain ⟨xb,hxb⟩:∃ xb,w1.heap.size=xb:=⟨_,rfl⟩
      rw [hxb] at x0 x1 x2 xf ⊢
      have hne0:=HNE.out
      clear h1 h2 h3 h4 bx hus hjc hj HT HVC HKY hxb HCH
      go_upto_region 15 with fail
      go_cut [] (fun wx=>wx=wr)
      case first =>
        rcases hu1 with hu1 | hu1
        · subst hu1
          go_wp2_with fail
          go_meet
          case rel=>rfl
        · cases root with
          | true =>
            go_wp2_with fail
            go_meet
            case rel=>rfl
          | false =>
            go_wp2_with fail
            go_meet
            case rel=>rfl
      subst hcut
      go_wp2_with fail
      refine HC.out.mono ?_
      rintro e w2 ⟨rfl,V',va',vb',vc',hn⟩
      go_wp2_with fail
      go_ret
      refine ⟨rfl,V',va',vb',vc',?_⟩
      rw [← Nat.add_assoc]
      exact ⟨hn.ts,hn.shp,HF3.out.trans hn.hf⟩
end
end Go.Proofs.YtmgjdjjfeapcdaaGreat
namespace Go.Proofs.YtmgjdjjfeapcdaaGreat
open Go.RowKit Go.Lib Go.Maps Go.Sort
section
variable {w:World} {B D Gp:Nat} {V:PV} {K:Pgs} {pk m:Nat} {A:Nat→PgV} {fl:List Nat} {pages sp k:Nat} {va vb vc:Value} {lv ln:List Nat} {ks:List ByteArray}
theorem nod_ok (hm:m≤50000) (hB:B≤sp):∀ d,d≤1000→NodOk B D Gp K pk m A fl pages sp d
  | 0,_=>fun _ _ _ _ _ _ _ _ _ _ _ _ h hp hb hf hA hs hk hL=>cnode0 h hm hp hB hb hf.2 false (.inr hf.1) hA hs hk hL
  | d + 1, hd => fun _ _ _ _ _ _ _ _ _ x _ _ h hp hb hf hA hs hk hL => cnode1 (nod_ok hm hB d (by omega)) h hm hp hB hb (by omega) hf.1.2 (fun e => by
      have:=hf.1.1
      rw [e] at this
      exact absurd this (by decide)) hf.2 false (.inr hf.1.1) hA hs hk hL
theorem nod_root {d:Nat} {t:T d} {es:List Ent} (h:TS w B D Gp V K pk m A fl pages) (hm:m≤50000) (hp:Sp w sp V k va vb vc lv ln ks true) (hB:B≤sp) (hT:Tr A fl pages [] t es) (hd:d≤1000) (hk:k+(nodT d t).length≤pages) (hL:lv.length+(lvsT d t).length≤1000000∧ln.length+(lvsT d t).length≤1000000∧ks.length+(entT d t).length≤1000000) :
    Calls Tryz.prog 21 #[(.pointer (some ⟨sp,0,none⟩)),(.pointer (some ⟨Gp,0,none⟩)),.int .i64 (numT d t:Int),.string ⟨#[]⟩,.string ⟨#[]⟩,.bool true] w (nodP w sp B D Gp V K pk m A fl pages k vc lv ln ks (d+1) (nodT d t).length (lvsT d t) (entT d t)):=by
  have F:=hT.facts
  cases d with
  | zero=>exact cnode0 h hm hp hB F.bnd hT.ok.high true (.inl rfl) F.all F.num hk hL
  | succ d=>exact cnode1 (nod_ok hm hB d (by omega)) h hm hp hB F.bnd (by omega) hT.ok.high (hT.ok.some.resolve_left (by omega)) hT.ok.kids true (.inl rfl) F.all F.num hk hL
end
end Go.Proofs.YtmgjdjjfeapcdaaGreat
