/- relstorekeep: (*shape).node at a leaf -/
import Derived.Test.YtmgjdjjfeapcdaaGreatTuF
import Derived.Deep.CutBlock
namespace Go.Proofs.YtmgjdjjfeapcdaaGreat
open Go.RowKit Go.Lib Go.Maps Go.Sort
attribute [local go_sem ↓] Go.wp_at_zero Go.wp_at_succ
theorem leafE {A:Nat→PgV} {pages k m B sp:Nat} {x:T 0} {lo hi:ByteArray} {lv ln:List Nat} {ks:List ByteArray} (hb:Bnd 0 lo hi x) (hA:∀ q ∈ nodT 0 x,A q.1=q.2) (hs:∀ n ∈ numsT 0 x,0<n∧n<pages) (hk:k+(nodT 0 x).length≤pages) (hL:lv.length+(lvsT 0 x).length≤1000000∧ln.length+(lvsT 0 x).length≤1000000∧ks.length+(entT 0 x).length≤1000000) (hm:m≤50000) (hB:B≤sp) :
    (cellsT 0 x=x.its.map cellI∧(entT 0 x).map (·.1)=x.its.map (·.key))∧(∀ i ∈ x.its,okI i∧(∀ p ∈ i.pgs,0<p∧p<pages)∧(∀ q ∈ nodI i,A q.1=q.2)∧(nodI i).length=i.pgs.length)∧lv.length≤999999∧(ln.length≤999999∧ks.length+x.its.length≤1000000)∧k+1+(x.its.flatMap nodI).length≤pages∧m≤50000∧B≤sp:=by
  have e1:(lvsT 0 x).length=1:=rfl
  have e2:(nodT 0 x).length=(x.its.flatMap nodI).length+1:=by show (_ :: _:List (Nat × PgV)).length=_;rw [List.length_cons]
  have e3:(entT 0 x).length=x.its.length:=by show (x.its.map _).length=_;simp
  refine ⟨⟨rfl,by show (x.its.map _).map _=_;rw [List.map_map];rfl⟩,fun i hi'=>?_,by omega,⟨by omega,by omega⟩,by omega,hm,hB⟩
  have ok:=(BI_mem (show BI lo x.its hi from hb) i hi').1
  have hn:∀ q ∈ nodI i,q ∈ nodT 0 x:=fun q hq=>by
    show q ∈ _ :: _
    exact List.mem_cons_of_mem _ (List.mem_flatMap.2 ⟨i,hi',hq⟩)
  refine ⟨ok,fun p hp=>hs p ?_,fun q hq=>hA q (hn q hq),?_⟩
  · rw [← nodI_fst ok] at hp
    obtain ⟨q,hq,rfl⟩:=List.mem_map.1 hp
    exact List.mem_map.2 ⟨q,hn q hq,rfl⟩
  · have:=congrArg List.length (nodI_fst ok)
    simpa using this
theorem flat_take {its:List It} {j:Nat} (h:j<its.length):(its.take (j+1)).flatMap nodI=(its.take j).flatMap nodI ++ nodI its[j]∧((its.take (j+1)).flatMap nodI).length≤(its.flatMap nodI).length:=by
  constructor
  · rw [take_snoc h,List.flatMap_append]
    congr 1
    simp [List.flatMap]
  · have a:=congrArg List.length (List.flatMap_append (xs:=its.take (j+1)) (ys:=its.drop (j+1)) (f:=nodI))
    rw [List.take_append_drop,List.length_append] at a
    omega
section
variable {w w':World} {B D Gp:Nat} {V V':PV} {K:Pgs} {pk m:Nat} {A:Nat→PgV} {fl:List Nat} {pages sp k:Nat} {va vb vc:Value} {lv ln:List Nat} {ks:List ByteArray}
set_option maxRecDepth 20000 in
set_option maxHeartbeats 8000000 in
theorem cnode0 (h:TS w B D Gp V K pk m A fl pages) (hm:m≤50000) (hp:Sp w sp V k va vb vc lv ln ks true) (hB:B≤sp) {x:T 0} {lo hi:ByteArray} (hb:Bnd 0 lo hi x) (hu:usedC (cellsT 0 x)≤1012) (root:Bool) (hr:root=true∨180≤usedC (cellsT 0 x)) (hA:∀ q ∈ nodT 0 x,A q.1=q.2) (hs:∀ n ∈ numsT 0 x,0<n∧n<pages) (hk:k+(nodT 0 x).length≤pages) (hL:lv.length+(lvsT 0 x).length≤1000000∧ln.length+(lvsT 0 x).length≤1000000∧ks.length+(entT 0 x).length≤1000000) :
    Calls Tryz.prog 21 #[(.pointer (some ⟨sp,0,none⟩)),(.pointer (some ⟨Gp,0,none⟩)),.int .i64 (x.num:Int),.string lo,.string hi,.bool root] w (nodP w sp B D Gp V K pk m A fl pages k vc lv ln ks 1 (nodT 0 x).length (lvsT 0 x) (entT 0 x)):=by
  have HE:=hide (leafE (x:=x) hb hA hs hk hL hm hB)
  have HSZ:=hide (cells_sz 0 hb)
  have hl4:(cellsT 0 x).length≤400:=by have:=used_len4 (l:=cellsT 0 x);omega
  have hky:=Ky_of hb (by omega) 0
  have hnum:x.num ∈ numsT 0 x:=by show x.num ∈ x.num :: _;simp
  have hnl:0<(nodT 0 x).length:=by show 0<(_ :: _).length;simp
  have hAx:A x.num=⟨1,x.link,cellsT 0 x⟩:=hA (x.num,pgT 0 x) (by show _ ∈ _ :: _;simp)
  have hvc:∀ g,vc.ownBlock=some g→g<w.heap.size:=fun g hg=>(World.ownsRow.lt hp.rc g hg).2
  have HVC:=hide hvc
  clear hvc
  have HO:=hide (copenS h hm hp hB x.num (hs _ hnum).2 (by omega))
  rw [hAx] at HO
  have HK:=hide hky
  obtain ⟨cl,hcl⟩:∃ cl,cellsT 0 x=cl:=⟨_,rfl⟩
  have HKY:=hide (show (∀ j,j<cl.length→(0<(tx cl j).size∧kS (tx cl j)≤(tx cl j).size∧(tx cl j).size≤240)∧klt (keyB (tx cl j)) lo=false∧ltB (keyB (tx cl j)) hi)∧(∀ j,j+1<cl.length→klt (keyB (tx cl j)) (keyB (tx cl (j+1)))=true) from by
    rw [← hcl]
    exact ⟨fun j hj=>⟨⟨Nat.lt_of_lt_of_le (kS_in (tx (cellsT 0 x) j)).1 (hky.key j hj).1,(hky.key j hj).1,(hky.key j hj).2⟩,hky.low j hj,hky.high j hj⟩,fun j hj=>hky.ord j hj⟩)
  rw [hcl] at HO hu hr hl4 HE HSZ
  have HR:=hide hr
  clear hr
  have HU:=hide (And.intro hu hl4)
  obtain ⟨xn,hxn⟩:∃ xn,x.num=xn:=⟨_,rfl⟩
  obtain ⟨xl,hxl⟩:∃ xl,x.link=xl:=⟨_,rfl⟩
  rw [hxn,hxl] at HO
  rw [hxn]
  have HB:=hide hB
  have hsp:=hp.cells.2.2.2.2.2.2
  have HP:Hid (nodP w sp B D Gp V K pk m A fl pages k vc lv ln ks 1 (nodT 0 x).length (lvsT 0 x) (entT 0 x)=nodP w sp B D Gp V K pk m A fl pages k vc lv ln ks 1 (1+(x.its.flatMap nodI).length) [(xn,xl)] (entT 0 x)):=by rw [← hxn,← hxl];show nodP _ _ _ _ _ _ _ _ _ _ _ _ _ _ _ _ _ _ ((_ :: _:List (Nat × PgV)).length) _ _=_;rw [List.length_cons,Nat.add_comm];rfl
  rw [HP.out]
  clear HP
  generalize x.its=its at *
  obtain ⟨cnt,hcnt⟩:∃ cnt,1+(its.flatMap nodI).length=cnt:=⟨_,rfl⟩
  rw [hcnt]
  have HCN:=hide hcnt
  clear hcnt
  clear h hp hb hA hs hk hL hm hky hnum hnl hAx HK hB
  go_enter Tryz.func21,Tryz.ntmps21
  go_wp2_with fail
  refine HO.out.mono ?_
  rintro e w1 ⟨V1,v1,rfl,k1,k2,k3,k4⟩
  obtain ⟨va1,ca1,rfl,-⟩:=sta_own (L:=cl) k4
  have hb1:Below w1.heap.size w1 (w1.alloc (.cells #[.int .i64 1,.int .i64 (xl:Int),.slice va1 cl.length ca1] 82)):=((Below.refl _ _).alloc (Nat.le_refl _) _)
  obtain ⟨q1,s1⟩:=k1.below hb1
  have q2:=k1.staySp s1 k2
  have q3:=k3.trans (k1.hf s1 sp vc)
  have q4:=own_below k4 hb1
  have bx:=Bx3.new w1 (.int .i64 1) (.int .i64 (xl:Int)) (.slice va1 cl.length ca1)
  have HT:=hide (And.intro q1 (And.intro q2 (And.intro q3 (And.intro q4 bx))))
  clear k1 k2 k3 k4 q1 s1 q3 q2 q4 hb1 HO bx
  go_wp2_with fail
  obtain ⟨W,hW⟩:∃ W,w1.alloc (.cells #[.int .i64 1,.int .i64 (xl:Int),.slice va1 cl.length ca1] 82)=W:=⟨_,rfl⟩
  rw [hW] at HT ⊢
  clear hW
  go_loopw [14,15,28] (fun x14 x15 x28 X=>∃ j:Nat,j≤cl.length∧x14=.int .i64 (usedC (cl.take j):Int)∧x15=.string (lastK cl j)∧x28=.int .i64 (j:Int)∧X=W) (fun _ _ x28 _=>cl.length - (intOf x28).toNat)
  case atStart=>exact ⟨0,Nat.zero_le _,by simp [usedC],rfl,rfl,rfl⟩
  case round =>
    obtain ⟨j,hj,rfl,rfl,rfl,rfl⟩:=hrel
    obtain ⟨c0,c1,c2,c3,c4,c5,c6⟩:=HT.out.2.1.cells
    have f4:=c5 4
    have hsame:=HT.out.2.1.same
    by_cases hjc:j<cl.length
    · have hlt:(j:Int)<(cl.length:Int):=by omega
      have h0:(0:Int)≤(j:Int):=by omega
      obtain ⟨⟨e1,e2,e3⟩,e4,e5⟩:=HKY.out.1 j hjc
      have hord:j=0∨0<j∧klt (lastK cl j) (keyB (tx cl j))=true:=by
        cases j with
        | zero=>exact .inl rfl
        | succ j=>exact .inr ⟨by omega,HKY.out.2 j hjc⟩
      obtain ⟨g,cap,cur,hva,hbg,hg,hc1,hc2,hc3,-,hc5⟩:=own_cur (l:=cl) (n:=cl.length) HT.out.2.2.2.1 (by omega)
      injection hva with hva _ hca
      subst hva hca
      have hcell:wr.cell? ⟨g,j,none⟩=some (.string (tx cl j)):=by
        have:=hc5 j hjc
        simp only [World.cell?,hg]
        rw [this,tx_get hjc]
        simp [hjc]
      have hut:=used_takeS hjc
      have hul:=used_take_le cl (j+1)
      have HX:=hide (show j<cl.length∧usedC (cl.take (j+1))=usedC (cl.take j)+(4+(tx cl j).size)∧lastK cl (j+1)=keyB (tx cl j) from ⟨hjc,hut,rfl⟩)
      obtain ⟨us,hus⟩:∃ us,usedC (cl.take j)=us:=⟨_,rfl⟩
      have husb:us≤1012:=by have:=HU.out;omega
      rw [hus] at HX ⊢
      have bk:=bytS_get e1
      have bkl:=bytS_lt (tx cl j) 0
      have hkS:kS (tx cl j)=1+bytS (tx cl j) 0:=rfl
      have hkb:keyB (tx cl j)=(tx cl j).extract 1 (kS (tx cl j)):=rfl
      have hem:=empty_of (a:=tx cl j) (fun e=>by rw [e] at e1;exact absurd e1 (by decide))
      rw [hkS] at hkb e2
      generalize tx cl j=c at *
      generalize lastK cl j=lk at *
      generalize keyB c=kc at *
      generalize bytS c 0=b0 at *
      have e4':Op.bytesLess (c.extract 1 (1+b0)).toList lo.toList=false:=by rw [← hkb];exact e4
      clear hc1 hc2 hc3 hc5 hg hbg hut hul hus c0 c1 c2 c3 c5 e4 hkS hj
      have HKB:=hide hkb
      have hj0:j=0∨¬ (j:Int)=0:=by omega
      rcases e5 with e5 | e5
      · have hhi:hi.toList.isEmpty=true:=by rw [e5,ByteArray.toList_eq];rfl
        rcases hord with hord | hord
        · subst hord
          replace hcell:wr.cell? ⟨g,0,none⟩=some (.string c):=hcell
          replace hlt:(0:Int)<(cl.length:Int):=hlt
          clear hj0
          go_wp2_with fail
          first | refine ⟨⟨0+1,HX.out.1,?_,?_,rfl,trivial⟩,?_⟩ | refine ⟨⟨_,_,_,_,_,_,_,⟨0+1,HX.out.1,rfl,rfl,rfl⟩,rfl,?_,?_,rfl,rfl,rfl,rfl⟩,?_⟩
          · rw [HX.out.2.1]
            congr 1
          · rw [HX.out.2.2,HKB.out]
          · simp [intOf]
            have:=HX.out.1
            omega
        · rcases hj0 with hj0 | hj0
          · exact absurd hord.1 (by omega)
          · have hg1:Op.bytesLess (c.extract 1 (1+b0)).toList lk.toList=false:=by rw [← hkb];exact klt_asy hord.2
            have hg2:((c.extract 1 (1+b0)).toList == lk.toList)=false:=by rw [← hkb];exact beq_ne hord.2
            clear hord
            go_wp2_with fail
            first | refine ⟨⟨j+1,HX.out.1,?_,?_,by go_num,trivial⟩,?_⟩ | refine ⟨⟨_,_,_,_,_,_,_,⟨j+1,HX.out.1,rfl,rfl,rfl⟩,rfl,?_,?_,rfl,rfl,rfl,by go_num⟩,?_⟩
            · rw [HX.out.2.1]
              congr 1
            · rw [HX.out.2.2,HKB.out]
            · simp [intOf]
              have:=HX.out.1
              omega
      · have hhi:hi.toList.isEmpty=false:=empty_of (fun e=>by rw [e] at e5;revert e5;unfold klt;rw [show (⟨#[]⟩:ByteArray).toList=[] from by rw [ByteArray.toList_eq]];cases kc.toList <;> simp [Op.bytesLess])
        have hlh:Op.bytesLess (c.extract 1 (1+b0)).toList hi.toList=true:=by rw [← hkb];exact e5
        rcases hord with hord | hord
        · subst hord
          replace hcell:wr.cell? ⟨g,0,none⟩=some (.string c):=hcell
          replace hlt:(0:Int)<(cl.length:Int):=hlt
          clear hj0
          go_wp2_with fail
          first | refine ⟨⟨0+1,HX.out.1,?_,?_,rfl,trivial⟩,?_⟩ | refine ⟨⟨_,_,_,_,_,_,_,⟨0+1,HX.out.1,rfl,rfl,rfl⟩,rfl,?_,?_,rfl,rfl,rfl,rfl⟩,?_⟩
          · rw [HX.out.2.1]
            congr 1
          · rw [HX.out.2.2,HKB.out]
          · simp [intOf]
            have:=HX.out.1
            omega
        · rcases hj0 with hj0 | hj0
          · exact absurd hord.1 (by omega)
          · have hg1:Op.bytesLess (c.extract 1 (1+b0)).toList lk.toList=false:=by rw [← hkb];exact klt_asy hord.2
            have hg2:((c.extract 1 (1+b0)).toList == lk.toList)=false:=by rw [← hkb];exact beq_ne hord.2
            clear hord
            go_wp2_with fail
            first | refine ⟨⟨j+1,HX.out.1,?_,?_,by go_num,trivial⟩,?_⟩ | refine ⟨⟨_,_,_,_,_,_,_,⟨j+1,HX.out.1,rfl,rfl,rfl⟩,rfl,?_,?_,rfl,rfl,rfl,by go_num⟩,?_⟩
            · rw [HX.out.2.1]
              congr 1
            · rw [HX.out.2.2,HKB.out]
            · simp [intOf]
              have:=HX.out.1
              omega
    · have hje:j=cl.length:=by omega
      subst hje
      have hnlt:¬ (cl.length:Int)<(cl.length:Int):=by omega
      obtain ⟨us,hus⟩:∃ us,usedC (cl.take cl.length)=us:=⟨_,rfl⟩
      have hu1:root=true∨(180:Int)≤(us:Int):=by rw [← hus,List.take_length];exact HR.out.imp id (fun q=>by omega)
      rw [hus]
      obtain ⟨h1,h2,h3,h4,bx⟩:=HT.out
      have HN:=hide (show NoS w wr sp B D Gp V V1 K pk m A fl pages (k+1) va vb vc vc lv ln ks from ⟨h1,h2,h3⟩)
      have HRW:=hide (show wr.ownsRow w.heap.size 9 1 (.slice va1 cl.length ca1) cl.length (valsS cl)∧(∀ g,(Value.slice va1 cl.length ca1).ownBlock=some g→¬ vc.ownBlock=some g) from ⟨h4,fun g e q=>by have:=(World.ownsRow.lt h4 g e).1;have:=HVC.out g q;omega⟩)
      have HBX:=hide bx
      have x0:=bx.c0
      have x1:=bx.c1
      have x2:=bx.c2
      obtain ⟨aa,ca,rfl⟩:=own_form h2.ra
      obtain ⟨i0,hif,hz0,hz1,hz2⟩:=info_parts infoI8
      obtain ⟨xb,hxb⟩:∃ xb,w1.heap.size=xb:=⟨_,rfl⟩
      rw [hxb] at HBX x0 x1 x2 ⊢
      have HL:=hide (And.intro HE.out.2.2.1 HE.out.2.2.2.1)
      clear h1 h2 h3 h4 bx hus hjc hj HT HVC HKY hxb
      go_upto_region 15 with fail
      go_cut [] (fun wx=>wx=wr)
      case first =>
        rcases hu1 with hu1 | hu1
        · subst hu1
          go_wp2_with fail
          go_meet
          case rel=>rfl
        · cases root with
          | true =>
            go_wp2_with fail
            go_meet
            case rel=>rfl
          | false =>
            go_wp2_with fail
            go_meet
            case rel=>rfl
      subst hcut
      go_wp2_with (at_builtin;refine wpList_append_own_at _ rfl (.tmp 118) (.tmp 120) 42 rfl sp 3 i0 (.int .i64 0) 1 8 Tryz.underlying42 hif hz0 hz1 hz2 rfl (by decide) _ lv.length (intsN lv) rfl (World.ownsRow.alloc HN.out.shp.ra _) ⟨wc.heap.size,0,none⟩ 1 1 [.int .i64 (xn:Int)] rfl rfl (newsI _ _) (fun x hx=>by simp at hx;subst hx;rfl) ?c2 ?c3 ?c4 ?_)
      case c2=>unfold maxLen;have:=HL.out.1;omega
      case c3=>have:=HL.out.1;omega
      case c4=>first | omega | (simp;omega)
      intro v5 w5 ho5 hg5 _ hn5
      have HN2:=hide (HN.out.appA HB.out hg5 ho5 hn5)
      obtain ⟨⟨d1,d2,d3⟩,d4,d5⟩:=HN.out.cellsY hg5 (HN.out.shp.row_ne.1)
      obtain ⟨a5,c5,rfl⟩:=own_form ho5
      have d4':=d4 1
      have HR2:=hide (And.intro (HN2.out.2.row HRW.out.1 HRW.out.2) (HN2.out.2.bx HBX.out))
      clear ho5 hg5 hn5 x0 x1 x2 d4 d2 d3 HN HRW HBX
      go_wp2_with fail
      obtain ⟨X2,hX2⟩:∃ X2,w5.setCell ⟨sp,1,none⟩ (.slice a5 (lv.length+1) c5)=X2:=⟨_,rfl⟩
      rw [hX2] at HN2 HR2 ⊢
      clear hX2
      have HN3:=hide (HN2.out.1.below (show Below X2.heap.size X2 X2.drew from (Below.refl _ _).drew))
      have HR4:=hide (And.intro (own_below HR2.out.1.1 (show Below X2.heap.size X2 X2.drew from (Below.refl _ _).drew)) (And.intro HR2.out.1.2 (HR2.out.2.below (show Below X2.heap.size X2 X2.drew from (Below.refl _ _).drew))))
      have HR3:=hide (And.intro (HN3.out.ts) ((HR2.out.2.below (show Below X2.heap.size X2 X2.drew from (Below.refl _ _).drew))))
      obtain ⟨ab,cb,rfl⟩:=own_form HN2.out.1.shp.rb
      have e2:=HN2.out.1.shp.cells.2.2.1
      have x1:=HR2.out.2.c1
      have e6:=HN2.out.1.shp.cells.2.2.2.2.2.2
      have e7:=HR2.out.2.lt
      clear d1 d4' d5 c0 c1 c2 c3 c4 c6 f4 hsame hnlt
      go_cut [] (fun wx=>∃ v6,Hid (NoS w wx sp B D Gp V V1 K pk m A fl pages (k+1) (.slice a5 (lv.length+1) c5) v6 vc vc (lv ++ [xn]) (ln ++ [xl]) ks∧(wx.ownsRow w.heap.size 9 1 (.slice va1 cl.length ca1) cl.length (valsS cl)∧∀ g,(Value.slice va1 cl.length ca1).ownBlock=some g→¬ vc.ownBlock=some g)∧Bx3 wx xb (.int .i64 1) (.int .i64 (xl:Int)) (.slice va1 cl.length ca1)))
      case first =>
        go_region_law ((refine step_append_ownM rfl (.tmp 128) (.tmp 131) 42 (by rfl) sp 3 i0 (.int .i64 0) 1 8 Tryz.underlying42 hif hz0 hz1 hz2 rfl (by decide) (.slice ab ln.length cb) ln.length (intsN ln) (by rfl) (World.ownsRow.alloc HN3.out.shp.rb _) ⟨X2.heap.size,0,none⟩ 1 1 [.int .i64 (xl:Int)] (by rfl) rfl (newsI _ _) (fun x hx=>by simp at hx;subst hx;rfl) (by have:=HL.out.2.1;unfold maxLen;omega) (by have:=HL.out.2.1;omega) (by simp;omega) ?_;intro v6 w6 ho6 hg6 hn6;obtain ⟨⟨y1,y2,y3⟩,y4,y5⟩:=HN3.out.cellsY hg6 HN3.out.shp.row_ne.2.1;have y6:=(bx_far HR3.out.2 HN3.out.shp.rb (by decide) hg6).c1;have HN4:=hide (HN3.out.appB HB.out hg6 ho6 (by simpa using hn6));have y7:=y4 2;obtain ⟨a6,c6,rfl⟩:=own_form ho6;clear y4 y1 y3 ho6 hg6 hn6))
        all_goals
          go_wp2_with fail
          go_meet
          case rel=>exact ⟨_,HN4.out.1,HN4.out.2.row HR4.out.1 HR4.out.2.1,HN4.out.2.bx HR4.out.2.2⟩
      obtain ⟨v6,HN5⟩:=hcut
      have x2:=HN5.out.2.2.c2
      clear HN2 HN3 HR2 HR3 HR4 HL e2 x1 e6 e7
      go_wp2_with fail
      go_loopw [138] (fun x138 Y=>∃ (j:Nat) (Vi:PV) (vci:Value),j≤cl.length∧x138=.int .i64 (j:Int)∧Hid (NoS w Y sp B D Gp V Vi K pk m A fl pages (k+1+((its.take j).flatMap nodI).length) (.slice a5 (lv.length+1) c5) v6 vc vci (lv ++ [xn]) (ln ++ [xl]) (ks ++ (its.take j).map (·.key))∧Y.ownsRow w.heap.size 9 1 (.slice va1 cl.length ca1) cl.length (valsS cl)∧∀ g,(Value.slice va1 cl.length ca1).ownBlock=some g→¬ vci.ownBlock=some g)) (fun x138 _=>cl.length - (intOf x138).toNat)
      case atStart=>exact ⟨0,V1,vc,Nat.zero_le _,rfl,by simpa using ⟨HN5.out.1,HN5.out.2.1⟩⟩
      case round =>
        clear HN5 x2
        obtain ⟨j,Vi,vci,hj,rfl,HI⟩:=hrel
        by_cases hjc:j<cl.length
        · have hlt:(j:Int)<(cl.length:Int):=by omega
          have h0:(0:Int)≤(j:Int):=by omega
          have hjb:j<400:=by omega
          have hcm:cl=its.map cellI:=HE.out.1.1
          have hji:j<its.length:=by rw [hcm,List.length_map] at hjc;exact hjc
          obtain ⟨e1,e2,e3,e4⟩:=HE.out.2.1 its[j] (List.getElem_mem hji)
          have hc:tx cl j=cellI its[j]:=by rw [tx_get hjc];simp [hcm]
          obtain ⟨f1,f2⟩:=flat_take hji
          obtain ⟨k1,k2,-,-⟩:=cellI_key e1
          have kb:=cell_b0 e1
          obtain ⟨g,cap,cur,hva,hbg,hg,hc1,hc2,hc3,-,hc5⟩:=own_cur (l:=cl) (n:=cl.length) HI.out.2.1 (by omega)
          injection hva with hva _ hca
          subst hva hca
          have hcell:wr.cell? ⟨g,j,none⟩=some (.string (tx cl j)):=by
            have:=hc5 j hjc
            simp only [World.cell?,hg]
            rw [this,tx_get hjc]
            simp [hjc]
          obtain ⟨kl,hkl⟩:∃ kl,(ks ++ (its.take j).map (·.key)).length=kl:=⟨_,rfl⟩
          have hkb:kl≤1000000:=by
            rw [← hkl,List.length_append,List.length_map,List.length_take]
            have:=HE.out.2.2.2.1.2
            omega
          have hrc:=HI.out.1.shp.rc
          rw [hkl] at hrc
          obtain ⟨a7,c7,rfl⟩:=own_form hrc
          have HRC:=hide hrc
          have d3:=HI.out.1.shp.cells.2.2.2.1
          have d6:=HI.out.1.shp.cells.2.2.2.2.2.2
          obtain ⟨c,hcc⟩:∃ c,tx cl j=c:=⟨_,rfl⟩
          rw [hcc] at hcell hc
          have z1:0<c.size:=by rw [hc];exact Nat.lt_of_lt_of_le (kS_in (cellI its[j])).1 k2
          obtain ⟨b0,hb0⟩:∃ b0,bytS c 0=b0:=⟨_,rfl⟩
          have hk1:c.extract 1 (1+b0)=its[j].key:=by rw [← k1,← hb0,hc];rfl
          have z2:1+b0≤c.size:=by rw [← hb0,hc];exact k2
          have z3:c.size≤240:=by rw [← hcc,tx_get hjc];exact HSZ.out _ (List.getElem_mem hjc)
          have bk:=bytS_get z1
          have bl:=bytS_lt c 0
          rw [hb0] at bk bl
          have hw1:IntKind.i64.wrap (b0:Int)=(b0:Int):=by rw [IntKind.wrap_i64];omega
          have hw2:IntKind.i64.wrap (1+(b0:Int))=1+(b0:Int):=by rw [IntKind.wrap_i64];omega
          have hw3:(1+(b0:Int)).toNat=1+b0:=by omega
          have hw4:(0:Int)≤1+(b0:Int):=by omega
          have hw5:1+(b0:Int)≤(c.size:Int):=by omega
          have hw6:(1:Int)≤1+(b0:Int):=by omega
          have HM:=hide (fun (Z:World) (Vz:PV) (vz:Value) (hz:NoS w Z sp B D Gp V Vz K pk m A fl pages (k+1+((its.take j).flatMap nodI).length) (.slice a5 (lv.length+1) c5) v6 vc vz (lv ++ [xn]) (ln ++ [xl]) (ks ++ (its.take j).map (·.key) ++ [c.extract 1 (1+b0)]))=>cmoreC hz.ts HE.out.2.2.2.2.2.1 hz.shp HB.out its[j] e1 e2 e3 (show k+1+((its.take j).flatMap nodI).length+its[j].pgs.length≤pages by
            have:=HE.out.2.2.2.2.1
            rw [f1,List.length_append,e4] at f2
            omega) c hc b0 hb0)
          have HJ:=hide (And.intro hjc (And.intro f1 (And.intro e4 hk1)))
          have HND:=hide (HI.out.1.below (show Below wr.heap.size wr wr.drew from (Below.refl _ _).drew))
          have HRD:=hide (own_below HI.out.2.1 (show Below wr.heap.size wr wr.drew from (Below.refl _ _).drew))
          have HFR:=hide HI.out.2.2
          have HJT:=hide (show (its.take (j+1)).map (·.key)=(its.take j).map (·.key) ++ [its[j].key] from by rw [take_snoc hji,List.map_append];rfl)
          obtain ⟨i1,hif1,hy0,hy1,hy2⟩:=info_parts infoS
          clear hc5 hg hbg hc1 hc2 hc3 e1 e2 e3 e4 k1 k2 kb f1 f2 hc hcm hcc hb0 hk1 hrc hj hjc
          go_upto_region 24 with fail
          go_cut [] (fun wx=>∃ v8,Hid (NoS w wx sp B D Gp V Vi K pk m A fl pages (k+1+((its.take j).flatMap nodI).length) (.slice a5 (lv.length+1) c5) v6 vc v8 (lv ++ [xn]) (ln ++ [xl]) (ks ++ (its.take j).map (·.key) ++ [c.extract 1 (1+b0)])∧wx.ownsRow w.heap.size 9 1 (.slice (some ⟨g,0,none⟩) cl.length ca1) cl.length (valsS cl)∧∀ g',(Value.slice (some ⟨g,0,none⟩) cl.length ca1).ownBlock=some g'→¬ v8.ownBlock=some g'))
          case first =>
            go_region_law ((refine step_append_ownM rfl (.tmp 146) (.tmp 153) 43 (by rfl) sp 9 i1 (.string ⟨#[]⟩) 1 16 Tryz.underlying43 hif1 hy0 hy1 hy2 rfl (by decide) (.slice a7 kl c7) kl (valsS (ks ++ (its.take j).map (·.key))) (by rfl) (World.ownsRow.alloc (show wr.drew.ownsRow _ _ _ _ _ _ from HRC.out) _) ⟨wr.heap.size,0,none⟩ 1 1 [.string (c.extract 1 (1+b0))] (by rfl) rfl (newsS _ _) (fun x hx=>by simp at hx;subst hx;rfl) (by unfold maxLen;omega) (by omega) (by simp;omega) ?_;intro v8 w8 ho8 hg8 hn8;obtain ⟨⟨y1,y2,y3⟩,y4,y5⟩:=HND.out.cellsY hg8 HND.out.shp.row_ne.2.2;have HN8:=hide (HND.out.appC HB.out hg8 (by rw [hkl];exact ho8) (by simpa using hn8));have y7:=y4 3;obtain ⟨a8,c8,rfl⟩:=own_form ho8;clear y4 y1 y2 ho8 hg8 hn8))
            all_goals
              go_wp2_with fail
              go_meet
              case rel=>exact ⟨_,HN8.out.1,HN8.out.2.row HRD.out HFR.out⟩
          obtain ⟨v8,HN9⟩:=hcut
          have HM2:=hide (HM.out wc.drew Vi v8 (HN9.out.1.below ((Below.refl _ _).drew)))
          have hrest:(c.size:Int).toNat=c.size:=by omega
          have hw7:1+(b0:Int)≤(c.size:Int):=hw5
          clear HI HM HRC d3 d6 hcell HND HRD HFR hkl hkb hlt h0
          go_wp2_with fail
          go_region_with (go_at_call 56;refine HM2.out.mono ?_;rintro e w9 ⟨rfl,V9,hmo⟩)
          all_goals
            go_wp2_with fail
            go_roundw
            case rel =>
              refine ⟨j+1,V9,v8,HJ.out.1,by go_num,?_⟩
              have hb:Below wc.heap.size wc wc.drew:=(Below.refl _ _).drew
              have n9:=HN9.out.1.below hb
              have q:=hmo.no n9.hf
              obtain ⟨r1,r2⟩:=hmo.hf.row (own_below HN9.out.2.1 hb) HN9.out.2.2
              rw [HJ.out.2.2.2] at q
              rw [HJ.out.2.1,List.length_append,HJ.out.2.2.1,← Nat.add_assoc,HJT.out,← List.append_assoc]
              exact ⟨q,r1,r2⟩
            case measure =>
              simp [intOf]
              have:=HJ.out.1
              omega
        · have hje:j=cl.length:=by omega
          subst hje
          have hnlt:¬ (cl.length:Int)<(cl.length:Int):=by omega
          have hl:cl.length=its.length:=by have:=congrArg List.length HE.out.1.1;simpa using this
          clear hj hjc
          go_wp2_with fail
          go_ret
          refine ⟨rfl,Vi,.slice a5 (lv.length+1) c5,v6,vci,?_⟩
          have:=HI.out.1
          rw [hl,List.take_length] at this
          rw [HE.out.1.2,← HCN.out,← Nat.add_assoc]
          exact this
end
end Go.Proofs.YtmgjdjjfeapcdaaGreat
