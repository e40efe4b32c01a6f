/- package pool: without, makeRoom, use -/
import Derived.Test.YtmgjdjjfeapcdaaGreatPoD
import Derived.Test.YtmgjdjjfeapcdaaGreatShelf
import Derived.Lib.OwnBridge
import Derived.Sort.OwnSortedInts
namespace Go.Proofs.YtmgjdjjfeapcdaaGreat
open Go.RowKit Go.Lib Go.Maps Go.Sort
attribute [local go_sem ↓] Go.wp_at_zero Go.wp_at_succ
section
variable {X:World} {B D Gp:Nat} {b:Bk} {P:PS} {L:LS} {S:DS}
/- a pool that holds something: where its order lies -/
theorem PP.row (h:PP X B D Gp b P L S) (hne:¬ P.order=[]):∃ g cap,b.vo=.slice (some ⟨g,0,none⟩) P.order.length cap∧B≤g∧g<X.heap.size∧P.order.length≤cap∧cap≤maxLen∧Holds (Value.int .i64) X g 0 P.order.toArray:=by
  have hv:b.vo ≠ .slice none 0 0:=fun e=>by
    rcases h.ord.2 with ⟨_,h0⟩ | ⟨g,cap,cur,e',_⟩
    · exact hne (List.length_eq_zero_iff.1 h0)
    · rw [e] at e';cases e'
  obtain ⟨g,cap,e,h1,h2,h3,h4,h5,h6⟩:=holds_of_ownsRow h.ord hv
  exact ⟨g,cap,e,h1,h2,h3,h4,h6⟩
theorem holds_cell {w:World} {g:Nat} {l:List Int} (h:Holds (Value.int .i64) w g 0 l.toArray) (j:Nat) (hj:j<l.length):w.cell? ⟨g,j,none⟩=some (.int .i64 (l.getD j 0)):=by
  have:=(h j (by simpa using hj)).1
  rw [Nat.zero_add] at this
  rw [this]
  simp [hj]
theorem erase_take {l:List Int} {i:Nat} (hi:i<l.length):(l.take i ++ l.drop (i+1) ++ List.replicate (i+1 - i) 0).take (l.length - 1)=l.eraseIdx i:=by
  rw [List.eraseIdx_eq_take_drop_succ]
  rw [List.take_append_of_le_length (by simp;omega),List.take_of_length_le (by simp;omega)]
theorem cdelete (i:Nat) (h:PP X B D Gp b P L S) (hi:i<P.order.length) (hl:P.order.length≤64) :
    Calls Tryz.prog 171 #[b.vo,.int .i64 i,.int .i64 ((i:Int)+1)] X fun e w'=>∃ a c,e=.returned (.slice a (P.order.length - 1) c)∧w'.ownsRow B 3 1 (.slice a (P.order.length - 1) c) (P.order.eraseIdx i).length ((P.order.eraseIdx i).map (Value.int .i64))∧X.grownBy w' b.vo.ownBlock∧(Value.slice a (P.order.length - 1) c).ownBlock=b.vo.ownBlock:=by
  obtain ⟨g,cap,e,h1,h2,h3,h4,h5⟩:=h.row (fun k=>by rw [k] at hi;simp at hi)
  have ho:=h.ord
  rw [e] at ho ⊢
  have:=Tryz.slices_Delete_int g 0 cap i (i+1) P.order X h5 h3 (by unfold maxLen at h4;omega) (by omega) (by omega)
  rw [show ((i+1:Nat):Int)=(i:Int)+1 by omega,show P.order.length - (i+1 - i)=P.order.length - 1 by omega] at this
  refine this.mono ?_
  rintro r w' ⟨rfl,q,rfl⟩
  have hz:(P.order.take i ++ P.order.drop (i+1) ++ List.replicate (i+1 - i) 0).length=P.order.length:=by simp;omega
  have hrow:=ownsRow_putRow (q:=q) (k:=P.order.length - 1) ho hz (by omega)
  rw [erase_take hi] at hrow
  have hle:(P.order.eraseIdx i).length=P.order.length - 1:=by rw [List.length_eraseIdx,if_pos hi]
  refine ⟨some ⟨g,0,none⟩,cap,rfl,by rw [hle];exact hrow,?_,rfl⟩
  have:=grownBy_sortedI (w:=X) (g:=g) (n:=q) (os:=#[]) (P.order.take i ++ P.order.drop (i+1) ++ List.replicate (i+1 - i) 0).toArray
  rw [grow_empty] at this
  exact this
theorem idx_of {l:List Int} {x:Int} (hn:l.Nodup) (hx:x ∈ l):∃ i:Nat,i<l.length∧idxOf (l.take l.length) x=i∧l[i]?=some x:=by
  obtain ⟨i,hi,rfl⟩:=List.getElem_of_mem hx
  refine ⟨i,hi,idxOf_hit l l.length i _ hi (Nat.le_refl _) (getD_at hi) (fun j hj=>?_),List.getElem?_eq_getElem hi⟩
  rw [getD_at (show j<l.length by omega)]
  intro e
  have:=(List.getElem_inj hn).1 e
  omega
set_option maxRecDepth 20000 in
set_option maxHeartbeats 2000000 in
theorem cwithout (n:Int) (h:PP X B D Gp b P L S) (hn:n ∈ P.order) (hd:P.order.Nodup) (hl:P.order.length≤64) :
    Calls Tryz.prog 129 #[(.pointer (some ⟨Gp,0,none⟩)),.int .i64 n] X fun e w'=>∃ i a c,P.order[i]?=some n∧i<P.order.length∧e=.returned (.slice a (P.order.length - 1) c)∧w'.ownsRow B 3 1 (.slice a (P.order.length - 1) c) (P.order.eraseIdx i).length ((P.order.eraseIdx i).map (Value.int .i64))∧X.grownBy w' b.vo.ownBlock∧(Value.slice a (P.order.length - 1) c).ownBlock=b.vo.ownBlock:=by
  obtain ⟨i,hi,hix,hat⟩:=idx_of hd hn
  obtain ⟨c0,c1,c2,c3,c4,c5,c6,c7,c8,c9⟩:=h.cells
  have HD:=hide (cdelete i h hi hl)
  obtain ⟨g,cap,e,h1,h2,h3,h4,h5⟩:=h.row (fun k=>by rw [k] at hi;simp at hi)
  rw [e] at c5 HD ⊢
  have hI:=Tryz.slices_Index_int g 0 P.order.length cap P.order n X (Nat.le_refl _) (by omega) (fun j hj=>by rw [Nat.zero_add];exact holds_cell h5 j hj)
  rw [hix] at hI
  have HI:=hide (hI)
  have hi63:(i:Int)<1000:=by omega
  clear h c0 c1 c2 c3 c4 c6 c7 c8 c9 h5 hI hix hd hn
  go_enter Tryz.func129,Tryz.ntmps129
  go_wp2_with fail
  refine HI.out.mono ?_
  rintro e w1 ⟨rfl,hw⟩;rw [hw];clear hw
  go_wp2_with fail
  refine HD.out.mono ?_
  rintro r w2 ⟨a,c,rfl,q1,q2,q3⟩
  have HQ:=hide (q1)
  have HQ2:=hide (q2)
  have HQ3:=hide (q3)
  clear q1 q2 q3
  go_wp2
  go_ret
  exact ⟨i,a,c,hat,hi,rfl,HQ.out,HQ2.out,HQ3.out⟩
end
/- a held page at the head of the order goes, in memory -/
theorem PP.drop {X Y:World} {B D Gp:Nat} {b:Bk} {P:PS} {L:LS} {S:DS} {x:Int} (h:PP X B D Gp b P L S) (hg:X.grownBy Y (some b.bF)) (hM:MF Y b.bF 65 (delP (fun n=>(P.fs n).map (·.blk)) x)):PP Y B D Gp b { P with fs:=delR P.fs x } L S:=by
  refine h.fmaps hg (hM.congr fun n _=>?_) (Nat.le_refl _) (fun n f hf=>?_) (fun n n' f f' hf hf'=>?_)
  · unfold delR delP
    by_cases e:n=x
    · rw [if_pos e,if_pos e];rfl
    · rw [if_neg e,if_neg e]
  · by_cases e:n=x
    · subst e;rw [delR_at] at hf;cases hf
    · rw [delR_ne _ e] at hf;exact h.frs n f hf
  · by_cases e:n=x
    · subst e;rw [delR_at] at hf;cases hf
    · by_cases e':n'=x
      · subst e';rw [delR_at] at hf';cases hf'
      · rw [delR_ne _ e] at hf;rw [delR_ne _ e'] at hf';exact h.inj n n' f f' hf hf'
/- room is made for one page more -/
set_option maxRecDepth 20000 in
set_option maxHeartbeats 4000000 in
theorem cmakeRoom {w:World} {B D Gp:Nat} {V:PV} {C K:Pgs} {pk m:Nat} (h:PO w B D Gp V C K pk m) (hm:m≤50000) :
    Calls Tryz.prog 130 #[(.pointer (some ⟨Gp,0,none⟩))] w fun e w'=>∃ V',PO w' B D Gp V' C K pk m∧St2 w w' B V V'∧V'.P.pages=V.P.pages∧V'.P.free=V.P.free∧V'.P.most=V.P.most∧(∀ n f,V'.P.fs n=some f→V.P.fs n=some f)∧((e=.returned (.int .i64 0)∧V'.P.order.length<V'.P.most)∨(e=.returned (.int .i64 2)∧V'.S.down=true)):=by
  obtain ⟨oa,oc,hvo⟩:=h.pp.vo
  obtain ⟨c0,c1,c2,c3,c4,c5,c6,c7,c8,c9⟩:=h.pp.cells
  have hmo:=h.pi.most
  rw [hvo] at c5
  by_cases hl:V.P.order.length<V.P.most
  · have hl':(V.P.order.length:Int)<(V.P.most:Int):=by omega
    have HP:Hid (PO w B D Gp V C K pk m):=h
    have HL:=hide (hl)
    clear hl h hvo c0 c2 c3 c4 c6 c7 c8 c9
    go_enter Tryz.func130,Tryz.ntmps130
    go_wp2_with fail
    go_region
    all_goals
      go_wp2
      go_ret
      exact ⟨V,⟨HP.out.pp.below ((Below.refl _ _).drew),HP.out.pi,HP.out.lo⟩,⟨below_belP ((Below.refl _ _).drew) HP.out.lo _,id⟩,rfl,rfl,rfl,fun _ _ hn=>hn,.inl ⟨rfl,HL.out⟩⟩
  · have hl':¬ (V.P.order.length:Int)<(V.P.most:Int):=by omega
    obtain ⟨x,r,hxr⟩:∃ x r,V.P.order=x :: r:=by
      cases hq:V.P.order with
      | nil=>rw [hq] at hl;simp at hl;omega
      | cons x r=>exact ⟨x,r,rfl⟩
    have hx:=h.pi.rng x (by rw [hxr];exact List.mem_cons_self ..)
    have hpg:=h.pi.pg
    have hx64:i64 x:=i64_in (by omega) (by omega)
    obtain ⟨f,hf⟩:∃ f,V.P.fs x=some f:=Option.isSome_iff_exists.1 ((h.pi.keys x).1 (by rw [hxr];exact List.mem_cons_self ..))
    have hW:PO w.drew B D Gp V C K pk m:=⟨h.pp.below ((Below.refl _ _).drew),h.pi,h.lo⟩
    have HW:Hid (PO w.drew B D Gp V C K pk m):=hW
    have HSW:Hid (St2 w w.drew B V V):=(⟨below_belP ((Below.refl _ _).drew) h.lo _,id⟩:St2 w w.drew B V V)
    obtain ⟨g,cap,hg0,g1,g2,g3,g4,g5⟩:=hW.pp.row (by rw [hxr];simp)
    rw [hvo] at hg0
    injection hg0 with ea _ ec
    subst ea ec
    have hcx:w.drew.cell? ⟨g,0,none⟩=some (.int .i64 x):=by
      have:=holds_cell g5 0 (by rw [hxr];simp)
      rw [this,hxr]
      rfl
    have HIX:Hid (Calls Tryz.prog 140 #[.slice (some ⟨g,0,none⟩) V.P.order.length oc,.func (.func 172) #[(.pointer (some ⟨Gp,0,none⟩))] #[]] w.drew fun e w'=>e=.returned (.int .i64 0)∧w'=w.drew):=by
      have:=cindexL (.pointer (some ⟨Gp,0,none⟩)) (fun _=>true) g 0 V.P.order.length oc V.P.order w.drew rfl (by omega) (fun j hj=>by rw [Nat.zero_add];exact holds_cell g5 j hj) (fun y hy=>by
        obtain ⟨f',hf'⟩:=Option.isSome_iff_exists.1 ((hW.pi.keys y).1 hy)
        have:=hW.pi.rng y hy
        exact cisLoose hW.pp hf' (i64_in (by omega) (by omega)))
      rw [hxr] at this ⊢
      exact this
    have hlk:=hW.pp.fmap.look1 hx64
    simp only [hf,Option.map_some,ptrO] at hlk
    obtain ⟨f0,f1,f2,z0,z2,hlt⟩:=hW.pp.fcells hf
    obtain ⟨e0,e1,e2,e3,e4,e5,e6,e7,e8,e9⟩:=hW.pp.cells
    rw [hvo] at e5
    have HX64:Hid (i64 x):=hx64
    have HXR:Hid (V.P.order=x :: r):=hxr
    have hlen:V.P.order.length=r.length+1:=by rw [hxr];rfl
    have HVO:Hid (V.b.vo=.slice (some ⟨g,0,none⟩) V.P.order.length oc):=hvo
    clear h hW hvo c0 c2 c3 c4 c6 c7 c8 c9 g5 hx64 hxr e0 e1 e2 e3 e6 e7 e8 e9 f0 f1 z0 z2
    cases hd:f.dirty with
    | false =>
      rw [hd] at f2
      have HFF:Hid (V.P.fs x=some f):=hf
      have HDD:Hid (f.dirty=false):=hd
      clear hf hd
      rw [hlen] at HVO HIX c5 e5 hl'
      go_enter Tryz.func130,Tryz.ntmps130
      go_wp2_with fail
      go_region
      all_goals
        go_wp2_with fail
        refine HIX.out.mono ?_
        rintro e w1 ⟨rfl,hw⟩;rw [hw];clear hw
        have HPP5:Hid (PP w.drew B D Gp V.b V.P V.L V.S):=HW.out.pp
        have HPI5:Hid (PI V.P V.L V.S C K V.N pk m):=HW.out.pi
        have HLO5:Hid (B≤w.drew.heap.size):=HW.out.lo
        have HS5:Hid (St2 w w.drew B V V):=HSW
        have HO5:Hid (V.b.vo=.slice (some ⟨g,0,none⟩) (r.length+1) oc):=HVO
        have HR5:Hid (V.P.order=x :: r):=HXR
        have HF5:Hid (V.P.fs x=some f):=HFF
        have HC5:Hid (f.dirty=false):=HDD
        obtain ⟨c0,c1,c2,c3,c4,c5,c6,c7,c8,c9⟩:=HPP5.out.cells
        rw [HO5.out] at c5
        obtain ⟨Y,hrun,hM,hgY⟩:=HPP5.out.fmap.drop HX64.out 0 (x:=x)
        have HY:Hid (PP Y B D Gp V.b { V.P with fs:=delR V.P.fs x } V.L V.S):=HPP5.out.drop hgY hM
        have HBY:Hid (BelP V.b.M V.b.M B w.drew Y):=HPP5.out.fmaps_bel hgY HLO5.out
        obtain ⟨d0,d1,d2,d3,d4,d5,d6,d7,d8,d9⟩:=HY.out.cells
        rw [HO5.out] at d5
        have HD:=hide (cdelete 0 HY.out (by show 0<V.P.order.length;rw [HR5.out];simp) (by have:=HPI5.out.most;show V.P.order.length≤64;omega))
        simp only [HR5.out,HO5.out,List.eraseIdx_cons_zero,List.length_cons,Nat.add_sub_cancel,Int.natCast_zero,Int.zero_add] at HD
        clear hM hgY c0 c1 c2 c3 c5 c6 c7 c8 c9 d0 d1 d2 d3 d4 d6 d7 d8 d9
        go_wp2_with fail
        refine HD.out.mono ?_
        rintro e w8 ⟨a8,c8,rfl,q1,q2,q3⟩
        obtain ⟨u5,z5,l5⟩:=HY.out.own5 q2 (fun g hg=>by rw [HO5.out];exact hg)
        rw [HO5.out] at u5
        have HZ:Hid (PP (w8.setCell ⟨Gp,5,none⟩ (.slice a8 r.length c8)) B D Gp { V.b with vo:=(.slice a8 r.length c8) } { V.P with fs:=delR V.P.fs x,order:=r } V.L V.S):=
          HY.out.order (l:=r) q2 (fun g hg=>by rw [HO5.out];exact hg) q1 (fun g hg=>by left;rw [HO5.out,← q3];exact hg)
        have HBZ:Hid (BelP V.b.M ({ V.b with vo:=(.slice a8 r.length c8) }:Bk).M B w.drew (w8.setCell ⟨Gp,5,none⟩ (.slice a8 r.length c8))):=HBY.out.trans (HY.out.order_bel q2 (fun g hg=>by rw [HO5.out];exact hg) (Nat.le_trans HLO5.out HBY.out.size) (fun g hg=>by left;rw [HO5.out,← q3];exact hg))
        have HPI:Hid (PI { V.P with fs:=delR V.P.fs x,order:=r } V.L V.S C K V.N pk m):=HPI5.out.gone HR5.out HF5.out HC5.out
        clear q1 q2 q3 HD
        go_wp2
        go_ret
        refine ⟨⟨{ V.b with vo:=(.slice a8 r.length c8) },{ V.P with fs:=delR V.P.fs x,order:=r },V.L,V.S,V.N⟩,⟨HZ.out,HPI.out,Nat.le_trans HLO5.out HBZ.out.size⟩,HS5.out.trans ⟨HBZ.out,id⟩,rfl,rfl,rfl,fun y fy hy=>?_,.inl ⟨rfl,?_⟩⟩
        · have hy:delR V.P.fs x y=some fy:=hy
          by_cases e:y=x
          · rw [e,delR_at] at hy;cases hy
          · rw [delR_ne _ e] at hy;exact hy
        · have h1:=HPI5.out.most.1
          rw [HR5.out] at h1
          show r.length<V.P.most
          simp at h1
          omega
    | true =>
      rw [hd] at f2
      have HFF:Hid (V.P.fs x=some f):=hf
      have HDD:Hid (f.dirty=true):=hd
      have HTL:=hide (ctoLog HW.out hm x f hf hd)
      clear hf hd
      rw [hlen] at HVO HIX c5 e5 hl'
      go_enter Tryz.func130,Tryz.ntmps130
      go_wp2_with fail
      go_region
      all_goals
        go_wp2_with fail
        refine HIX.out.mono ?_
        rintro e w1 ⟨rfl,hw⟩;rw [hw];clear hw
        go_wp2_with fail
        refine HTL.out.mono ?_
        rintro e w5 ⟨V4,k1,k2,-,k3,(⟨rfl,k4⟩ | ⟨rfl,k5,k4⟩)⟩
        · have HP4:Hid (PO w5 B D Gp V4 C K pk m):=k1
          have HS4:Hid (St2 w w5 B V V4):=HSW.out.trans k2
          obtain ⟨p0,p1,p2,p3,p4,p5,p6,p7,p8,p9⟩:=k1.pp.cells
          have z9:=k1.pp.unfrozen 9
          have hv4:V4.b.vo=.slice (some ⟨g,0,none⟩) (r.length+1) oc:=by rw [k3];exact HVO.out
          rw [hv4] at p5
          obtain ⟨PX,hPX⟩:∃ PX:PS,PX={ V4.P with spills:=wrap64 (V4.P.spills+1) }:=⟨_,rfl⟩
          have hfp:(PX.fs=V4.P.fs∧PX.order=V4.P.order)∧(PX.pages=V4.P.pages∧PX.free=V4.P.free∧PX.most=V4.P.most):=by rw [hPX];exact ⟨⟨rfl,rfl⟩,rfl,rfl,rfl⟩
          have HPP5:Hid (PP (w5.setCell ⟨Gp,9,none⟩ (.int .i64 (wrap64 (V4.P.spills+1)))) B D Gp V4.b PX V4.L V4.S):=by
            rw [hPX]
            exact hide (k1.pp.own rfl rfl rfl rfl)
          have HPI5:Hid (PI PX V4.L V4.S C K V4.N pk m):=by
            rw [hPX]
            exact hide (k1.pi.stat _ _ _ _)
          have HLO5:Hid (B≤(w5.setCell ⟨Gp,9,none⟩ (.int .i64 (wrap64 (V4.P.spills+1)))).heap.size):=Nat.le_trans k1.lo (set_grown w5 Gp 9 _).size
          have HS5:Hid (St2 w (w5.setCell ⟨Gp,9,none⟩ (.int .i64 (wrap64 (V4.P.spills+1)))) B V V4):=HS4.out.trans (⟨k1.pp.own_bel 9 _ k1.lo,id⟩:St2 w5 _ B V4 V4)
          have HO5:Hid (V4.b.vo=.slice (some ⟨g,0,none⟩) (r.length+1) oc):=hv4
          have HR5:Hid (PX.order=x :: r):=by rw [hfp.1.2,k4];exact HXR
          have HF5:Hid (PX.fs x=some { f with dirty:=false }):=by rw [hfp.1.1,k4];exact hide (updR_at _ _ _)
          have HK5:Hid (PX.pages=V.P.pages∧PX.free=V.P.free∧PX.most=V.P.most∧∀ n f',¬ n=x→PX.fs n=some f'→V.P.fs n=some f'):=by
            rw [hfp.1.1,hfp.2.1,hfp.2.2.1,hfp.2.2.2,k4]
            refine hide ⟨rfl,rfl,rfl,fun n f' hne hn=>?_⟩
            have hn:updR V.P.fs x _ n=some f':=hn
            rw [updR_ne _ _ hne] at hn
            exact hn
          clear k1 k2 k3 k4 hPX hfp HTL p0 p1 p2 p3 p6 p7 p8 e4 e5 f2 hlk hcx c1 c5 hv4
          obtain ⟨c0,c1,c2,c3,c4,c5,c6,c7,c8,c9⟩:=HPP5.out.cells
          rw [HO5.out] at c5
          obtain ⟨Y,hrun,hM,hgY⟩:=HPP5.out.fmap.drop HX64.out 0 (x:=x)
          have HY:Hid (PP Y B D Gp V4.b { PX with fs:=delR PX.fs x } V4.L V4.S):=HPP5.out.drop hgY hM
          have HBY:Hid (BelP V4.b.M V4.b.M B (w5.setCell ⟨Gp,9,none⟩ (.int .i64 (wrap64 (V4.P.spills+1)))) Y):=HPP5.out.fmaps_bel hgY HLO5.out
          obtain ⟨d0,d1,d2,d3,d4,d5,d6,d7,d8,d9⟩:=HY.out.cells
          rw [HO5.out] at d5
          have HD:=hide (cdelete 0 HY.out (by show 0<PX.order.length;rw [HR5.out];simp) (by have:=HPI5.out.most;show PX.order.length≤64;omega))
          simp only [HR5.out,HO5.out,List.eraseIdx_cons_zero,List.length_cons,Nat.add_sub_cancel,Int.natCast_zero,Int.zero_add] at HD
          clear hM hgY c0 c1 c2 c3 c5 c6 c7 c8 c9 d0 d1 d2 d3 d4 d6 d7 d8 d9
          go_wp2_with fail
          refine HD.out.mono ?_
          rintro e w8 ⟨a8,c8,rfl,q1,q2,q3⟩
          obtain ⟨u5,z5,l5⟩:=HY.out.own5 q2 (fun g hg=>by rw [HO5.out];exact hg)
          rw [HO5.out] at u5
          have HZ:Hid (PP (w8.setCell ⟨Gp,5,none⟩ (.slice a8 r.length c8)) B D Gp { V4.b with vo:=(.slice a8 r.length c8) } { PX with fs:=delR PX.fs x,order:=r } V4.L V4.S):=
            HY.out.order (l:=r) q2 (fun g hg=>by rw [HO5.out];exact hg) q1 (fun g hg=>by left;rw [HO5.out,← q3];exact hg)
          have HBZ:Hid (BelP V4.b.M ({ V4.b with vo:=(.slice a8 r.length c8) }:Bk).M B (w5.setCell ⟨Gp,9,none⟩ (.int .i64 (wrap64 (V4.P.spills+1)))) (w8.setCell ⟨Gp,5,none⟩ (.slice a8 r.length c8))):=HBY.out.trans (HY.out.order_bel q2 (fun g hg=>by rw [HO5.out];exact hg) (Nat.le_trans HLO5.out HBY.out.size) (fun g hg=>by left;rw [HO5.out,← q3];exact hg))
          have HPI:Hid (PI { PX with fs:=delR PX.fs x,order:=r } V4.L V4.S C K V4.N pk m):=HPI5.out.gone HR5.out HF5.out rfl
          clear q1 q2 q3 HD
          go_wp2
          go_ret
          refine ⟨⟨{ V4.b with vo:=(.slice a8 r.length c8) },{ PX with fs:=delR PX.fs x,order:=r },V4.L,V4.S,V4.N⟩,⟨HZ.out,HPI.out,Nat.le_trans HLO5.out HBZ.out.size⟩,HS5.out.trans ⟨HBZ.out,id⟩,HK5.out.1,HK5.out.2.1,HK5.out.2.2.1,fun y fy hy=>?_,.inl ⟨rfl,?_⟩⟩
          · have hy:delR PX.fs x y=some fy:=hy
            by_cases e:y=x
            · rw [e,delR_at] at hy;cases hy
            · rw [delR_ne _ e] at hy;exact HK5.out.2.2.2 y fy e hy
          · have h1:=HPI5.out.most.1
            rw [HR5.out] at h1
            show r.length<PX.most
            simp at h1
            omega
        · have HP4:Hid (PO w5 B D Gp V4 C K pk m):=k1
          have HS4:Hid (St2 w w5 B V V4):=HSW.out.trans k2
          have HK4:Hid (V4.S.down=true∧V4.P=V.P):=(⟨k5,k4⟩:V4.S.down=true∧V4.P=V.P)
          clear k1 k2 k3 k4 k5 HTL
          go_wp2
          go_ret
          exact ⟨V4,HP4.out,HS4.out,by rw [HK4.out.2],by rw [HK4.out.2],by rw [HK4.out.2],fun n f' hn=>by rw [HK4.out.2] at hn;exact hn,.inr ⟨rfl,HK4.out.1⟩⟩
end Go.Proofs.YtmgjdjjfeapcdaaGreat
namespace Go.Proofs.YtmgjdjjfeapcdaaGreat
open Go.RowKit Go.Lib Go.Maps Go.Sort
attribute [local go_sem ↓] Go.wp_at_zero Go.wp_at_succ
theorem erase_perm {l:List Int} {i:Nat} {x:Int} (hi:i<l.length) (h:l[i]?=some x):(l.eraseIdx i ++ [x]).Perm l:=by
  have hx:l[i]=x:=by rw [List.getElem?_eq_getElem hi] at h;injection h
  have h1:l=l.take i ++ x :: l.drop (i+1):=by rw [← hx,← List.drop_eq_getElem_cons,List.take_append_drop]
  rw [List.eraseIdx_eq_take_drop_succ]
  refine List.Perm.trans ?_ (List.Perm.of_eq h1.symm)
  rw [List.append_assoc]
  exact List.Perm.append_left _ List.perm_append_comm
theorem infoIntP:(Tryz.prog.info? 3).map (fun i=>(i.zero,i.size,i.bytes))=some (some (.int .i64 0),1,8):=by kernel_rfl
theorem use_grown {w1 w2 w3:World} {r q:Option Nat} {o:Obj} (h:w1.grownBy w2 r) (e:q=r) (hg:(w2.alloc o).grownBy w3 q):w1.grownBy w3 r:=by
  rw [e] at hg
  exact But.trans (grown_alloc h o) hg
theorem use_len {l:List Int} {i ol:Nat} {n:Int} (hi:i<l.length) (h:ol+1=l.length):(l.eraseIdx i ++ [n]).length=ol+1:=by
  rw [List.length_append,List.length_eraseIdx,if_pos hi]
  simp
  omega
theorem use_own {w1 w2:World} {r q v:Option Nat} {o:Obj} (h:w1.grownBy w2 r) (e:q=r) (hv:v=q∨v=some (w2.alloc o).heap.size):v=r∨∃ k,v=some k∧w1.heap.size≤k:=by
  rcases hv with h1 | h1
  · left;rw [h1,e]
  · right;exact ⟨_,h1,by have:=h.size;simp;omega⟩
set_option maxRecDepth 20000 in
set_option maxHeartbeats 4000000 in
theorem cuse_hit {w:World} {B D Gp:Nat} {V:PV} {C K:Pgs} {pk m:Nat} (h:PO w B D Gp V C K pk m) (n:Int) (f:FrP) (hf:V.P.fs n=some f) :
    Calls Tryz.prog 76 #[(.pointer (some ⟨Gp,0,none⟩)),.int .i64 n] w fun e w'=>∃ V',PO w' B D Gp V' C K pk m∧St2 w w' B V V'∧V'.P.pages=V.P.pages∧V'.P.free=V.P.free∧V'.P.fs=V.P.fs∧e=.returned (.tuple #[(.pointer (some ⟨f.blk,0,none⟩)),.int .i64 0]):=by
  obtain ⟨g1,g2,g3,g4,g5⟩:=h.pi.held hf
  have hpg:=h.pi.pg
  have hmo:=h.pi.most
  have hn:i64 n:=i64_in (by omega) (by omega)
  have hn0:¬ n<0:=by omega
  have hn1:¬ (V.P.pages:Int)≤n:=by omega
  have hlk:=h.pp.fmap.look hn
  simp only [hf,Option.map_some,ptrO,Option.isSome_some] at hlk
  obtain ⟨c0,c1,c2,c3,c4,c5,c6,c7,c8,c9⟩:=h.pp.cells
  have z7:=h.pp.unfrozen 7
  have HP1:Hid (PP (w.setCell ⟨Gp,7,none⟩ (.int .i64 (wrap64 (V.P.hits+1)))) B D Gp V.b { V.P with hits:=wrap64 (V.P.hits+1) } V.L V.S):=h.pp.own rfl rfl rfl rfl
  have HB1:Hid (BelP V.b.M V.b.M B w (w.setCell ⟨Gp,7,none⟩ (.int .i64 (wrap64 (V.P.hits+1))))):=h.pp.own_bel 7 _ h.lo
  have HPI:Hid (PI V.P V.L V.S C K V.N pk m):=h.pi
  have HLO:Hid (B≤w.heap.size):=h.lo
  have HWO:=hide (cwithout n HP1.out g1 h.pi.nd (by show V.P.order.length≤64;omega))
  obtain ⟨i0,hi,hz⟩:=Option.map_eq_some_iff.1 infoIntP
  simp only [Prod.mk.injEq] at hz
  obtain ⟨hz0,hz1,hz2⟩:=hz
  have hol:V.P.order.length≤64:=by omega
  clear h c0 c1 c3 c5 c6 c8 c9 hf g1 g2 g3 g4 g5 hpg hmo
  generalize hW1:w.setCell ⟨Gp,7,none⟩ (.int .i64 (wrap64 (V.P.hits+1)))=w1 at *
  go_enter Tryz.func76,Tryz.ntmps76
  go_wp2_with fail
  refine HWO.out.mono ?_
  rintro e w2 ⟨i,a,c,q0,q1,rfl,q2,q3,q4⟩
  change V.P.order[i]?=some n at q0
  change i<V.P.order.length at q1
  have hle:(V.P.order.eraseIdx i).length=V.P.order.length - 1:=by rw [List.length_eraseIdx,if_pos q1]
  have HQ2:Hid (w2.ownsRow B 3 1 (.slice a (V.P.order.length - 1) c) (V.P.order.length - 1) ((V.P.order.eraseIdx i).map (Value.int .i64))):=by rw [← hle];rw [← hle] at q2;exact q2
  have HQ3:Hid (w1.grownBy w2 V.b.vo.ownBlock):=q3
  have HQ4:Hid ((Value.slice a (V.P.order.length - 1) c).ownBlock=V.b.vo.ownBlock):=q4
  have HQ0:Hid (V.P.order[i]?=some n∧i<V.P.order.length):=(⟨q0,q1⟩:V.P.order[i]?=some n∧i<V.P.order.length)
  have hszb:B≤w2.heap.size:=Nat.le_trans HLO.out (Nat.le_trans HB1.out.size q3.size)
  obtain ⟨ol,hol2⟩:∃ ol,ol=V.P.order.length - 1:=⟨_,rfl⟩
  rw [← hol2] at HQ2 HQ4 ⊢
  have HOL:Hid (ol+1=V.P.order.length):=by show ol+1=V.P.order.length;omega
  clear q0 q1 q2 q3 q4 HWO hle hol2
  go_wp2_with (first
    | (at_builtin;refine wpList_append_own_at _ rfl _ _ 42 rfl B 3 i0 (.int .i64 0) 1 8 Tryz.underlying42 hi hz0 hz1 hz2 rfl (by decide) (.slice a ol c) ol ((V.P.order.eraseIdx i).map (Value.int .i64)) rfl (World.ownsRow.alloc HQ2.out _) ⟨w2.heap.size,0,none⟩ 1 1 [.int .i64 n] rfl rfl (newsI _ _) (fun x hx=>by simp at hx;subst hx;rfl) (by have:=HOL.out;unfold maxLen;omega) (by have:=HOL.out;omega) (by simp;omega) ?_;intro v1 w3 ho1 hg1 hnil1 hown1;obtain ⟨a1,cap1,rfl⟩:=owns_sliceI ho1;have HH:=HP1.out.reord (l:=V.P.order.eraseIdx i ++ [n]) (Nat.le_trans HLO.out HB1.out.size) (use_grown HQ3.out HQ4.out hg1) (by rw [use_len HQ0.out.2 HOL.out,List.map_append];exact ho1) (use_own HQ3.out HQ4.out hown1);have HZ:Hid (PP (w3.setCell ⟨Gp,5,none⟩ (.slice a1 (ol+1) cap1)) B D Gp { V.b with vo:=(.slice a1 (ol+1) cap1) } { V.P with hits:=wrap64 (V.P.hits+1),order:=V.P.order.eraseIdx i ++ [n] } V.L V.S):=HH.1;have HBZ:Hid (BelP V.b.M ({ V.b with vo:=(.slice a1 (ol+1) cap1) }:Bk).M B w (w3.setCell ⟨Gp,5,none⟩ (.slice a1 (ol+1) cap1))):=HB1.out.trans HH.2.1;have e5:=HH.2.2.1;have f5:=HH.2.2.2.1;have l5:=HH.2.2.2.2;clear HH ho1 hg1 hnil1 hown1)
    | go_in)
  have HPZ:Hid (PI { V.P with hits:=wrap64 (V.P.hits+1),order:=V.P.order.eraseIdx i ++ [n] } V.L V.S C K V.N pk m):=((HPI.out.perm (erase_perm HQ0.out.2 HQ0.out.1)).stat _ _ _ _)
  go_ret2
  exact ⟨⟨{ V.b with vo:=(.slice a1 (ol+1) cap1) },{ V.P with hits:=wrap64 (V.P.hits+1),order:=V.P.order.eraseIdx i ++ [n] },V.L,V.S,V.N⟩,⟨HZ.out,HPZ.out,Nat.le_trans HLO.out HBZ.out.size⟩,⟨HBZ.out,id⟩,rfl,rfl,rfl,rfl⟩
set_option maxRecDepth 20000 in
set_option maxHeartbeats 4000000 in
theorem cuse_miss {w:World} {B D Gp:Nat} {V:PV} {C K:Pgs} {pk m:Nat} (h:PO w B D Gp V C K pk m) (hm:m≤50000) (n:Int) (n0:0≤n) (n1:n<V.P.pages) (hf:V.P.fs n=none) :
    Calls Tryz.prog 76 #[(.pointer (some ⟨Gp,0,none⟩)),.int .i64 n] w fun e w'=>∃ V',PO w' B D Gp V' C K pk m∧St2 w w' B V V'∧V'.P.pages=V.P.pages∧V'.P.free=V.P.free∧(∀ x f,V'.P.fs x=some f→f.dirty=true→V.P.fs x=some f)∧((∃ f,V'.P.fs n=some f∧C n=some f.text∧e=.returned (.tuple #[(.pointer (some ⟨f.blk,0,none⟩)),.int .i64 0]))∨(e=.returned (.tuple #[.pointer none,.int .i64 2])∧V'.S.down=true)):=by
  have hpg:=h.pi.pg
  have hn:i64 n:=i64_in (by omega) (by omega)
  have hn0:¬ n<0:=by omega
  have hn1:¬ (V.P.pages:Int)≤n:=by omega
  have hlk:=h.pp.fmap.look hn
  simp only [hf,Option.map_none,ptrO,Option.isSome_none] at hlk
  obtain ⟨c0,c1,c2,c3,c4,c5,c6,c7,c8,c9⟩:=h.pp.cells
  have HMR:=hide (cmakeRoom h hm)
  have HNR:Hid (0≤n∧n<V.P.pages∧V.P.fs n=none∧i64 n):=(⟨n0,n1,hf,hn⟩:0≤n∧n<V.P.pages∧V.P.fs n=none∧i64 n)
  clear h c0 c1 c3 c5 c6 c7 c8 c9 hf
  go_enter Tryz.func76,Tryz.ntmps76
  go_wp2_with fail
  refine HMR.out.mono ?_
  rintro e w1 ⟨V1,k1,k2,k3,k4,k5,k6,(⟨rfl,k7⟩ | ⟨rfl,k7⟩)⟩
  · have HP1:Hid (PO w1 B D Gp V1 C K pk m):=k1
    have HS1:Hid (St2 w w1 B V V1):=k2
    have hnone:V1.P.fs n=none:=by
      cases hq:V1.P.fs n with
      | none=>rfl
      | some f =>
        have:=k6 n f hq
        rw [HNR.out.2.2.1] at this
        cases this
    have HK1:=hide (show V1.P.pages=V.P.pages∧V1.P.free=V.P.free∧V1.P.fs n=none∧V1.P.order.length<V1.P.most from ⟨k3,k4,hnone,k7⟩)
    clear hnone
    have HSUB:=hide (k6)
    obtain ⟨t,t1,t2,t3,t4⟩:=k1.pi.cur n n0 (by omega)
    have hN:=t4 HK1.out.2.2.1
    obtain ⟨nn,rfl⟩:∃ k:Nat,n=k:=⟨n.toNat,by omega⟩
    obtain ⟨j,kk,i1,i2,i3,i4⟩:=k1.pi.inv
    have hrd:=rd_out i1 (by omega) (by omega:nn<60000) hN (k1.pp.log.dsk.len 0 (by decide)) (k1.pp.log.dsk.len 2 (by decide))
    have HRD:=hide (creadL (nn:Int) w1 B D V1.b.G V1.b.bp V1.b.bf 60000 V1.L V1.S k1.pp.log (i1.okp (by omega)) (i1.okf (by omega)))
    obtain ⟨c0,c1,c2,c3,c4,c5,c6,c7,c8,c9⟩:=k1.pp.cells
    have HT:Hid (C nn=some t):=t1
    clear k1 k2 k3 k4 k5 k6 k7 t1 t2 t3 t4 hN i1 i2 i3 i4 c1 c2 c3 c4 c5 c6 c7 c8 c9 HMR hlk
    rcases hrd with hr | ⟨hdn,hr⟩
    · rw [hr] at HRD
      clear hr
      go_wp2_with fail
      refine HRD.out.mono ?_
      rintro e w2 ⟨rfl,hb2⟩
      have HP2:Hid (PO w2 B D Gp V1 C K pk m):=(⟨HP1.out.pp.below hb2,HP1.out.pi,Nat.le_trans HP1.out.lo hb2.size⟩:PO w2 B D Gp V1 C K pk m)
      have HS2:Hid (St2 w w2 B V V1):=HS1.out.trans ⟨below_belP hb2 HP1.out.lo _,id⟩
      obtain ⟨d0,d1,d2,d3,d4,d5,d6,d7,d8,d9⟩:=HP2.out.pp.cells
      have z8:=HP2.out.pp.unfrozen 8
      have HP3:Hid (PP (w2.setCell ⟨Gp,8,none⟩ (.int .i64 (wrap64 (V1.P.misses+1)))) B D Gp V1.b { V1.P with misses:=wrap64 (V1.P.misses+1) } V1.L V1.S):=HP2.out.pp.own rfl rfl rfl rfl
      have HS3:Hid (BelP V1.b.M V1.b.M B w2 (w2.setCell ⟨Gp,8,none⟩ (.int .i64 (wrap64 (V1.P.misses+1))))):=HP2.out.pp.own_bel 8 _ HP2.out.lo
      have hml:=HP1.out.pi.most
      have HH:=hide (chold (nn:Int) t HP3.out (Nat.le_trans HP2.out.lo HS3.out.size) HNR.out.2.2.2 (by have:=HK1.out.2.2.2;show V1.P.order.length≤63;omega) (fun x hx=>(HP1.out.pi.keys x).2 hx) HK1.out.2.2.1)
      clear hb2 d0 d1 d2 d3 d4 d5 d6 d7 d9 HRD c0
      generalize hW3:w2.setCell ⟨Gp,8,none⟩ (.int .i64 (wrap64 (V1.P.misses+1)))=w3 at *
      go_wp2_with fail
      refine HH.out.mono ?_
      rintro e w4 ⟨v,rfl,q1,q2⟩
      have HQ1:=hide (q1)
      have HQ2:=hide (q2)
      clear q1 q2 HH
      go_wp2
      go_ret2
      refine ⟨⟨{ V1.b with vo:=v },_,V1.L,V1.S,V1.N⟩,⟨HQ1.out,?_,Nat.le_trans HP2.out.lo (Nat.le_trans HS3.out.size HQ2.out.size)⟩,HS2.out.trans ⟨HS3.out.trans HQ2.out,id⟩,HK1.out.1,HK1.out.2.1,fun x f hx hd=>?_,.inl ⟨_,updR_at _ _ _,HT.out,rfl⟩⟩
      · have hp:=HNR.out
        have hq:=HK1.out
        exact (HP1.out.pi.hold w3.heap.size hp.1 (by omega) hq.2.2.1 HT.out hq.2.2.2).stat V1.P.hits (wrap64 (V1.P.misses+1)) V1.P.spills V1.P.free
      · have hx:updR V1.P.fs (nn:Int) ⟨w3.heap.size,t,false⟩ x=some f:=hx
        by_cases e:x=(nn:Int)
        · rw [e,updR_at] at hx;injection hx with hx;rw [← hx] at hd;cases hd
        · rw [updR_ne _ _ e] at hx;exact HSUB.out x f hx
    · rw [hr] at HRD
      have HDN:Hid (V1.S.down=true):=hdn
      clear hr hdn
      go_wp2_with fail
      refine HRD.out.mono ?_
      rintro e w2 ⟨rfl,hb2⟩
      have HP2:Hid (PO w2 B D Gp V1 C K pk m):=(⟨HP1.out.pp.below hb2,HP1.out.pi,Nat.le_trans HP1.out.lo hb2.size⟩:PO w2 B D Gp V1 C K pk m)
      have HS2:Hid (St2 w w2 B V V1):=HS1.out.trans ⟨below_belP hb2 HP1.out.lo _,id⟩
      clear hb2 HRD
      go_wp2
      go_ret2
      exact ⟨V1,HP2.out,HS2.out,HK1.out.1,HK1.out.2.1,fun x f hx _=>HSUB.out x f hx,.inr ⟨rfl,HDN.out⟩⟩
  · have HP1:Hid (PO w1 B D Gp V1 C K pk m):=k1
    have HS1:Hid (St2 w w1 B V V1):=k2
    have HK1:Hid (V1.P.pages=V.P.pages∧V1.P.free=V.P.free∧V1.S.down=true):=(⟨k3,k4,k7⟩:V1.P.pages=V.P.pages∧V1.P.free=V.P.free∧V1.S.down=true)
    have HSUB:=hide (k6)
    clear k1 k2 k3 k4 k5 k6 k7 HMR
    go_wp2
    go_ret2
    exact ⟨V1,HP1.out,HS1.out,HK1.out.1,HK1.out.2.1,fun x f hx _=>HSUB.out x f hx,.inr ⟨rfl,HK1.out.2.2⟩⟩
/- a page is used -/
theorem cuse {w:World} {B D Gp:Nat} {V:PV} {C K:Pgs} {pk m:Nat} (h:PO w B D Gp V C K pk m) (hm:m≤50000) (n:Int) (n0:0≤n) (n1:n<V.P.pages) :
    Calls Tryz.prog 76 #[(.pointer (some ⟨Gp,0,none⟩)),.int .i64 n] w fun e w'=>∃ V',PO w' B D Gp V' C K pk m∧St2 w w' B V V'∧V'.P.pages=V.P.pages∧V'.P.free=V.P.free∧(∀ x f,V'.P.fs x=some f→f.dirty=true→V.P.fs x=some f)∧((∃ f,V'.P.fs n=some f∧C n=some f.text∧e=.returned (.tuple #[(.pointer (some ⟨f.blk,0,none⟩)),.int .i64 0]))∨(e=.returned (.tuple #[.pointer none,.int .i64 2])∧V'.S.down=true)):=by
  cases hf:V.P.fs n with
  | none=>exact cuse_miss h hm n n0 n1 hf
  | some f =>
    refine (cuse_hit h n f hf).mono ?_
    rintro e w' ⟨V',k1,k2,k3,k4,k5,rfl⟩
    exact ⟨V',k1,k2,k3,k4,fun x g hx _=>by rw [k5] at hx;exact hx,.inl ⟨f,by rw [k5];exact hf,(h.pi.held hf).2.2.2.1,rfl⟩⟩
end Go.Proofs.YtmgjdjjfeapcdaaGreat
