/- package tree: caught -/
import Derived.Test.YtmgjdjjfeapcdaaGreatMgAT
import Derived.Defers
import Derived.Recover
namespace Go.Proofs.YtmgjdjjfeapcdaaGreat
open Go.RowKit Go.Lib Go.Maps Go.Sort
attribute [local go_sem ↓] Go.wp_at_zero Go.wp_at_succ
set_option maxRecDepth 20000 in
theorem ccatch (p:Addr) (w:World):CallsD Tryz.prog 71 #[.pointer (some p)] .returning w fun e u' w'=>e=.returned (.tuple #[])∧u'=.returning∧w'=w:=by
  refine callsD_of_wpS Tryz.func71 rfl fun c₀ cs hu=>?_
  apply wpS_seq
  apply wpS_region
  simp [wpOpsS,go_sem,recoverD,hu,Tryz.ntmps71,Exit.thenS]
  apply wpS_seq
  apply wpS_seq
  apply wpS_region
  simp [wpOpsS,go_sem,Exit.thenS]
  refine wpS_cond (t:=true) (by simp [Act.eval,Array.replicate]) ?_
  simp only [if_true]
  refine wpS_of_wp (wp_ret ?_)
  cases c₀
  simp_all [bodyPostS,results,Tryz.results71,Exit.thenS]
set_option maxRecDepth 20000 in
set_option maxHeartbeats 1000000 in
theorem ccaught (f:Nat) (hen:∀ args w,(callFunc f args).run Tryz.prog w=.ok (.enter f args) w) (caps:Array Value) (w:World) (tb Gp root:Nat) (ht:TB w tb Gp root) (Q:World→Prop) (hdo:Calls Tryz.prog f caps (w.alloc (.cells #[.int .i64 0] 26)) fun e w'=>e=.returned (.tuple #[])∧Q w') (hbox:∀ w',Q w'→w'.heap[w.heap.size]? = some (.cells #[.int .i64 0] 26 (0,0))) :
    Calls Tryz.prog 30 #[(.pointer (some ⟨tb,0,none⟩)),.func (.func f) #[] caps] w fun e w'=>e=.returned (.int .i64 0)∧∃ w1,Q w1∧w'=w1.setCell ⟨w.heap.size,0,none⟩ (.int .i64 0):=by
  have hmf:∀ (fn:Fn) (first cap:Array Value) (w:World),(Instr.makeFunc fn first cap).run Tryz.prog w=.ok (.func fn first cap) w:=fun _ _ _ _=>rfl
  obtain ⟨t0,t1,t2⟩:=ht.cells
  have HD:=hide (hdo)
  have HB:=hide (hbox)
  clear ht hdo hbox
  go_enter_defers Tryz.func30,Tryz.ntmps30
  go_wp2_with fail
  refine HD.out.mono ?_
  rintro e w1 ⟨rfl,hq⟩
  have hb:=HB.out _ hq
  have c0:w1.cell? ⟨w.heap.size,0,none⟩=some (.int .i64 0):=by simp [World.cell?,hb]
  have z0:w1.frozen? ⟨w.heap.size,0,none⟩=false:=by simp [World.frozen?,hb]
  have HQ:=hide (hq)
  clear hq hb HD HB
  go_wp2
  refine leaves_cons (f:=71) (args:=#[(.pointer (some ⟨w.heap.size,0,none⟩))]) (by simp) (by simp [go_sem]) ?_
  refine (ccatch ⟨w.heap.size,0,none⟩ _).mono ?_
  rintro e u' w'' ⟨rfl,rfl,rfl⟩
  have hcell:(w1.setCell ⟨w.heap.size,0,none⟩ (.int .i64 0)).cell? ⟨w.heap.size,0,none⟩=some (.int .i64 0):=by go_simp
  have HQ2:Hid (∃ w2,Q w2∧w1.setCell ⟨w.heap.size,0,none⟩ (.int .i64 0)=w2.setCell ⟨w.heap.size,0,none⟩ (.int .i64 0)):=⟨w1,HQ.out,rfl⟩
  generalize w1.setCell ⟨w.heap.size,0,none⟩ (.int .i64 0)=W at *
  simp [Leaves,settle,results,Tryz.results30,go_sem,hcell]
  exact HQ2.out
end Go.Proofs.YtmgjdjjfeapcdaaGreat
namespace Go.Proofs.YtmgjdjjfeapcdaaGreat
open Go.RowKit Go.Lib Go.Maps Go.Sort
attribute [local go_sem ↓] Go.wp_at_zero Go.wp_at_succ
def pgsI (l:List It):List Nat:=l.flatMap (·.pgs)
theorem leaf_pgs {lo hi:ByteArray}:∀ {l:List It},BI lo l hi→(l.flatMap nodI).map (·.1)=pgsI l
  | [],_=>rfl
  | i :: r, ⟨h1, _, _, _, h5⟩ => by
    simp only [pgsI,List.flatMap_cons,List.map_append,nodI_fst h1]
    congr 1
    exact leaf_pgs h5
def numsT (d:Nat) (x:T d):List Nat:=(nodT d x).map (·.1)
def drPost (w:World) (B D Gp:Nat) (V:PV) (K:Pgs) (pk m:Nat) (A:Nat→PgV) (pages:Nat) (ps X:List Nat) (w':World):Prop:=
  ∃ (V':PV) (A':Nat→PgV) (fl':List Nat),TS w' B D Gp V' K pk (m+2 * ps.length) A' fl' pages∧St2 w w' B V V'∧Hold fl' pages X∧∀ y,¬ y=0→¬ y ∈ ps→A' y=A y
set_option maxRecDepth 20000 in
theorem cchildren {w:World} {p:Nat} {v:NV} (h:NR w p v) (hl:v.cells.length≤1000):Calls Tryz.prog 102 #[(.pointer (some ⟨p,0,none⟩))] w fun e w'=>e=.returned (.int .i64 ((v.cells.length+1:Nat):Int))∧w'=w:=by
  obtain ⟨a,c,nb,st⟩:=h
  obtain ⟨u0,u1,u2,u3,u4,u5,u6,u7,u8⟩:=nb.cells
  obtain ⟨cl,hcl⟩:∃ cl,v.cells.length=cl:=⟨_,rfl⟩
  rw [hcl] at u2 hl ⊢
  have hw:wrap64 ((cl:Int)+1)=((cl+1:Nat):Int):=by unfold wrap64;omega
  clear nb st u0 u1 u3 u4 u5 u6 u7 hcl
  go_enter Tryz.func102,Tryz.ntmps102
  go_wp2
  go_ret
  exact ⟨by simp,rfl⟩
section
variable {w w':World} {B D Gp:Nat} {V V':PV} {K:Pgs} {pk m:Nat} {A:Nat→PgV} {fl os:List Nat} {pages tb root rt:Nat} {es:List Ent}
set_option maxRecDepth 20000 in
set_option maxHeartbeats 4000000 in
theorem cdrop0 (h:TS w B D Gp V K pk m A fl pages) {x:T 0} {lo hi:ByteArray} {p tk:Nat} (hm:m+2 * (numsT 0 x).length≤38000) (ht:TB w tb Gp root) (hn:NR w p (nvT 0 x lo hi tk)) (hb:Bnd 0 lo hi x) (hu:usedC (cellsT 0 x)≤1012) (hA:∀ q ∈ nodT 0 x,A q.1=q.2) {X:List Nat} (hX:Hold fl pages (numsT 0 x ++ X)) :
    Calls Tryz.prog 59 #[(.pointer (some ⟨tb,0,none⟩)),(.pointer (some ⟨p,0,none⟩))] w fun e w'=>e=.returned (.tuple #[])∧drPost w B D Gp V K pk m A pages (numsT 0 x) X w':=by
  have hbi:BI lo x.its hi:=hb
  have hnums:numsT 0 x=x.num :: pgsI x.its:=by
    show x.num :: (x.its.flatMap nodI).map (·.1)=_
    rw [leaf_pgs hbi]
  obtain ⟨a,c,nb,st⟩:=hn
  obtain ⟨u0,u1,u2,u3,u4,u5,u6,u7,u8⟩:=nb.cells
  replace u0:w.cell? ⟨p,0,none⟩=some (.int .i64 (1:Nat)):=u0
  replace u2:w.cell? ⟨p,2,none⟩=some (.slice a (x.its.map cellI).length c):=u2
  have hlen:(x.its.map cellI).length=x.its.length:=by simp
  rw [hlen] at u2
  have hl4:x.its.length≤400:=by have:=used_len4 (l:=cellsT 0 x);have e1:(cellsT 0 x).length=x.its.length:=hlen;omega
  have hX2:Hold fl pages (pgsI x.its ++ (x.num :: X)):=by
    rw [hnums] at hX
    exact (List.Perm.cons _ (List.Perm.append_left _ List.perm_middle)).trans hX
  have hmem:=hX2.mem (n:=x.num) (by simp)
  have H:=hide (show TS w B D Gp V K pk m A fl pages∧TB w tb Gp root∧NB w p (nvT 0 x lo hi tk) (.slice a x.its.length c)∧StB w a (x.its.map cellI)∧BI lo x.its hi∧(∀ i ∈ x.its,∀ q ∈ nodI i,A q.1=q.2) from ⟨h,ht,by have:=nb;rw [show (nvT 0 x lo hi tk).cells.length=x.its.length from hlen] at this;exact this,st,hbi,fun i hi q hq=>hA q (by
    show q ∈ (x.num,pgT 0 x) :: x.its.flatMap nodI
    exact List.mem_cons_of_mem _ (List.mem_flatMap.2 ⟨i,hi,hq⟩))⟩)
  have HN:=hide (show numsT 0 x=x.num :: pgsI x.its∧m+2 * (numsT 0 x).length≤38000∧Hold fl pages (pgsI x.its ++ (x.num :: X)) from ⟨hnums,hm,hX2⟩)
  obtain ⟨its,hits⟩:∃ its,x.its=its:=⟨_,rfl⟩
  rw [hits] at u2 H HN hl4
  have HIT:=hide (hits)
  clear h ht nb st hb hbi hA hX hX2 hnums hlen hu hm hmem hits u1 u3 u4 u5 u6 u7
  go_enter Tryz.func59,Tryz.ntmps59
  go_wp2_with fail
  go_loopw [19] (fun x19 Y=>∃ (j:Nat) (Vj:PV) (Aj:Nat→PgV) (flj:List Nat),x19=.int .i64 (j:Int)∧j≤its.length∧Hid (TS Y B D Gp Vj K pk (m+2 * (pgsI (its.take j)).length) Aj flj pages∧St2 w Y B V Vj∧Hold flj pages (pgsI (its.drop j) ++ (x.num :: X))∧∀ y,¬ y=0→¬ y ∈ pgsI (its.take j)→Aj y=A y)) (fun x19 _=>its.length - (intOf x19).toNat)
  case atStart=>exact ⟨0,V,A,fl,rfl,Nat.zero_le _,⟨H.out.1,St2.refl _ _ _,HN.out.2.2,fun _ _ _=>rfl⟩⟩
  case round =>
    obtain ⟨j,Vj,Aj,flj,rfl,hj,HJ⟩:=hrel
    by_cases hjc:j<its.length
    · have hlt:(j:Int)<(its.length:Int):=by omega
      have h0:(0:Int)≤(j:Int):=by omega
      obtain ⟨ij,hij⟩:∃ ij,its[j]=ij:=⟨_,rfl⟩
      obtain ⟨k1,k2,k3,k4⟩:=HJ.out
      obtain ⟨h,ht,nb,st,hbi,hA⟩:=H.out
      have hoi:okI ij:=(BI_mem hbi ij (by rw [← hij];exact List.getElem_mem hjc)).1
      have hdr:its.drop j=ij :: its.drop (j+1):=by rw [List.drop_eq_getElem_cons hjc,hij]
      have htk:pgsI (its.take (j+1))=pgsI (its.take j) ++ ij.pgs:=by rw [take_snoc hjc,hij];simp [pgsI]
      have hpd:pgsI (its.drop j) ++ (x.num :: X)=ij.pgs ++ (pgsI (its.drop (j+1)) ++ (x.num :: X)):=by rw [hdr];simp [pgsI]
      rw [hpd] at k3
      have hall:its=its.take j ++ ij :: its.drop (j+1):=by rw [← hdr,List.take_append_drop]
      have hAj:∀ q ∈ nodI ij,Aj q.1=q.2:=fun q hq=>by
        have hq1:q.1 ∈ ij.pgs:=by rw [← nodI_fst hoi];exact List.mem_map_of_mem hq
        have hpos:=(k3.mem (n:=q.1) (List.mem_append_left _ hq1)).1
        have hnd:=HN.out.2.2.nd
        rw [k4 q.1 (by omega) (fun hin=>?_)]
        · exact hA ij (by rw [← hij];exact List.getElem_mem hjc) q hq
        · rw [hall] at hnd
          simp only [pgsI,List.flatMap_append,List.flatMap_cons,List.nodup_cons,List.nodup_append] at hnd
          exact hnd.2.2.1.1.2.2 _ hin _ (List.mem_append_left _ hq1) rfl
      have hmm:m+2 * (pgsI (its.take j)).length≤38000:=by
        have e1:=congrArg (fun l=>(pgsI l).length) hall
        simp only [pgsI,List.flatMap_append,List.length_append] at e1
        have e2:=HN.out.2.1
        rw [HN.out.1] at e2
        simp only [pgsI,List.length_cons] at e2 ⊢
        omega
      have HFV:=hide (cfreeValue k1 (by omega) (h.stayTB k2 ht) ij hoi hAj k3)
      have hst2:=h.staySt k2 st
      have hcell:∃ g off,a=some ⟨g,off,none⟩∧wr.cell? ⟨g,off+j,none⟩=some (.string (cellI ij)):=by
        rcases hst2 with e | ⟨g,off,cur,e,hh,hc⟩
        · rw [List.map_eq_nil_iff] at e
          rw [e] at hjc
          simp at hjc
        · refine ⟨g,off,e,?_⟩
          have:=hc j (by simp;exact hjc)
          rw [tx_map cellI hjc,hij] at this
          simp only [World.cell?,hh]
          exact this
      obtain ⟨g,off,rfl,hcell⟩:=hcell
      have HP:=hide (show j<its.length∧pgsI (its.take (j+1))=pgsI (its.take j) ++ ij.pgs from ⟨hjc,htk⟩)
      generalize cellI ij=ci at *
      clear k1 k2 k3 k4 h ht nb st hbi hA hoi hdr htk hpd hall hAj hst2 hij hj hmm
      go_wp2_with fail
      refine HFV.out.mono ?_
      rintro e w3 ⟨rfl,V3,A3,fl3,q1,q2,q3,q4⟩
      have HNX:Hid (TS w3 B D Gp V3 K pk (m+2 * (pgsI (its.take (j+1))).length) A3 fl3 pages∧St2 w w3 B V V3∧Hold fl3 pages (pgsI (its.drop (j+1)) ++ (x.num :: X))∧∀ y,¬ y=0→¬ y ∈ pgsI (its.take (j+1))→A3 y=A y):=by
        obtain ⟨k1,k2,k3,k4⟩:=HJ.out
        refine ⟨q1.mono (by rw [HP.out.2,List.length_append];omega),k2.trans q2,q3,fun y y0 hy=>?_⟩
        rw [HP.out.2,List.mem_append] at hy
        rw [q4 y y0 (fun e=>hy (.inr e)),k4 y y0 (fun e=>hy (.inl e))]
      clear q1 q2 q3 q4 HFV hcell
      go_wp2_with fail
      go_roundw
      case rel=>exact ⟨j+1,V3,A3,fl3,by go_num,HP.out.1,HNX⟩
      case measure=>simp [intOf];have:=HP.out.1;omega
    · have hje:j=its.length:=by omega
      have hlt:¬ (j:Int)<(its.length:Int):=by omega
      obtain ⟨k1,k2,k3,k4⟩:=HJ.out
      obtain ⟨h,ht,nb,st,hbi,hA⟩:=H.out
      have hd0:its.drop j=[]:=by rw [hje];exact List.drop_length
      have ht0:its.take j=its:=by rw [hje];exact List.take_length
      rw [hd0] at k3
      rw [ht0] at k1 k4
      have k3:Hold flj pages (x.num :: X):=k3
      have hmem:=k3.mem (n:=x.num) (by simp)
      have hmm:=HN.out.2.1
      rw [HN.out.1,List.length_cons] at hmm
      have HFR:=hide (ctfree k1 (by omega) (h.stayTB k2 ht) x.num hmem.1 hmem.2.1 hmem.2.2)
      have nb2:=h.stayNB k2 nb
      obtain ⟨u0,u1,u2,u3,u4,u5,u6,u7,u8⟩:=nb2.cells
      replace u3:wr.cell? ⟨p,3,none⟩=some (.int .i64 (x.num:Int)):=u3
      have HE:Hid (∀ w3 V3,TS w3 B D Gp V3 K pk (m+2 * (pgsI its).length+2) (updA (updA Aj x.num ⟨3,flj.headD 0,[]⟩) 0 ⟨4,x.num,[]⟩) (x.num :: flj) pages→St2 wr w3 B Vj V3→drPost w B D Gp V K pk m A pages (numsT 0 x) X w3):=fun w3 V3 q1 q2=>by
        rw [HN.out.1]
        refine ⟨V3,_,_,q1.mono (by simp only [List.length_cons];omega),k2.trans q2,Hold.toFree k3,fun y y0 hy=>?_⟩
        rw [List.mem_cons,not_or] at hy
        rw [updA_ne _ _ y0,updA_ne _ _ hy.1]
        exact k4 y y0 hy.2
      clear k1 k2 k3 k4 h ht nb st hbi hA hd0 ht0 hmem hmm nb2 u0 u1 u2 u4 u5 u6 u7 hj hjc hje
      go_wp2_with fail
      refine HFR.out.mono ?_
      rintro e w3 ⟨rfl,V3,q1,q2⟩
      have HE2:=hide (HE.out _ _ q1 q2)
      clear q1 q2
      go_wp2
      go_end0
      exact ⟨rfl,HE2.out⟩
end
end Go.Proofs.YtmgjdjjfeapcdaaGreat
