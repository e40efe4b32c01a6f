/- package tree: settle -/
import Derived.Test.YtmgjdjjfeapcdaaGreatMgAS
import Derived.Test.YtmgjdjjfeapcdaaGreatMgAQ
namespace Go.Proofs.YtmgjdjjfeapcdaaGreat
open Go.RowKit Go.Lib Go.Maps Go.Sort
attribute [local go_sem ↓] Go.wp_at_zero Go.wp_at_succ
theorem PM.les {w:World}:∀ {l:List PN} {top:Nat},PM w l top→∀ x ∈ l,hdB l top≤x.b
  | [y], _, _, x, hx => by
    have:x=y:=by simpa using hx
    subst this
    exact Nat.le_refl _
  | y :: z :: r, top, ⟨h1, h2⟩, x, hx => by
    rcases List.mem_cons.1 hx with rfl | hx
    · exact Nat.le_refl _
    · have h3:=PM.les h2 x hx
      obtain ⟨_,_,_,q1,q2,_⟩:=h1
      have q2:y.p<z.b:=q2
      have h3:z.b≤x.b:=h3
      show y.b≤x.b
      omega
theorem nvs_top:∀ {d:Nat} (c:Cx d) (n:Nat),c.nvs n=[]→c=.top d
  | _,.top _,_,_=>rfl
  | _,.up _ _ _ _ _,_,h=>by simp [Cx.nvs] at h
theorem nvs_up':∀ {d:Nat} (c:Cx d) (n:Nat),¬ c.nvs n=[]→∃ num s1 k s2 c',c=.up num s1 k s2 c'
  | _,.top _,_,h=>absurd rfl h
  | _,.up num s1 k s2 c,_,_=>⟨num,s1,k,s2,c,rfl⟩
def settPost (w:World) (B D Gp:Nat) (V:PV) (K:Pgs) (pk m pages:Nat) (os:List Nat) (es:List Ent) (rt b n:Nat) (w':World):Prop:=
  ∃ (V':PV) (A':Nat→PgV) (fl':List Nat) (pages' d':Nat) (t:T d'),TS w' B D Gp V' K pk (m+4 * n+8) A' fl' pages'∧Tr A' fl' pages' os t es∧numT d' t=rt∧TF b B w w' V V'∧pages'≤pages+n+2
/- while it goes: so many nodes are left -/
structure SeS (w X:World) (B D Gp:Nat) (V Vi:PV) (K:Pgs) (pk m pages:Nat) (os:List Nat) (es:List Ent) (rt b n:Nat) (lp:List Nat) (i:Nat) {d:Nat} (c:Cx d) (x:T d) (l:List PN) (A:Nat→PgV) (fl:List Nat) (pgi:Nat):Prop where
  st:Stl X A fl pgi os es rt c x l
  len:l.length=i+1
  ps:l.map (·.p)=lp.take (i+1)
  low:b≤hdB l X.heap.size
  ts:TS X B D Gp Vi K pk (m+4 * (n - (i+1))) A fl pgi
  tf:TF b B w X V Vi
  pg:pgi≤pages+(n - (i+1))
section
variable {w w':World} {B D Gp:Nat} {V V':PV} {K:Pgs} {pk m:Nat} {A:Nat→PgV} {fl os:List Nat} {pages tb root rt:Nat} {es:List Ent}
theorem Stl.below {d:Nat} {c:Cx d} {x:T d} {l:List PN} (hS:Stl w A fl pages os es rt c x l) (h:TS w B D Gp V K pk m A fl pages) (hb:Below w.heap.size w w'):Stl w' A fl pages os es rt c x l:=
  ⟨hS.sx,hS.fk,hS.us,hS.two,hS.rt,hS.lks,(hS.pm.below hb).up hb.size,hS.vs,fun z hz=>h.stayNRs (h.below hb).2 (hS.nn z hz)⟩
theorem hdB_up {l:List PN} {a b:Nat} (h:l=[]→a≤b):hdB l a≤hdB l b:=by
  cases l with
  | nil=>exact h rfl
  | cons x r=>exact Nat.le_refl _
theorem SeS.below {X Y:World} {Vi:PV} {b n i d:Nat} {lp:List Nat} {c:Cx d} {x:T d} {l:List PN} {pgi:Nat} (h:SeS w X B D Gp V Vi K pk m pages os es rt b n lp i c x l A fl pgi) (hb:Below X.heap.size X Y):SeS w Y B D Gp V Vi K pk m pages os es rt b n lp i c x l A fl pgi:=
  ⟨h.st.below h.ts hb,h.len,h.ps,Nat.le_trans h.low (hdB_up fun _=>hb.size),(h.ts.below hb).1,h.tf.trans (h.ts.tf (h.ts.below hb).2 b),h.pg⟩
set_option maxRecDepth 20000 in
set_option maxHeartbeats 4000000 in
theorem ctsettle {d:Nat} {c:Cx d} {x:T d} {l:List PN} {lo:Nat} {s:Value} (h:TS w B D Gp V K pk m A fl pages) (hm:m+4 * l.length≤29000) (hpg:pages+l.length<56000) (ht:TB w tb Gp root) (hS:Stl w A fl pages os es rt c x l) (hr:w.ownsRow lo 94 1 s l.length (rowP l)) :
    Calls Tryz.prog 99 #[(.pointer (some ⟨tb,0,none⟩)),s] w fun e w'=>e=.returned (.tuple #[])∧settPost w B D Gp V K pk m pages os es rt (hdB l w.heap.size) l.length w':=by
  obtain ⟨n,hn⟩:∃ n,l.length=n:=⟨_,rfl⟩
  obtain ⟨b,hb⟩:∃ b,hdB l w.heap.size=b:=⟨_,rfl⟩
  have hn1:0<n:=by
    obtain ⟨tk,hv⟩:=hS.vs
    have:=congrArg List.length hv
    simp at this
    omega
  have HI:Hid (SeS w w B D Gp V V K pk m pages os es rt b n (l.map (·.p)) (n - 1) c x l A fl pages):=⟨hS,by omega,(List.take_of_length_le (by rw [List.length_map];omega)).symm,by rw [hb];exact Nat.le_refl _,h.mono (by omega),TF.refl _ _ _ _,by omega⟩
  rw [hn] at hr hm hpg ⊢
  rw [hb]
  obtain ⟨g,cap,cur,rfl,hbg,hg,hc1,hc2,hc3,hc4⟩:∃ g cap cur,s=.slice (some ⟨g,0,none⟩) n cap∧lo≤g∧w.heap[g]? = some (.cells cur 94 (0,0))∧n≤cap∧cap≤maxLen∧cur.size=cap * 1∧cur.toList.take (n * 1)=rowP l:=by
    rcases hr.2 with ⟨_,h0⟩ | ⟨g,cap,cur,e,rest⟩
    · omega
    · exact ⟨g,cap,cur,e,rest⟩
  have HP:=hide (show ∀ (X:World) (Vi:PV),TF b B w X V Vi→∀ j,j<n→∃ pj,(l.map (·.p))[j]? = some pj∧X.cell? ⟨g,j,none⟩=some (.pointer (some ⟨pj,0,none⟩)) from fun X Vi htf j hj=>by
    have hg':=htf.blk g cur _ hg (by decide) (by decide) (by decide)
    have hj':j<l.length:=by omega
    refine ⟨l[j].p,by simp [hj'],?_⟩
    have e1:(cur.toList.take (n * 1))[j]? = (rowP l)[j]?:=by rw [hc4]
    rw [List.getElem?_take,if_pos (by omega)] at e1
    simp only [World.cell?,hg']
    rw [← Array.getElem?_toList,e1]
    simp [rowP,hj'])
  have HT:=hide (show TS w B D Gp V K pk m A fl pages∧TB w tb Gp root∧m+4 * n≤29000∧pages+n<56000 from ⟨h,ht,hm,hpg⟩)
  generalize l.map (·.p)=lp at *
  have hn2:n≤10000:=by omega
  clear h ht hS hr hn hb hg hc1 hc2 hc3 hc4 hbg hm hpg
  have hwn:wrap64 ((n:Int) - 1)=((n - 1:Nat):Int):=by unfold wrap64;omega
  go_enter Tryz.func99,Tryz.ntmps99
  go_wp2_with fail
  go_loopw [4] (fun x4 X=>∃ (i d:Nat) (c:Cx d) (x:T d) (l:List PN) (Vi:PV) (Ai:Nat→PgV) (fli:List Nat) (pgi:Nat),x4=.int .i64 (i:Int)∧i<n∧Hid (SeS w X B D Gp V Vi K pk m pages os es rt b n lp i c x l Ai fli pgi)) (fun x4 _=>(intOf x4).toNat)
  case atStart=>exact ⟨n - 1,d,c,x,l,V,A,fl,pages,(by congr 1;omega),by omega,HI⟩
  case round =>
    obtain ⟨i,d,c,x,l,Vi,Ai,fli,pgi,rfl,hi,HS⟩:=hrel
    by_cases hi0:0<i
    · have hne:¬ c.nvs (numT d x)=[]:=fun e=>by
        obtain ⟨tk,hv⟩:=HS.out.st.vs
        rw [e] at hv
        have:=congrArg List.length hv
        simp at this
        have:=HS.out.len
        omega
      obtain ⟨num,s1,k,s2,c,rfl⟩:=nvs_up' c _ hne
      obtain ⟨l0,y,z,tk,rfl,hy,hz,hl0,hpm,hny,hnz,hrs⟩:=HS.out.st.lastTwo
      obtain ⟨j,hj⟩:∃ j,i=j+1:=⟨i - 1,by omega⟩
      have hll:l0.length=j:=by have:=HS.out.len;simp at this;omega
      have hps:=HS.out.ps
      rw [List.map_append] at hps
      obtain ⟨pi,e1,e2⟩:=HP.out wr Vi HS.out.tf i hi
      obtain ⟨pj,e3,e4⟩:=HP.out wr Vi HS.out.tf j (by omega)
      have e5:pi=z.p:=by
        have q:(lp.take (i+1))[i]? = some pi:=by rw [List.getElem?_take,if_pos (by omega),e1]
        rw [← hps,List.getElem?_append_right (by simp;omega)] at q
        simp only [List.length_map,hll,hj,show j+1 - j=1 by omega] at q
        simpa using q.symm
      have e6:pj=y.p:=by
        have q:(lp.take (i+1))[j]? = some pj:=by rw [List.getElem?_take,if_pos (by omega),e3]
        rw [← hps,List.getElem?_append_right (by simp;omega)] at q
        simp only [List.length_map,hll,Nat.sub_self] at q
        simpa using q.symm
      subst e5 e6
      have e7:wr.cell? ⟨g,i - 1,none⟩=some (.pointer (some ⟨y.p,0,none⟩)):=by rw [show i - 1=j by omega];exact e4
      have hw1:wrap64 ((i:Int) - 1)=(j:Int):=by unfold wrap64;omega
      have hin:(i:Int)<(n:Int):=by omega
      have hjn:(j:Int)<(n:Int):=by omega
      have h0i:(0:Int)<(i:Int):=by omega
      have hi00:(0:Int)≤(i:Int):=by omega
      have hj00:(0:Int)≤(j:Int):=by omega
      have hbj:b≤y.b:=Nat.le_trans HS.out.low (HS.out.st.pm.les y (by simp))
      have hbz:b≤z.b:=Nat.le_trans HS.out.low (HS.out.st.pm.les z (by simp))
      have hlow:∀ (y':PN) (t:Nat),y'.b=y.b→b≤hdB (l0 ++ [y']) t:=fun y' t e=>by
        cases l0 with
        | nil=>show b≤y'.b;omega
        | cons a r=>exact HS.out.low
      have hps':∀ y':PN,y'.p=y.p→(l0 ++ [y']).map (·.p)=lp.take (j+1):=fun y' e=>by
        have q:=congrArg (List.take (j+1)) hps
        rw [List.take_take,show min (j+1) (i+1)=j+1 by omega] at q
        rw [← q,List.map_append,List.take_append,List.take_of_length_le (by simp;omega)]
        simp [hll,e]
      obtain ⟨a,cp,nb,st⟩:=hrs.nr
      have hcz:z.v.cells=cellsT d x:=by rw [hz];rfl
      have HUS:=hide (fun (Y:World) (hY:Below wr.heap.size wr Y)=>cusedB (HS.out.ts.staySt (HS.out.ts.below hY).2 st) cp (by rw [hcz];have:=HS.out.st.us;omega))
      simp only [hcz] at HUS
      obtain ⟨u0,u1,u2,u3,u4,u5,u6,u7,u8⟩:=nb.cells
      rw [hcz] at u2
      have HJ:=hide (show i=j+1∧l0.length=j∧b≤y.b∧b≤z.b∧i<n from ⟨hj,hll,hbj,hbz,hi⟩)
      have HL:=hide (show (∀ (y':PN) (t:Nat),y'.b=y.b→b≤hdB (l0 ++ [y']) t)∧(∀ y':PN,y'.p=y.p→(l0 ++ [y']).map (·.p)=lp.take (j+1)) from ⟨hlow,hps'⟩)
      have hTB:=HS.out.tf.stayTB HT.out.2.1
      have HTB:=hide (hTB)
      obtain ⟨us,hus⟩:∃ us,usedC (cellsT d x)=us:=⟨_,rfl⟩
      simp only [hus] at HUS
      obtain ⟨cl,hcl⟩:∃ cl,(cellsT d x).length=cl:=⟨_,rfl⟩
      simp only [hcl] at HUS
      rw [hcl] at u2
      have HUU:=hide (hus)
      have hTT:=HT.out
      clear hj hll hps e1 e3 hbj hbz hlow hps' nb st hcz u0 u1 u3 u4 u5 u6 u7 hTB hus hcl hny hnz hrs hpm hne hi
      by_cases h1:1012<us
      · have h1':(1012:Int)<(us:Int):=by omega
        have HSP:=hide (fun (Y:World) (hY:SeS w Y B D Gp V Vi K pk m pages os es rt b n lp i (.up num s1 k s2 c) x (l0 ++ [y,z]) Ai fli pgi)=>Stl.split hY.ts (by omega) (by have:=hY.pg;omega) (hY.tf.stayTB HT.out.2.1) hY.st (by rw [HUU.out];exact h1))
        go_wp2_with fail
        go_region
        go_wp2_with fail
        refine (HUS.out _ (drawnB wr 1)).mono ?_
        rintro e w1 ⟨rfl,hw⟩;rw [hw];clear hw
        go_wp2_with fail
        refine (HSP.out _ (HS.out.below (drawnB wr 1))).mono ?_
        rintro e w2 ⟨rfl,V2,A2,fl2,pg2,x2,y2,q1,q2,q3,q4,q5,q6⟩
        have HN:Hid (SeS w w2 B D Gp V V2 K pk m pages os es rt b n lp j c x2 (l0 ++ [y2]) A2 fl2 pg2):=by
          have hS:=HS.out.below (drawnB wr 1)
          have hJ:=HJ.out
          exact ⟨q3,by simp [hJ.2.1],HL.out.2 y2 q4,HL.out.1 y2 _ q5,q1.mono (by omega),hS.tf.trans (q2.mono hJ.2.2.1),by have:=hS.pg;omega⟩
        clear q1 q2 q3 q4 q5 q6 HSP HUS
        go_wp2_with fail
        go_roundw
        case rel=>exact ⟨j,d+1,c,x2,l0 ++ [y2],V2,A2,fl2,pg2,(by have:=HJ.out;congr 1;omega),by have:=HJ.out;omega,HN⟩
        case measure=>simp [intOf];have:=HJ.out;omega
      · by_cases h2:us<180
        · have h1':¬ (1012:Int)<(us:Int):=by omega
          have h2':(us:Int)<180:=by omega
          have HSP:=hide (fun (Y:World) (hY:SeS w Y B D Gp V Vi K pk m pages os es rt b n lp i (.up num s1 k s2 c) x (l0 ++ [y,z]) Ai fli pgi)=>Stl.join hY.ts (by omega) (hY.tf.stayTB HT.out.2.1) hY.st (by rw [HUU.out];exact h2))
          go_wp2_with fail
          go_region
          go_wp2_with fail
          refine (HUS.out _ (drawnB wr 1)).mono ?_
          rintro e w1 ⟨rfl,hw⟩;rw [hw];clear hw
          go_wp2_with fail
          refine (HSP.out _ (HS.out.below (drawnB wr 1))).mono ?_
          rintro e w2 ⟨rfl,V2,A2,fl2,x2,y2,q1,q2,q3,q4,q5⟩
          have HN:Hid (SeS w w2 B D Gp V V2 K pk m pages os es rt b n lp j c x2 (l0 ++ [y2]) A2 fl2 pgi):=by
            have hS:=HS.out.below (drawnB wr 1)
            have hJ:=HJ.out
            exact ⟨q3,by simp [hJ.2.1],HL.out.2 y2 q4,HL.out.1 y2 _ q5,q1.mono (by omega),hS.tf.trans (q2.mono hJ.2.2.1),by have:=hS.pg;omega⟩
          clear q1 q2 q3 q4 q5 HSP HUS
          go_wp2_with fail
          go_roundw
          case rel=>exact ⟨j,d+1,c,x2,l0 ++ [y2],V2,A2,fl2,pgi,(by have:=HJ.out;congr 1;omega),by have:=HJ.out;omega,HN⟩
          case measure=>simp [intOf];have:=HJ.out;omega
        · have h1':¬ (1012:Int)<(us:Int):=by omega
          have h2':¬ (us:Int)<180:=by omega
          have HWR:=hide (fun (Y:World) (hY:SeS w Y B D Gp V Vi K pk m pages os es rt b n lp i (.up num s1 k s2 c) x (l0 ++ [y,z]) Ai fli pgi)=>ctwrite hY.ts (by omega) (hY.tf.stayTB HT.out.2.1) (hY.st.nn z (by simp)).nr (v:=z.v) (by rw [hz];exact ⟨by show 1≤kindT d∧kindT d≤5;rcases kind_cases d with ⟨_,e⟩ | ⟨_,e⟩ <;> rw [e] <;> omega,hY.st.lks,by show usedC (cellsT d x)≤1012;rw [HUU.out];omega⟩) (by rw [hz];exact hY.st.sx.ownX.1) (by rw [hz];exact hY.st.sx.ownX.2.1) (by rw [hz];exact hY.st.sx.ownX.2.2))
          have HZZ:=hide (hz)
          go_wp2_with fail
          go_region
          go_wp2_with fail
          refine (HUS.out _ (drawnB wr 1)).mono ?_
          rintro e w1 ⟨rfl,hw⟩;rw [hw];clear hw
          go_wp2_with fail
          refine (HWR.out _ (HS.out.below (drawnB wr 1))).mono ?_
          rintro e w2 ⟨rfl,V2,q1,q2⟩
          have HE:Hid (settPost w B D Gp V K pk m pages os es rt b n w2):=by
            have hS:=HS.out.below (drawnB wr 1)
            have hJ:=HJ.out
            rw [HZZ.out] at q1
            have hsx:=hS.st.sx.wr (pgT d x)
            obtain ⟨D',t,hT,hnum⟩:=Sx.whole _ x hsx (updA_at _ _ _) ⟨hS.st.fk,.inr (by rw [HUU.out];omega),by rw [HUU.out];omega,.inr (fun e=>by have:=HUU.out;rw [e] at this;simp [usedC] at this;omega)⟩ hS.st.two
            exact ⟨V2,_,fli,pgi,D',t,q1.mono (by omega),hT,by rw [hnum];exact hS.st.rt,hS.tf.trans (hS.ts.tf q2 b),by have:=hS.pg;omega⟩
          clear q1 q2 HWR HUS
          go_wp2
          refine bodyPost_ret (results_none rfl _ _ _) rfl ?_
          exact ⟨rfl,HE.out⟩
    · have hi00:i=0:=by omega
      subst hi00
      have hnil:c.nvs (numT d x)=[]:=by
        obtain ⟨tk,hv⟩:=HS.out.st.vs
        have q:=congrArg List.length hv
        have:=HS.out.len
        simp at q
        exact List.length_eq_zero_iff.1 (by omega)
      have hct:=nvs_top c _ hnil
      subst hct
      obtain ⟨z,hz⟩:∃ z,l=[z]:=by
        have:=HS.out.len
        match l,this with
        | [z],_=>exact ⟨z,rfl⟩
      subst hz
      obtain ⟨pi,e1,e2⟩:=HP.out wr Vi HS.out.tf 0 hi
      have e5:pi=z.p:=by
        have hps:=HS.out.ps
        have q:(lp.take 1)[0]? = some pi:=by rw [List.getElem?_take,if_pos (by omega),e1]
        have hps:[z.p]=lp.take 1:=hps
        rw [← hps] at q
        simpa using q.symm
      subst e5
      have h0n:(0:Int)<(n:Int):=by omega
      have hTT:=HT.out
      have HR:=hide (croot HS.out.ts (by omega) (by have:=HS.out.pg;omega) (HS.out.tf.stayTB HT.out.2.1) HS.out.st)
      go_wp2_with fail
      refine HR.out.mono ?_
      rintro e w2 ⟨rfl,V2,A2,fl2,pg2,d2,t2,q1,q2,q3,q4,q5⟩
      have HE:Hid (settPost w B D Gp V K pk m pages os es rt b n w2):=by
        have hS:=HS.out
        exact ⟨V2,A2,fl2,pg2,d2,t2,q1.mono (by omega),q2,q3,hS.tf.trans (q4.mono hS.low),by have:=hS.pg;omega⟩
      clear q1 q2 q3 q4 q5 HR
      go_wp2
      go_end0
      exact ⟨rfl,HE.out⟩
end
end Go.Proofs.YtmgjdjjfeapcdaaGreat
namespace Go.Proofs.YtmgjdjjfeapcdaaGreat
open Go.RowKit Go.Lib
/- what stands ahead of a place is below it, what stands behind it is not -/
theorem pre_lt:∀ {d:Nat} (c:Cx d) {lo hi:ByteArray},c.bnd lo hi→∀ e ∈ c.pre,klt e.1 lo=true
  | _,.top _,_,_,_,e,he=>by simp [Cx.pre] at he
  | d, .up _ s1 k s2 c, lo, hi, h, e, he => by
    obtain ⟨lo',hi',h1,rfl,h3,h4,h5,h6,h7,h8,h9,h10⟩:=h
    simp only [Cx.pre,List.mem_append] at he
    have hok:¬ s1=[]→okK lo:=fun hn=>h10.resolve_left hn
    rcases he with he | he
    · have q:=pre_lt c h1 e he
      cases s1 with
      | nil =>
        have h7:lo=lo':=h7
        rw [h7];exact q
      | cons p r =>
        have h7:p.1=lo':=h7
        have hlt:ltB p.1 lo:=bs_ltB d (p :: r) lo h4 (by simp)
        rw [h7] at hlt
        exact klt_tr q (ltB_ne hlt (hok (by simp)))
    · have hne:¬ s1=[]:=fun e'=>by rw [e'] at he;simp [entS] at he
      exact ltB_ne (entS_in d s1 lo h4 e he).2.1 (hok hne)
theorem suf_gt:∀ {d:Nat} (c:Cx d) {lo hi:ByteArray},c.bnd lo hi→∀ e ∈ c.suf,¬ hi=⟨#[]⟩∧klt e.1 hi=false
  | _,.top _,_,_,_,e,he=>by simp [Cx.suf] at he
  | d, .up _ s1 k s2 c, lo, hi, h, e, he => by
    obtain ⟨lo',hi',h1,h2,h3,h4,h5,h6,h7,h8,h9,h10⟩:=h
    simp only [Cx.suf,List.mem_append] at he
    have hne2:∀ q:ByteArray,okK q→¬ q=⟨#[]⟩:=fun q hq e=>by rw [e] at hq;exact absurd hq.1 (by decide)
    rcases he with he | he
    · cases s2 with
      | nil=>simp [entS] at he
      | cons p r =>
        rw [h3]
        have:=entS_in d (p :: r) hi' h5 e he
        exact ⟨hne2 _ (h8 p (by simp)),this.1⟩
    · have q:=suf_gt c h1 e he
      cases s2 with
      | nil=>rw [h3];exact q
      | cons p r =>
        rw [h3]
        have hlt:ltB p.1 hi':=bs_ltB d (p :: r) hi' h5 (by simp)
        refine ⟨hne2 _ (h8 p (by simp)),?_⟩
        exact klt_asy (klt_le (hlt.resolve_left q.1) q.2)
/- a leaf's items, about a key -/
theorem BI_split {lo hi k:ByteArray}:∀ {its:List It},BI lo its hi→∃ a b,((its=a ++ b∧hasK (its.map (·.key)) k=false)∨∃ j,j.key=k∧its=a ++ j :: b∧hasK (its.map (·.key)) k=true)∧posK (its.map (·.key)) k=a.length∧(∀ i ∈ a,klt i.key k=true)∧∀ i ∈ b,klt k i.key=true
  | [],_=>⟨[],[],.inl ⟨rfl,by simp [hasK,posK]⟩,rfl,by simp,by simp⟩
  | i :: r, ⟨h1, h2, h3, h4, h5⟩ => by
    rcases klt_tri i.key k with e | e | e
    · obtain ⟨a,b,o,hp,ha,hb⟩:=BI_split (k:=k) h5
      have hpos:posK ((i :: r).map (·.key)) k=a.length+1:=by
        unfold posK at hp ⊢
        rw [List.map_cons,List.countP_cons_of_pos (p:=fun q=>klt q k) e,hp]
      have hhas:hasK ((i :: r).map (·.key)) k=hasK (r.map (·.key)) k:=by
        unfold hasK
        rw [hpos,hp,List.map_cons,List.getElem?_cons_succ]
      refine ⟨i :: a,b,?_,by rw [hpos];rfl,fun x hx=>?_,hb⟩
      · rcases o with ⟨o1,o2⟩ | ⟨j,o1,o2,o3⟩
        · exact .inl ⟨by rw [o1];rfl,by rw [hhas];exact o2⟩
        · exact .inr ⟨j,o1,by rw [o2];rfl,by rw [hhas];exact o3⟩
      · rcases List.mem_cons.1 hx with rfl | hx
        · exact e
        · exact ha x hx
    · have hall:∀ x ∈ r,klt k x.key=true:=fun x hx=>by rw [← e];exact h4 x hx
      have hpos:posK ((i :: r).map (·.key)) k=0:=by
        unfold posK
        rw [List.countP_eq_zero]
        intro x hx
        rw [List.map_cons,List.mem_cons] at hx
        rcases hx with rfl | hx
        · rw [e,klt_irr];decide
        · obtain ⟨y,hy,rfl⟩:=List.mem_map.1 hx
          rw [klt_asy (hall y hy)];decide
      exact ⟨[],r,.inr ⟨i,e,rfl,by unfold hasK;rw [hpos];simp [e]⟩,hpos,by simp,hall⟩
    · have hall:∀ x ∈ i :: r,klt k x.key=true:=fun x hx=>by
        rcases List.mem_cons.1 hx with rfl | hx
        · exact e
        · exact klt_tr e (h4 x hx)
      have hpos:posK ((i :: r).map (·.key)) k=0:=by
        unfold posK
        rw [List.countP_eq_zero]
        intro x hx
        obtain ⟨y,hy,rfl⟩:=List.mem_map.1 hx
        rw [klt_asy (hall y hy)];decide
      refine ⟨[],i :: r,.inl ⟨rfl,?_⟩,hpos,by simp,hall⟩
      unfold hasK
      rw [hpos]
      simp
      intro q
      rw [q,klt_irr] at e
      cases e
def entI (l:List It):List Ent:=l.map fun i=>(i.key,i.val)
/- a list of entries with one more, or another, under a key; without it -/
def PutR (es:List Ent) (k v:ByteArray) (es':List Ent):Prop:=∃ p s,(es=p ++ s∨∃ v0,es=p ++ (k,v0) :: s)∧es'=p ++ (k,v) :: s∧(∀ e ∈ p,klt e.1 k=true)∧∀ e ∈ s,klt k e.1=true
def DelR (es:List Ent) (k:ByteArray) (is:Bool) (es':List Ent):Prop:=∃ p s,((es=p ++ s∧is=false)∨∃ v0,es=p ++ (k,v0) :: s∧is=true)∧es'=p ++ s∧(∀ e ∈ p,klt e.1 k=true)∧∀ e ∈ s,klt k e.1=true
theorem nodI_fst {i:It} (h:okI i):(nodI i).map (·.1)=i.pgs:=by
  have hl:=h.pgs
  unfold nodI
  split at hl
  · rw [List.length_eq_zero_iff.1 hl];rfl
  · exact valN_fst _ _ (by rw [piece_len];exact hl)
section
variable {A A':Nat→PgV} {fl fl' os:List Nat} {pages pages' num link:Nat} {es:List Ent} {c:Cx 0} {a b:List It} {i:It}
/- the pages besides the free ones, those of an item apart -/
def heldX (c:Cx 0) (num:Nat) (its:List It) (os:List Nat):List Nat:=num :: ((its.flatMap nodI ++ c.nod num).map (·.1) ++ os)
theorem held_perm (h:okI i):(heldX c num (a ++ i :: b) os).Perm (i.pgs ++ heldX c num (a ++ b) os):=by
  unfold heldX
  simp only [List.flatMap_append,List.flatMap_cons,List.map_append,nodI_fst h,List.append_assoc]
  refine List.Perm.trans (List.Perm.cons _ ?_) List.perm_middle.symm
  rw [← List.append_assoc,← List.append_assoc i.pgs]
  exact List.Perm.append_right _ List.perm_append_comm
theorem Sx.held (h:Sx A fl pages os c (⟨num,link,a ++ i :: b⟩:Lf) es) (hi:okI i):Hold fl pages (i.pgs ++ heldX c num (a ++ b) os):=by
  have hp:(0 :: (fl ++ heldX c num (a ++ i :: b) os)).Perm (List.range pages):=h.perm
  exact (List.Perm.cons _ (List.Perm.append_left _ (held_perm hi).symm)).trans hp
/- a page of a way that is none of the item's -/
theorem held_same (h:Hold fl pages (i.pgs ++ heldX c num (a ++ b) os)) (hs:∀ x,¬ x=0→¬ x ∈ i.pgs→A' x=A x) (hA:∀ p ∈ (a ++ b).flatMap nodI ++ c.nod num,A p.1=p.2):∀ p ∈ (a ++ b).flatMap nodI ++ c.nod num,A' p.1=p.2:=fun p hp=>by
  have hin:p.1 ∈ heldX c num (a ++ b) os:=by
    unfold heldX
    exact List.mem_cons_of_mem _ (List.mem_append_left _ (List.mem_map_of_mem hp))
  have hnd:=h.nd
  simp only [List.nodup_cons,List.nodup_append] at hnd
  rw [hs p.1 (fun e=>by have:=(h.mem (n:=p.1) (List.mem_append_right _ hin)).1;omega) (fun e=>hnd.2.2.1.2.2 _ e _ hin rfl)]
  exact hA p hp
theorem BI_without {lo hi:ByteArray} (h:BI lo (a ++ i :: b) hi):BI lo (a ++ b) hi:=by
  have h1:=(BI_app a (i :: b) hi).1 h
  exact (BI_app a b hi).2 ⟨h1.1,h1.2.1.2.2.2.2,fun x hx y hy=>h1.2.2 x hx y (by simp [hy])⟩
theorem BI_with {lo hi:ByteArray} (h:BI lo (a ++ b) hi) (hi':okI i) (h1:klt i.key lo=false) (h2:ltB i.key hi) (ha:∀ x ∈ a,klt x.key i.key=true) (hb:∀ x ∈ b,klt i.key x.key=true):BI lo (a ++ i :: b) hi:=by
  have h0:=(BI_app a b hi).1 h
  exact (BI_app a (i :: b) hi).2 ⟨h0.1,⟨hi',h1,h2,hb,h0.2.1⟩,fun x hx y hy=>by
    rcases List.mem_cons.1 hy with rfl | hy
    · exact ha x hx
    · exact h0.2.2 x hx y hy⟩
theorem Sx.takeOut (h:Sx A fl pages os c (⟨num,link,a ++ i :: b⟩:Lf) es) (hi:okI i) (hh:Hold fl' pages (heldX c num (a ++ b) os)) (hs:∀ x,¬ x=0→¬ x ∈ i.pgs→A' x=A x):Sx A' fl' pages os c (⟨num,link,a ++ b⟩:Lf) (c.pre ++ entI (a ++ b) ++ c.suf):=by
  refine h.leaf (its:=a ++ b) (fun lo hi' _ hb=>BI_without hb) rfl ?_ hh
  refine held_same (h.held hi) hs fun p hp=>h.rep p ?_
  show p ∈ (a ++ i :: b).flatMap nodI ++ c.nod num
  simp only [List.flatMap_append,List.flatMap_cons,List.mem_append] at hp ⊢
  rcases hp with (hp | hp) | hp <;> simp [hp]
theorem Sx.putIn (h:Sx A fl pages os c (⟨num,link,a ++ b⟩:Lf) es) (hi:okI i) (h1:∀ lo hi',c.bnd lo hi'→klt i.key lo=false∧ltB i.key hi') (ha:∀ x ∈ a,klt x.key i.key=true) (hb:∀ x ∈ b,klt i.key x.key=true) (hh:Hold fl' pages' (i.pgs ++ heldX c num (a ++ b) os)) (hn:∀ q ∈ nodI i,A' q.1=q.2) (hs:∀ x,¬ x=0→¬ x ∈ i.pgs→A' x=A x):Sx A' fl' pages' os c (⟨num,link,a ++ i :: b⟩:Lf) (c.pre ++ entI (a ++ i :: b) ++ c.suf):=by
  refine h.leaf (its:=a ++ i :: b) (fun lo hi' hc hbi=>BI_with hbi hi (h1 lo hi' hc).1 (h1 lo hi' hc).2 ha hb) rfl (fun p hp=>?_) ((List.Perm.cons _ (List.Perm.append_left _ (held_perm hi))).trans hh)
  have hold:=held_same (num:=num) (c:=c) (os:=os) (a:=a) (b:=b) hh hs h.rep
  simp only [List.flatMap_append,List.flatMap_cons,List.mem_append] at hp
  rcases hp with (hp | hp | hp) | hp
  · exact hold p (by simp [List.flatMap_append,hp])
  · exact hn p hp
  · exact hold p (by simp [List.flatMap_append,hp])
  · exact hold p (by simp [hp])
end
end Go.Proofs.YtmgjdjjfeapcdaaGreat
namespace Go.Proofs.YtmgjdjjfeapcdaaGreat
open Go.RowKit Go.Lib Go.Maps Go.Sort
attribute [local go_sem ↓] Go.wp_at_zero Go.wp_at_succ
def tkPost (w:World) (B D Gp:Nat) (V:PV) (K:Pgs) (pk m:Nat) (A:Nat→PgV) (pages:Nat) (ps X:List Nat) (b p:Nat) (v:NV) (w':World):Prop:=
  ∃ (V':PV) (A':Nat→PgV) (fl':List Nat),TS w' B D Gp V' K pk (m+2 * ps.length) A' fl' pages∧TF b B w w' V V'∧Hold fl' pages X∧(∀ x,¬ x=0→¬ x ∈ ps→A' x=A x)∧NDb w' b w'.heap.size p v∧NRs w' p v
section
variable {w w':World} {B D Gp:Nat} {V V':PV} {K:Pgs} {pk m:Nat} {A:Nat→PgV} {fl os:List Nat} {pages tb root rt:Nat} {es:List Ent}
set_option maxRecDepth 20000 in
set_option maxHeartbeats 2000000 in
theorem ctake (h:TS w B D Gp V K pk m A fl pages) (hm:m≤35000) (ht:TB w tb Gp root) {b top p:Nat} {v:NV} (hn:NDb w b top p v) (j:Nat) (hj:j<v.cells.length) (hl:v.cells.length≤1000) (i:It) (hi:okI i) (hc:tx v.cells j=cellI i) (hA:∀ q ∈ nodI i,A q.1=q.2) {X:List Nat} (hX:Hold fl pages (i.pgs ++ X)) :
    Calls Tryz.prog 96 #[(.pointer (some ⟨tb,0,none⟩)),(.pointer (some ⟨p,0,none⟩)),.int .i64 (j:Int)] w fun e w'=>e=.returned (.tuple #[])∧tkPost w B D Gp V K pk m A pages i.pgs X b p { v with cells:=v.cells.eraseIdx j } w':=by
  obtain ⟨s,nb,ho,hbp,hpt,hg⟩:=hn
  have hn:NDb w b top p v:=⟨s,nb,ho,hbp,hpt,hg⟩
  obtain ⟨g,cap,cur,rfl,hbg,hgg,hc1,hc2,hc3,hc4,hc5⟩:=own_cur (n:=v.cells.length) ho (by omega)
  have hcell:w.cell? ⟨g,j,none⟩=some (.string (cellI i)):=by
    have:=hc5 j hj
    rw [List.getElem?_eq_getElem hj,← tx_get hj,hc] at this
    simp only [World.cell?,hgg]
    exact this
  obtain ⟨u0,u1,u2,u3,u4,u5,u6,u7,u8⟩:=nb.cells
  have HF:=hide (cfreeValue h (by omega) ht i hi hA hX)
  have HN:=hide (show TS w B D Gp V K pk m A fl pages∧NDb w b top p v from ⟨h,hn⟩)
  have HJ:=hide (show j<v.cells.length∧v.cells.length≤1000 from ⟨hj,hl⟩)
  obtain ⟨cl,hcl⟩:∃ cl,v.cells.length=cl:=⟨_,rfl⟩
  rw [hcl] at u2
  have hji:(j:Int)<(cl:Int):=by omega
  have hj0:(0:Int)≤(j:Int):=by omega
  have hglt:g<w.heap.size:=(Array.getElem?_eq_some_iff.1 hgg).1
  generalize cellI i=ci at *
  clear h ht hn nb ho hbp hpt hg hgg hc1 hc2 hc3 hc4 hc5 hi hc hA hX hj hl hcl u0 u1 u3 u4 u5 u6 u7
  go_enter Tryz.func96,Tryz.ntmps96
  go_wp2_with fail
  refine HF.out.mono ?_
  rintro e w1 ⟨rfl,V1,A1,fl1,k1,k2,k3,k4⟩
  have hn1:=HN.out.1.stayNDb k2 HN.out.2
  have HR:=hide (cremoveN hn1 HJ.out.2 j HJ.out.1)
  have HK:=hide (show TS w1 B D Gp V1 K pk (m+2 * i.pgs.length) A1 fl1 pages∧St2 w w1 B V V1∧Hold fl1 pages X∧∀ x,¬ x=0→¬ x ∈ i.pgs→A1 x=A x from ⟨k1,k2,k3,k4⟩)
  clear k1 k2 k3 k4 hn1 HF
  go_wp2_with fail
  refine HR.out.mono ?_
  rintro e w2 ⟨rfl,q1,q2,q3⟩
  have HE:Hid (tkPost w B D Gp V K pk m A pages i.pgs X b p { v with cells:=v.cells.eraseIdx j } w2):=by
    obtain ⟨k1,k2,k3,k4⟩:=HK.out
    exact ⟨V1,A1,fl1,q2.ts k1,(HN.out.1.tf k2 b).trans (q2.tf k1),k3,k4,q1,q3⟩
  clear q1 q2 q3 HR
  go_wp2
  go_end0
  exact ⟨rfl,HE.out⟩
end
end Go.Proofs.YtmgjdjjfeapcdaaGreat
namespace Go.Proofs.YtmgjdjjfeapcdaaGreat
open Go.RowKit Go.Lib Go.Maps Go.Sort
attribute [local go_sem ↓] Go.wp_at_zero Go.wp_at_succ
theorem leaf_keys {lo hi:ByteArray} {x:T 0} (h:Bnd 0 lo hi x):(cellsT 0 x).map keyB=x.its.map (·.key):=by
  simp only [cellsT,List.map_map]
  exact List.map_congr_left fun i hi=>(cellI_key (BI_mem h i hi).1).1
theorem leaf_cells {lo hi:ByteArray} {x:T 0} (h:Bnd 0 lo hi x):∀ c ∈ cellsT 0 x,kS c≤c.size∧c.size≤240:=fun c hc=>by
  simp only [cellsT,List.mem_map] at hc
  obtain ⟨i,hi,rfl⟩:=hc
  exact ⟨(cellI_key (BI_mem h i hi).1).2.1,cellI_sz (BI_mem h i hi).1⟩
section
variable {w w':World} {B D Gp:Nat} {V V':PV} {K:Pgs} {pk m:Nat} {A:Nat→PgV} {fl os:List Nat} {pages tb root rt:Nat} {es:List Ent}
theorem Way.leaf {c:Cx 0} {x:T 0} {l:List PN} {key:ByteArray} {lo:Nat} (hW:Way w A fl pages os es rt lo c x l key) (h:TS w B D Gp V K pk m A fl pages):∃ l0 z,l=l0 ++ [z]∧PM w l0 z.b∧NDb w z.b w.heap.size z.p (nvT 0 x c.lo c.hi 0)∧l0.map (·.v)=c.nvs (numT 0 x)∧x.link≤2147483647∧lo≤hdB l w.heap.size∧hdB l w.heap.size≤z.b∧z.b≤w.heap.size:=by
  obtain ⟨l0,l1,e,h0,h1⟩:=List.map_eq_append_iff.1 hW.vs
  obtain ⟨z,l2,e2,hz,h2⟩:=List.map_eq_cons_iff.1 h1
  have h2:l2=[]:=by simpa using h2
  subst h2 e2 e
  have hpm:=PM.app.1 hW.pm
  have hl:=(h.okA hW.sx.own.1).link
  rw [hW.own] at hl
  have hnz:NDb w z.b w.heap.size z.p z.v:=hpm.2.1
  have hzb:z.b≤w.heap.size:=by obtain ⟨_,_,_,q1,q2,_⟩:=hnz;omega
  rw [hz] at hnz
  exact ⟨l0,z,rfl,hpm.1,hnz,h0,hl,hW.lows,hW.pm.les z (by simp),hzb⟩
theorem TF.row {b:Nat} (h:TF b B w w' V V') {lo n:Nat} {s:Value} {xs:List Value} (hr:w.ownsRow lo 94 1 s n xs):w'.ownsRow lo 94 1 s n xs:=by
  refine row_keep hr fun g hg=>?_
  obtain ⟨cs,hcs⟩:=row_isC hr hg
  rw [h.blk g cs _ hcs (by decide) (by decide) (by decide),hcs]
/- the way's leaf is another one -/
theorem mkStl {c:Cx 0} {x x1:T 0} {l0:List PN} {z:PN} {A':Nat→PgV} {fl':List Nat} {pages':Nat} {es':List Ent} {W:World} {V1 V2:PV} (hsx:Sx A' fl' pages' os c x1 es') (hus:usedC (cellsT 0 x1)≤1300) (htwo:c.two) (hrt:c.root (numT 0 x)=rt) (hnum:numT 0 x1=numT 0 x) (hlk:x1.link≤2147483647) (hpm:PM w l0 z.b) (htf:TF z.b B w W V1 V2) (hl0:l0.map (·.v)=c.nvs (numT 0 x)) (hnd:NDb W z.b W.heap.size z.p (nvT 0 x1 c.lo c.hi 0)) (hnn:NRs W z.p (nvT 0 x1 c.lo c.hi 0)):Stl W A' fl' pages' os es' rt c x1 (l0 ++ [⟨z.b,z.p,nvT 0 x1 c.lo c.hi 0⟩]):=
  ⟨hsx,trivial,hus,htwo,by rw [hnum];exact hrt,hlk,PM.snoc (x:=⟨z.b,z.p,_⟩) (htf.pm l0 z.b (Nat.le_refl _) hpm) hnd,⟨0,by rw [hnum];simp [hl0]⟩,fun y hy=>by
    rw [List.getLast?_concat] at hy
    cases hy
    exact hnn⟩
def putPost (w:World) (B D Gp:Nat) (V:PV) (K:Pgs) (pk m pages:Nat) (os:List Nat) (rt d:Nat) (R:List Ent→Prop) (w':World):Prop:=
  ∃ (V':PV) (A':Nat→PgV) (fl':List Nat) (pages' d':Nat) (t:T d') (es':List Ent),TS w' B D Gp V' K pk (m+4 * d+30) A' fl' pages'∧Tr A' fl' pages' os t es'∧numT d' t=rt∧R es'∧St2 w w' B V V'∧pages'≤pages+d+7
theorem rowP_last {lo:Nat} {s:Value} {l0:List PN} {z:PN} (h:w.ownsRow lo 94 1 s (l0 ++ [z]).length (rowP (l0 ++ [z]))):∃ g cap,s=.slice (some ⟨g,0,none⟩) (l0.length+1) cap∧w.cell? ⟨g,0+l0.length,none⟩=some (.pointer (some ⟨z.p,0,none⟩)):=by
  rcases h.2 with ⟨_,h0⟩ | ⟨g,cap,cur,e,_,hg,h1,h2,h3,h4⟩
  · simp at h0
  · refine ⟨g,cap,by rw [e];simp,?_⟩
    have e1:(cur.toList.take ((l0 ++ [z]).length * 1))[l0.length]? = (rowP (l0 ++ [z]))[l0.length]?:=by rw [h4]
    rw [List.getElem?_take,if_pos (by simp)] at e1
    simp only [World.cell?,hg,Nat.zero_add]
    rw [← Array.getElem?_toList,e1]
    simp [rowP]
/- the place of a key in a leaf, and what stands about it in the whole -/
theorem Way.about {c:Cx 0} {x:T 0} {l:List PN} {k:ByteArray} {lo:Nat} (hW:Way w A fl pages os es rt lo c x l k):∃ a b,((x.its=a ++ b∧hasK (x.its.map (·.key)) k=false)∨∃ j,j.key=k∧x.its=a ++ j :: b∧hasK (x.its.map (·.key)) k=true)∧posK (x.its.map (·.key)) k=a.length∧(∀ i ∈ a,klt i.key k=true)∧(∀ i ∈ b,klt k i.key=true)∧(∀ e ∈ c.pre ++ entI a,klt e.1 k=true)∧(∀ e ∈ entI b ++ c.suf,klt k e.1=true)∧(∀ lo' hi',c.bnd lo' hi'→klt k lo'=false∧ltB k hi'):=by
  have hb:BI c.lo x.its c.hi:=hW.sx.wf.at
  obtain ⟨a,b,h1,h2,h3,h4⟩:=BI_split (k:=k) hb
  obtain ⟨lo',hi',hc,-⟩:=hW.sx.wf.bnd
  obtain ⟨e1,e2⟩:=bnd_eq c hc
  refine ⟨a,b,h1,h2,h3,h4,fun e he=>?_,fun e he=>?_,fun lo2 hi2 hc2=>?_⟩
  · rcases List.mem_append.1 he with he | he
    · have:=pre_lt c hc e he
      rw [e1] at this
      exact klt_le this hW.k1
    · obtain ⟨i,hi,rfl⟩:=List.mem_map.1 he
      exact h3 i hi
  · rcases List.mem_append.1 he with he | he
    · obtain ⟨i,hi,rfl⟩:=List.mem_map.1 he
      exact h4 i hi
    · have:=suf_gt c hc e he
      rw [e2] at this
      exact klt_le (hW.k2.resolve_left this.1) this.2
  · obtain ⟨e3,e4⟩:=bnd_eq c hc2
    rw [e3,e4]
    exact ⟨hW.k1,hW.k2⟩
theorem pgs_few {i:It} (h:okI i):i.pgs.length≤3:=by
  rw [h.pgs]
  have:=h.val
  split <;> omega
theorem hdB_z (l0:List PN) (z z':PN) (h:z'.b=z.b) (t t':Nat):hdB (l0 ++ [z']) t'=hdB (l0 ++ [z]) t:=by
  cases l0 with
  | nil=>exact h
  | cons a r=>rfl
theorem rowP_z (l0:List PN) (z z':PN) (h:z'.p=z.p):rowP (l0 ++ [z'])=rowP (l0 ++ [z]):=by simp [rowP,h]
theorem erase_mid {a b:List It} {j:It}:((a ++ j :: b).map cellI).eraseIdx a.length=(a ++ b).map cellI:=by
  rw [List.map_append,List.eraseIdx_append_of_length_le (by simp)]
  simp
theorem ins_mid {a b:List It} {j:It}:insL ((a ++ b).map cellI) a.length (cellI j)=(a ++ j :: b).map cellI:=by
  unfold insL
  rw [List.map_append,List.take_left' (by simp),List.drop_left' (by simp)]
  simp
/- the item under a key is taken -/
theorem Way.take {c:Cx 0} {x:T 0} {l0:List PN} {z:PN} {k:ByteArray} {lo:Nat} {a b:List It} {j:It} {Y:World} (hW:Way w A fl pages os es rt lo c x (l0 ++ [z]) k) (h:TS w B D Gp V K pk m A fl pages) (hm:m≤35000) (ht:TB w tb Gp root) (hnz:NDb w z.b w.heap.size z.p (nvT 0 x c.lo c.hi 0)) (hits:x.its=a ++ j :: b) (hcx:(cellsT 0 x).length≤1000) (hY:Below w.heap.size w Y) :
    Calls Tryz.prog 96 #[(.pointer (some ⟨tb,0,none⟩)),(.pointer (some ⟨z.p,0,none⟩)),.int .i64 (a.length:Int)] Y fun e w'=>e=.returned (.tuple #[])∧∃ (V':PV) (A':Nat→PgV) (fl':List Nat),TS w' B D Gp V' K pk (m+6) A' fl' pages∧TF z.b B w w' V V'∧Sx A' fl' pages os c (⟨x.num,x.link,a ++ b⟩:Lf) (c.pre ++ entI (a ++ b) ++ c.suf)∧NDb w' z.b w'.heap.size z.p (nvT 0 (⟨x.num,x.link,a ++ b⟩:Lf) c.lo c.hi 0)∧NRs w' z.p (nvT 0 (⟨x.num,x.link,a ++ b⟩:Lf) c.lo c.hi 0):=by
  have hx:x=(⟨x.num,x.link,a ++ j :: b⟩:Lf):=by rw [← hits]
  have hbx:BI c.lo x.its c.hi:=hW.sx.wf.at
  have hj:okI j:=(BI_mem hbx j (by rw [hits];simp)).1
  have hsx:=hW.sx
  rw [hx] at hsx
  have hcells:cellsT 0 x=(a ++ j :: b).map cellI:=by show x.its.map cellI=_;rw [hits]
  have hlt:a.length<(cellsT 0 x).length:=by rw [hcells];simp
  have htx:tx (cellsT 0 x) a.length=cellI j:=by
    rw [hcells,tx_map cellI (by simp)]
    simp
  have hA:∀ q ∈ nodI j,A q.1=q.2:=fun q hq=>hsx.rep q (by
    show q ∈ (a ++ j :: b).flatMap nodI ++ c.nod x.num
    simp [List.flatMap_append,hq])
  refine (ctake (h.below hY).1 hm (h.stayTB (h.below hY).2 ht) (hnz.below hY) a.length hlt hcx j hj htx hA (hsx.held hj)).mono ?_
  rintro e w' ⟨rfl,V',A',fl',q1,q2,q3,q4,q5,q6⟩
  have hnv:({ nvT 0 x c.lo c.hi 0 with cells:=(nvT 0 x c.lo c.hi 0).cells.eraseIdx a.length }:NV)=nvT 0 (⟨x.num,x.link,a ++ b⟩:Lf) c.lo c.hi 0:=by
    show (⟨1,x.link,(cellsT 0 x).eraseIdx a.length,x.num,c.lo,c.hi,0⟩:NV)=⟨1,x.link,(a ++ b).map cellI,x.num,c.lo,c.hi,0⟩
    rw [hcells,erase_mid]
  rw [hnv] at q5 q6
  exact ⟨rfl,V',A',fl',q1.mono (by have:=pgs_few hj;omega),(h.tf (h.below hY).2 z.b).trans q2,hsx.takeOut hj q3 q4,q5,q6⟩
/- the way is settled -/
theorem Way.settle {c:Cx 0} {x x1:T 0} {l0:List PN} {z:PN} {k:ByteArray} {w0 W:World} {V0 V2:PV} {A2:Nat→PgV} {fl2:List Nat} {pages2 m2 d:Nat} {s:Value} {es2:List Ent} {R:List Ent→Prop} (hW:Way w A fl pages os es rt w0.heap.size c x (l0 ++ [z]) k) (h0:St2 w0 w B V0 V) (hB:B≤w0.heap.size) (hdl:l0.length=d) (hd:d≤20) (hm2:m2≤m+15) (hm:m≤28000) (hp2:pages2≤pages+3) (hpg:pages≤55000) (h:TS W B D Gp V2 K pk m2 A2 fl2 pages2) (ht:TB w tb Gp root) (htf:TF z.b B w W V V2) (hpm:PM w l0 z.b) (hl0:l0.map (·.v)=c.nvs (numT 0 x)) (hlo:w0.heap.size≤hdB (l0 ++ [z]) w.heap.size) (hhd:hdB (l0 ++ [z]) w.heap.size≤z.b) (hsx:Sx A2 fl2 pages2 os c x1 es2) (hus:usedC (cellsT 0 x1)≤1300) (hnum:numT 0 x1=numT 0 x) (hlk:x1.link≤2147483647) (hnd:NDb W z.b W.heap.size z.p (nvT 0 x1 c.lo c.hi 0)) (hnn:NRs W z.p (nvT 0 x1 c.lo c.hi 0)) (hrow:w.ownsRow w0.heap.size 94 1 s (l0 ++ [z]).length (rowP (l0 ++ [z]))) (hR:R es2) :
    Calls Tryz.prog 99 #[(.pointer (some ⟨tb,0,none⟩)),s] W fun e w'=>e=.returned (.tuple #[])∧putPost w0 B D Gp V0 K pk m pages os rt d R w':=by
  have hS:=mkStl (rt:=rt) hsx hus hW.two hW.rt hnum hlk hpm htf hl0 hnd hnn
  have hr2:=htf.row hrow
  rw [← rowP_z l0 z ⟨z.b,z.p,nvT 0 x1 c.lo c.hi 0⟩ rfl] at hr2
  have hlen:(l0 ++ [(⟨z.b,z.p,nvT 0 x1 c.lo c.hi 0⟩:PN)]).length=(l0 ++ [z]).length:=by simp
  rw [← hlen] at hr2
  have hlen2:(l0 ++ [(⟨z.b,z.p,nvT 0 x1 c.lo c.hi 0⟩:PN)]).length=d+1:=by simp [hdl]
  refine (ctsettle h (by rw [hlen2];omega) (by rw [hlen2];omega) (htf.stayTB ht) hS hr2).mono ?_
  rintro e w' ⟨rfl,V',A',fl',pages',d',t,q1,q2,q3,q4,q5⟩
  rw [hlen2] at q1 q5
  rw [hdB_z l0 z ⟨z.b,z.p,nvT 0 x1 c.lo c.hi 0⟩ rfl w.heap.size] at q4
  exact ⟨rfl,V',A',fl',pages',d',t,es2,q1.mono (by omega),q2,q3,hR,(((htf.mono hhd).trans q4).st w0 V0 h0 hlo hB),by omega⟩
set_option maxRecDepth 20000 in
set_option maxHeartbeats 4000000 in
theorem ctdelete (h:TS w B D Gp V K pk m A fl pages) (hm:m≤28000) (hpg:pages≤55000) {d:Nat} {t:T d} (hT:Tr A fl pages os t es) (ht:TB w tb Gp (numT d t)) (k:ByteArray) (hd:d≤20) :
    Calls Tryz.prog 54 #[(.pointer (some ⟨tb,0,none⟩)),.string k] w fun e w'=>∃ is:Bool,e=.returned (.bool is)∧putPost w B D Gp V K pk m pages os (numT d t) d (DelR es k is) w':=by
  have HPA:=hide (cpath h (by omega) hT ht k (by omega))
  have HT:=hide (show TS w B D Gp V K pk m A fl pages∧Tr A fl pages os t es∧TB w tb Gp (numT d t)∧m≤28000∧pages≤55000∧d≤20 from ⟨h,hT,ht,hm,hpg,hd⟩)
  obtain ⟨rt,hrt⟩:∃ rt,numT d t=rt:=⟨_,rfl⟩
  rw [hrt] at HPA
  have HRT:=hide (hrt)
  clear h hT ht hrt
  go_enter Tryz.func54,Tryz.ntmps54
  go_wp2_with fail
  refine HPA.out.mono ?_
  rintro e w1 ⟨V1,c,x,l,s,rfl,k1,k2,hW,hdep,hrow⟩
  obtain ⟨l0,z,rfl,hpm,hnz,hl0,hlk,hlo,hhd,hzs⟩:=hW.leaf k1
  obtain ⟨g,cap,rfl,hcl⟩:=rowP_last hrow
  have hlen:l0.length=d:=by
    have q:=congrArg List.length hl0
    rw [List.length_map] at q
    have:=nvs_len c (numT 0 x)
    omega
  have hbx:Bnd 0 c.lo c.hi x:=hW.sx.wf.at
  have hsort:=(keys_sort 0 hbx).2.1
  have hcx:(cellsT 0 x).length≤1000:=used_few hW.ok.high
  have HLA:=hide (clastN g 0 l0.length cap z.p w1 (by omega) hcl)
  have HFI:=hide (cfindN (NDb.nr hnz) (leaf_cells hbx) hcx (by show ((cellsT 0 x).map keyB).Pairwise _;rw [leaf_keys hbx];exact hsort) k)
  have e1:(nvT 0 x c.lo c.hi 0).cells.map keyB=x.its.map (·.key):=leaf_keys hbx
  rw [e1] at HFI
  obtain ⟨a,b,hab,hpos,ha,hb,hpre,hsuf,hkb⟩:=hW.about
  rw [hpos] at HFI
  have HK:=hide (show TS w1 B D Gp V1 K pk m A fl pages∧St2 w w1 B V V1∧Way w1 A fl pages os es rt w.heap.size c x (l0 ++ [z]) k∧w1.ownsRow w.heap.size 94 1 (.slice (some ⟨g,0,none⟩) (l0.length+1) cap) (l0 ++ [z]).length (rowP (l0 ++ [z])) from ⟨k1,k2,hW,hrow⟩)
  have HZ:=hide (show PM w1 l0 z.b∧NDb w1 z.b w1.heap.size z.p (nvT 0 x c.lo c.hi 0)∧l0.map (·.v)=c.nvs (numT 0 x)∧x.link≤2147483647∧w.heap.size≤hdB (l0 ++ [z]) w1.heap.size∧hdB (l0 ++ [z]) w1.heap.size≤z.b∧z.b≤w1.heap.size∧l0.length=d∧(cellsT 0 x).length≤1000 from ⟨hpm,hnz,hl0,hlk,hlo,hhd,hzs,hlen,hcx⟩)
  have HQ:=hide (show (∀ e ∈ c.pre ++ entI a,klt e.1 k=true)∧(∀ e ∈ entI b ++ c.suf,klt k e.1=true) from ⟨hpre,hsuf⟩)
  have hent:es=c.pre ++ entI x.its ++ c.suf:=hW.sx.wf.ent.symm
  have HEN:=hide (hent)
  clear k1 k2 hW hdep hrow hpm hnz hl0 hlk hlo hhd hzs hlen hbx hsort hcx e1 hpos ha hb hpre hsuf hkb hcl HPA hent
  rcases hab with ⟨hits,hhas⟩ | ⟨j,hjk,hits,hhas⟩
  · rw [hhas] at HFI
    have HE:Hid (∀ Y,Below w1.heap.size w1 Y→putPost w B D Gp V K pk m pages os rt d (DelR es k false) Y):=fun Y hY=>by
      obtain ⟨k1,k2,hW,hrow⟩:=HK.out
      refine ⟨V1,A,fl,pages,d,t,es,((k1.below hY).1).mono (by omega),HT.out.2.1,HRT.out,⟨c.pre ++ entI a,entI b ++ c.suf,.inl ⟨?_,rfl⟩,?_,HQ.out.1,HQ.out.2⟩,k2.trans (k1.below hY).2,by omega⟩
      · rw [HEN.out,hits];simp [entI]
      · rw [HEN.out,hits];simp [entI]
    clear hits hhas
    go_wp2_with fail
    refine HLA.out.mono ?_
    rintro e w2 ⟨rfl,hw⟩;rw [hw];clear hw
    go_wp2_with fail
    refine HFI.out.mono ?_
    rintro e w3 ⟨rfl,hb3⟩
    have HE2:=hide (HE.out _ hb3)
    clear hb3
    go_wp2_with fail
    go_ret
    exact ⟨false,rfl,by rw [HRT.out];exact HE2.out⟩
  · rw [hhas] at HFI
    clear hhas
    go_wp2_with fail
    refine HLA.out.mono ?_
    rintro e w2 ⟨rfl,hw⟩;rw [hw];clear hw
    go_wp2_with fail
    refine HFI.out.mono ?_
    rintro e w3 ⟨rfl,hb3⟩
    obtain ⟨k1,k2,hW,hrow⟩:=HK.out
    obtain ⟨z1,z2,z3,z4,z5,z6,z7,z8,z9⟩:=HZ.out
    obtain ⟨t1,t2,t3,t4,t5,t6⟩:=HT.out
    have HTK:=hide (hW.take k1 (by omega) (t1.stayTB k2 t3) z2 hits z9 hb3)
    have HIT:=hide (show x.its=a ++ j :: b∧j.key=k from ⟨hits,hjk⟩)
    have HST:=hide (fun (W:World) (V2:PV) (A2:Nat→PgV) (fl2:List Nat) (q1:TS W B D Gp V2 K pk (m+6) A2 fl2 pages) (q2:TF z.b B w1 W V1 V2) (q3:Sx A2 fl2 pages os c (⟨x.num,x.link,a ++ b⟩:Lf) (c.pre ++ entI (a ++ b) ++ c.suf)) (q4:NDb W z.b W.heap.size z.p (nvT 0 (⟨x.num,x.link,a ++ b⟩:Lf) c.lo c.hi 0)) (q5:NRs W z.p (nvT 0 (⟨x.num,x.link,a ++ b⟩:Lf) c.lo c.hi 0)) =>
      hW.settle (R:=DelR es k true) (d:=d) k2 t1.lo z8 t6 (show m+6≤m+15 by omega) t4 (show pages≤pages+3 by omega) t5 q1 (t1.stayTB k2 t3) q2 z1 z3 z5 z6 q3 (by
        have hu:=hW.ok.high
        have e1:cellsT 0 x=(a ++ j :: b).map cellI:=by show x.its.map cellI=_;rw [hits]
        have e2:cellsT 0 (⟨x.num,x.link,a ++ b⟩:Lf)=(cellsT 0 x).eraseIdx a.length:=by rw [e1,erase_mid];rfl
        rw [e2]
        have:=used_erase (cellsT 0 x) a.length
        omega) rfl z4 q4 q5 hrow ⟨c.pre ++ entI a,entI b ++ c.suf,.inr ⟨j.val,by rw [HEN.out,hits];simp [entI,hjk],rfl⟩,by simp [entI],HQ.out.1,HQ.out.2⟩)
    clear k1 k2 hW hrow z1 z2 z3 z4 z5 z6 z7 z8 z9 t1 t2 t3 t4 t5 t6 hb3 hits hjk
    go_wp2_with fail
    refine HTK.out.mono ?_
    rintro e w4 ⟨rfl,V4,A4,fl4,q1,q2,q3,q4,q5⟩
    have HS4:=hide (HST.out _ _ _ _ q1 q2 q3 q4 q5)
    clear q1 q2 q3 q4 q5 HST HTK
    go_wp2_with fail
    refine HS4.out.mono ?_
    rintro e w5 ⟨rfl,hpost⟩
    have HE:=hide (hpost)
    clear hpost
    go_wp2_with fail
    go_ret
    exact ⟨true,rfl,by rw [HRT.out];exact HE.out⟩
end
end Go.Proofs.YtmgjdjjfeapcdaaGreat
namespace Go.Proofs.YtmgjdjjfeapcdaaGreat
open Go.RowKit Go.Lib Go.Maps Go.Sort
attribute [local go_sem ↓] Go.wp_at_zero Go.wp_at_succ
/- the leaf of a way, where an entry may be put between a and b -/
structure LfS (w Y:World) (B D Gp:Nat) (V VY:PV) (K:Pgs) (pk m:Nat) (A:Nat→PgV) (fl:List Nat) (pages:Nat) (os:List Nat) (c:Cx 0) (x:T 0) (a b:List It) (z:PN):Prop where
  ts:TS Y B D Gp VY K pk m A fl pages
  tf:TF z.b B w Y V VY
  sx:Sx A fl pages os c (⟨x.num,x.link,a ++ b⟩:Lf) (c.pre ++ entI (a ++ b) ++ c.suf)
  nd:NDb Y z.b Y.heap.size z.p (nvT 0 (⟨x.num,x.link,a ++ b⟩:Lf) c.lo c.hi 0)
section
variable {w w' Y:World} {B D Gp:Nat} {V V' VY:PV} {K:Pgs} {pk m:Nat} {A:Nat→PgV} {fl os:List Nat} {pages tb root rt:Nat} {es:List Ent} {c:Cx 0} {x:T 0} {a b:List It} {z:PN}
theorem Sx.heldAll (h:Sx A fl pages os c (⟨x.num,x.link,a ++ b⟩:Lf) es):Hold fl pages (heldX c x.num (a ++ b) os):=h.perm
/- .. behind the entry's cell was made and laid in -/
structure LfP (w Y:World) (B D Gp:Nat) (V VY:PV) (K:Pgs) (pk m:Nat) (A:Nat→PgV) (fl:List Nat) (pages:Nat) (os:List Nat) (c:Cx 0) (x:T 0) (a b:List It) (i:It) (z:PN):Prop where
  ts:TS Y B D Gp VY K pk m A fl pages
  tf:TF z.b B w Y V VY
  sx:Sx A fl pages os c (⟨x.num,x.link,a ++ i :: b⟩:Lf) (c.pre ++ entI (a ++ i :: b) ++ c.suf)
  nd:NDb Y z.b Y.heap.size z.p (nvT 0 (⟨x.num,x.link,a ++ i :: b⟩:Lf) c.lo c.hi 0)
set_option maxRecDepth 20000 in
set_option maxHeartbeats 4000000 in
theorem ctput (h:TS w B D Gp V K pk m A fl pages) (hm:m≤28000) (hpg:pages≤55000) {d:Nat} {t:T d} (hT:Tr A fl pages os t es) (ht:TB w tb Gp (numT d t)) (k v:ByteArray) (hk:okK k) (hv:v.size≤3000) (hd:d≤20) :
    Calls Tryz.prog 52 #[(.pointer (some ⟨tb,0,none⟩)),.string k,.string v] w fun e w'=>e=.returned (.tuple #[])∧putPost w B D Gp V K pk m pages os (numT d t) d (PutR es k v) w':=by
  have HPA:=hide (cpath h (by omega) hT ht k (by omega))
  have HT:=hide (show TS w B D Gp V K pk m A fl pages∧TB w tb Gp (numT d t)∧m≤28000∧pages≤55000∧d≤20 from ⟨h,ht,hm,hpg,hd⟩)
  have HV:=hide (show okK k∧v.size≤3000 from ⟨hk,hv⟩)
  obtain ⟨rt,hrt⟩:∃ rt,numT d t=rt:=⟨_,rfl⟩
  rw [hrt] at HPA HT ⊢
  clear h hT ht hrt hk hv
  go_enter Tryz.func52,Tryz.ntmps52
  go_wp2_with fail
  refine HPA.out.mono ?_
  rintro e w1 ⟨V1,c,x,l,s,rfl,k1,k2,hW,hdep,hrow⟩
  obtain ⟨l0,z,rfl,hpm,hnz,hl0,hlk,hlo,hhd,hzs⟩:=hW.leaf k1
  obtain ⟨g,cap,rfl,hcl⟩:=rowP_last hrow
  have hlen:l0.length=d:=by
    have q:=congrArg List.length hl0
    rw [List.length_map] at q
    have:=nvs_len c (numT 0 x)
    omega
  have hbx:Bnd 0 c.lo c.hi x:=hW.sx.wf.at
  have hsort:=(keys_sort 0 hbx).2.1
  have hcx:(cellsT 0 x).length≤1000:=used_few hW.ok.high
  have HLA:=hide (clastN g 0 l0.length cap z.p w1 (by omega) hcl)
  have HFI:=hide (cfindN (NDb.nr hnz) (leaf_cells hbx) hcx (by show ((cellsT 0 x).map keyB).Pairwise _;rw [leaf_keys hbx];exact hsort) k)
  have e1:(nvT 0 x c.lo c.hi 0).cells.map keyB=x.its.map (·.key):=leaf_keys hbx
  rw [e1] at HFI
  obtain ⟨a,b,hab,hpos,ha,hb,hpre,hsuf,hkb⟩:=hW.about
  rw [hpos] at HFI
  have hent:es=c.pre ++ entI x.its ++ c.suf:=hW.sx.wf.ent.symm
  obtain ⟨t1,t2,t3,t4,t5⟩:=HT.out
  have htb:=t1.stayTB k2 t2
  have hue:usedC ((a ++ b).map cellI)≤1012:=by
    have hu:=hW.ok.high
    rcases hab with ⟨q,_⟩ | ⟨j,_,q,_⟩
    · have e2:cellsT 0 x=(a ++ b).map cellI:=by show x.its.map cellI=_;rw [q]
      rw [← e2];exact hu
    · have e2:cellsT 0 x=(a ++ j :: b).map cellI:=by show x.its.map cellI=_;rw [q]
      have:=used_erase (cellsT 0 x) a.length
      rw [e2,erase_mid] at this
      rw [e2] at hu
      omega
  have hab2:es=(c.pre ++ entI a) ++ (entI b ++ c.suf)∨∃ v0,es=(c.pre ++ entI a) ++ (k,v0) :: (entI b ++ c.suf):=by
    rcases hab with ⟨q,_⟩ | ⟨j,hj,q,_⟩
    · exact .inl (by rw [hent,q];simp [entI])
    · exact .inr ⟨j.val,by rw [hent,q];simp [entI,hj]⟩
  have hlen2:((a ++ b).map cellI).length≤400:=by have:=used_len4 (l:=(a ++ b).map cellI);omega
  have HEN:=hide (fun (Y:World) (VY:PV) (A1:Nat→PgV) (fl1:List Nat) (hY:LfS w1 Y B D Gp V1 VY K pk (m+6) A1 fl1 pages os c x a b z)=>centry hY.ts (by omega) (by omega) (hY.tf.stayTB htb) k v HV.out.1 HV.out.2 hY.sx.heldAll)
  have HIN:=hide (fun (X:World) (hX:NDb X z.b X.heap.size z.p (nvT 0 (⟨x.num,x.link,a ++ b⟩:Lf) c.lo c.hi 0)) (ci:ByteArray)=>cinsertN hX (by obtain ⟨_,_,_,q1,q2,_⟩:=hX;omega) (show ((a ++ b).map cellI).length≤1000 by omega) a.length (show a.length≤((a ++ b).map cellI).length by simp) ci)
  have HPI:=hide (fun (Y X Z:World) (VY VX:PV) (A1 A2:Nat→PgV) (fl1 fl2:List Nat) (pages2:Nat) (i:It) (hY:LfS w1 Y B D Gp V1 VY K pk (m+6) A1 fl1 pages os c x a b z) (j1:i.key=k) (j3:okI i) (j5:TS X B D Gp VX K pk (m+6+9) A2 fl2 pages2) (j6:St2 Y X B VY VX) (j7:Hold fl2 pages2 (i.pgs ++ heldX c x.num (a ++ b) os)) (j8:∀ q ∈ nodI i,A2 q.1=q.2) (j9:∀ y,¬ y=0→¬ y ∈ i.pgs→A2 y=A1 y) (i1:NDb Z z.b Z.heap.size z.p { nvT 0 (⟨x.num,x.link,a ++ b⟩:Lf) c.lo c.hi 0 with cells:=insL ((a ++ b).map cellI) a.length (cellI i) }) (i2:NF z.b X Z) =>
    (show LfP w1 Z B D Gp V1 VX K pk (m+15) A2 fl2 pages2 os c x a b i z from ⟨i2.ts j5,(hY.tf.trans (hY.ts.tf j6 z.b)).trans (i2.tf j5),hY.sx.putIn j3 (by rw [j1];exact hkb) (by rw [j1];exact ha) (by rw [j1];exact hb) j7 j8 j9,by
      rw [ins_mid] at i1
      exact i1⟩))
  have HST:=hide (fun (Z:World) (VZ:PV) (A2:Nat→PgV) (fl2:List Nat) (pages2:Nat) (i:It) (hp2:pages2≤pages+3) (j1:i.key=k) (j2:i.val=v) (j3:okI i) (hZ:LfP w1 Z B D Gp V1 VZ K pk (m+15) A2 fl2 pages2 os c x a b i z) =>
    hW.settle (x1:=(⟨x.num,x.link,a ++ i :: b⟩:Lf)) (R:=PutR es k v) (d:=d) k2 t1.lo hlen t5 (show m+15≤m+15 by omega) t3 hp2 t4 hZ.ts htb hZ.tf hpm hl0 hlo hhd hZ.sx (by
      show usedC ((a ++ i :: b).map cellI)≤1300
      rw [List.map_append,List.map_cons,usedC_app,usedC_cons]
      rw [List.map_append,usedC_app] at hue
      have:=cellI_sz j3
      omega) rfl hlk hZ.nd (hZ.nd.nr.s (show 0<((a ++ i :: b).map cellI).length by simp;omega)) hrow ⟨c.pre ++ entI a,entI b ++ c.suf,hab2,by simp [entI,j1,j2],hpre,hsuf⟩)
  have HL0:Hid (∀ Y,Below w1.heap.size w1 Y→x.its=a ++ b→LfS w1 Y B D Gp V1 V1 K pk (m+6) A fl pages os c x a b z):=fun Y hY hits=>by
    have hx:x=(⟨x.num,x.link,a ++ b⟩:Lf):=by rw [← hits]
    have hsx:=hW.sx
    rw [hent,hits] at hsx
    have hn2:=(hnz.below hY).up hY.size
    rw [hx] at hsx hn2
    exact ⟨((k1.below hY).1).mono (by omega),k1.tf (k1.below hY).2 z.b,hsx,hn2⟩
  have HL1:Hid (∀ Y W V' A' fl',TS W B D Gp V' K pk (m+6) A' fl' pages→TF z.b B w1 W V1 V'→Sx A' fl' pages os c (⟨x.num,x.link,a ++ b⟩:Lf) (c.pre ++ entI (a ++ b) ++ c.suf)→NDb W z.b W.heap.size z.p (nvT 0 (⟨x.num,x.link,a ++ b⟩:Lf) c.lo c.hi 0)→Below w1.heap.size w1 Y→LfS w1 W B D Gp V1 V' K pk (m+6) A' fl' pages os c x a b z):=fun Y W V' A' fl' q1 q2 q3 q4 _=>⟨q1,q2,q3,q4⟩
  have HTK:=hide (fun (Y:World) (hY:Below w1.heap.size w1 Y) (j:It) (hits:x.its=a ++ j :: b)=>hW.take k1 (by omega) htb hnz hits hcx hY)
  clear k1 k2 hW hdep hrow hpm hnz hl0 hlk hlo hhd hzs hlen hbx hsort hcx e1 hpos ha hb hpre hsuf hkb hcl HPA hent t1 t2 t3 t4 t5 htb hue hab2 hlen2
  rcases hab with ⟨hits,hhas⟩ | ⟨j,hjk,hits,hhas⟩
  · rw [hhas] at HFI
    have HIT:=hide (hits)
    clear hits hhas
    go_wp2_with fail
    refine HLA.out.mono ?_
    rintro e w2 ⟨rfl,hw⟩;rw [hw];clear hw
    go_wp2_with fail
    refine HFI.out.mono ?_
    rintro e w3 ⟨rfl,hb3⟩
    have HLF:=hide (HL0.out _ hb3 HIT.out)
    clear hb3
    go_wp2_with fail
    refine (HEN.out _ _ _ _ HLF.out).mono ?_
    rintro e w4 ⟨ci,rfl,i,V4,A4,fl4,pg4,j1,j2,j3,rfl,j5,j6,j7,j8,j9,j10⟩
    have HI4:=hide (HIN.out _ ((HLF.out.ts.stayNDb j6 HLF.out.nd).up j6.bel.size) (cellI i))
    have HJ:=hide (show i.key=k∧i.val=v∧okI i∧TS w4 B D Gp V4 K pk (m+6+9) A4 fl4 pg4∧St2 w3 w4 B V1 V4∧Hold fl4 pg4 (i.pgs ++ heldX c x.num (a ++ b) os)∧(∀ q ∈ nodI i,A4 q.1=q.2)∧(∀ y,¬ y=0→¬ y ∈ i.pgs→A4 y=A y)∧pg4≤pages+3 from ⟨j1,j2,j3,j5,j6,j7,j8,j9,j10⟩)
    clear j1 j2 j3 j5 j6 j7 j8 j9 j10
    go_wp2_with fail
    refine HI4.out.mono ?_
    rintro e w5 ⟨rfl,i1,i2⟩
    obtain ⟨j1,j2,j3,j5,j6,j7,j8,j9,j10⟩:=HJ.out
    have HS5:=hide (HST.out _ _ _ _ _ i j10 j1 j2 j3 (HPI.out _ _ _ _ _ _ _ _ _ _ i HLF.out j1 j3 j5 j6 j7 j8 j9 i1 i2))
    clear j1 j2 j3 j5 j6 j7 j8 j9 j10 i1 i2 HI4
    go_wp2_with fail
    refine HS5.out.mono ?_
    rintro e w6 ⟨rfl,hpost⟩
    have HE:=hide (hpost)
    clear hpost
    go_wp2
    go_end0
    exact ⟨rfl,HE.out⟩
  · rw [hhas] at HFI
    have HIT:=hide (hits)
    clear hits hhas
    go_wp2_with fail
    refine HLA.out.mono ?_
    rintro e w2 ⟨rfl,hw⟩;rw [hw];clear hw
    go_wp2_with fail
    refine HFI.out.mono ?_
    rintro e w3 ⟨rfl,hb3⟩
    have HT3:=hide (HTK.out _ hb3 j HIT.out)
    have HB3:=hide (hb3)
    clear hb3
    go_wp2_with fail
    refine HT3.out.mono ?_
    rintro e w7 ⟨rfl,V7,A7,fl7,q1,q2,q3,q4,q5⟩
    have HLF:=hide (HL1.out _ _ _ _ _ q1 q2 q3 q4 HB3.out)
    clear q1 q2 q3 q4 q5 HT3
    go_wp2_with fail
    refine (HEN.out _ _ _ _ HLF.out).mono ?_
    rintro e w4 ⟨ci,rfl,i,V4,A4,fl4,pg4,j1,j2,j3,rfl,j5,j6,j7,j8,j9,j10⟩
    have HI4:=hide (HIN.out _ ((HLF.out.ts.stayNDb j6 HLF.out.nd).up j6.bel.size) (cellI i))
    have HJ:=hide (show i.key=k∧i.val=v∧okI i∧TS w4 B D Gp V4 K pk (m+6+9) A4 fl4 pg4∧St2 w7 w4 B V7 V4∧Hold fl4 pg4 (i.pgs ++ heldX c x.num (a ++ b) os)∧(∀ q ∈ nodI i,A4 q.1=q.2)∧(∀ y,¬ y=0→¬ y ∈ i.pgs→A4 y=A7 y)∧pg4≤pages+3 from ⟨j1,j2,j3,j5,j6,j7,j8,j9,j10⟩)
    clear j1 j2 j3 j5 j6 j7 j8 j9 j10
    go_wp2_with fail
    refine HI4.out.mono ?_
    rintro e w5 ⟨rfl,i1,i2⟩
    obtain ⟨j1,j2,j3,j5,j6,j7,j8,j9,j10⟩:=HJ.out
    have HS5:=hide (HST.out _ _ _ _ _ i j10 j1 j2 j3 (HPI.out _ _ _ _ _ _ _ _ _ _ i HLF.out j1 j3 j5 j6 j7 j8 j9 i1 i2))
    clear j1 j2 j3 j5 j6 j7 j8 j9 j10 i1 i2 HI4
    go_wp2_with fail
    refine HS5.out.mono ?_
    rintro e w6 ⟨rfl,hpost⟩
    have HE:=hide (hpost)
    clear hpost
    go_wp2
    go_end0
    exact ⟨rfl,HE.out⟩
end
end Go.Proofs.YtmgjdjjfeapcdaaGreat
