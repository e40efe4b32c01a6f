/- package tree: drop, of any node -/
import Derived.Test.YtmgjdjjfeapcdaaGreatMgAU
namespace Go.Proofs.YtmgjdjjfeapcdaaGreat
open Go.RowKit Go.Lib Go.Maps Go.Sort
attribute [local go_sem ↓] Go.wp_at_zero Go.wp_at_succ
def numsS {d:Nat} (s:List (ByteArray × T d)):List Nat:=(nodS s).map (·.1)
theorem numsS_app {d:Nat} (a b:List (ByteArray × T d)):numsS (a ++ b)=numsS a ++ numsS b:=by simp [numsS,nodS]
theorem numsS_cons {d:Nat} (p:ByteArray × T d) (b:List (ByteArray × T d)):numsS (p :: b)=numsT d p.2 ++ numsS b:=by simp [numsS,nodS,numsT]
theorem numsT_s {d:Nat} (x:T (d+1)):numsT (d+1) x=x.num :: numsS x.kids:=rfl
section
variable {B D Gp:Nat} {K:Pgs} {pk pages tb root:Nat}
set_option maxRecDepth 20000 in
set_option maxHeartbeats 4000000 in
theorem cdropS {d:Nat} (ih:∀ {y:T d} {w:World} {V:PV} {m:Nat} {A:Nat→PgV} {fl:List Nat} {lo hi:ByteArray} {p tk:Nat} {X:List Nat},TS w B D Gp V K pk m A fl pages→m+2 * (numsT d y).length≤38000→TB w tb Gp root→NR w p (nvT d y lo hi tk)→Bnd d lo hi y→usedC (cellsT d y)≤1012→FilK d y→(∀ q ∈ nodT d y,A q.1=q.2)→Hold fl pages (numsT d y ++ X)→Calls Tryz.prog 59 #[(.pointer (some ⟨tb,0,none⟩)),(.pointer (some ⟨p,0,none⟩))] w fun e w'=>e=.returned (.tuple #[])∧drPost w B D Gp V K pk m A pages (numsT d y) X w')
    {x:T (d+1)} {w:World} {V:PV} {m:Nat} {A:Nat→PgV} {fl:List Nat} {lo hi:ByteArray} {p tk:Nat} {X:List Nat} (h:TS w B D Gp V K pk m A fl pages) (hm:m+2 * (numsT (d+1) x).length≤38000) (ht:TB w tb Gp root) (hn:NR w p (nvT (d+1) x lo hi tk)) (hb:Bnd (d+1) lo hi x) (hu:usedC (cellsT (d+1) x)≤1012) (hf:FilK (d+1) x) (hA:∀ q ∈ nodT (d+1) x,A q.1=q.2) (hX:Hold fl pages (numsT (d+1) x ++ X)) :
    Calls Tryz.prog 59 #[(.pointer (some ⟨tb,0,none⟩)),(.pointer (some ⟨p,0,none⟩))] w fun e w'=>e=.returned (.tuple #[])∧drPost w B D Gp V K pk m A pages (numsT (d+1) x) X w':=by
  have hcl:(cellsT (d+1) x).length≤1000:=used_few hu
  have HCN:=hide (cchildren hn hcl)
  have hkl:(cellsT (d+1) x).length+1=x.kids.length:=by
    obtain ⟨⟨q,r,e,_⟩,_⟩:=hb
    simp [cellsT,e]
  have hkl':(nvT (d+1) x lo hi tk).cells.length+1=x.kids.length:=hkl
  rw [hkl'] at HCN
  have hX2:Hold fl pages (numsS x.kids ++ (x.num :: X)):=by
    rw [numsT_s] at hX
    exact (List.Perm.cons _ (List.Perm.append_left _ List.perm_middle)).trans hX
  obtain ⟨a,c,nb,st⟩:=hn
  obtain ⟨u0,u1,u2,u3,u4,u5,u6,u7,u8⟩:=nb.cells
  replace u0:w.cell? ⟨p,0,none⟩=some (.int .i64 (2:Nat)):=u0
  have H:=hide (show TS w B D Gp V K pk m A fl pages∧TB w tb Gp root∧NR w p (nvT (d+1) x lo hi tk)∧Bnd (d+1) lo hi x∧(cellsT (d+1) x).length≤1000∧FilK (d+1) x∧(∀ q ∈ nodS x.kids,A q.1=q.2) from ⟨h,ht,⟨a,c,nb,st⟩,hb,hcl,hf,fun q hq=>hA q (List.mem_cons_of_mem _ hq)⟩)
  have HN:=hide (show m+2 * (numsT (d+1) x).length≤38000∧Hold fl pages (numsS x.kids ++ (x.num :: X)) from ⟨hm,hX2⟩)
  have hkl4:x.kids.length≤1001:=by omega
  obtain ⟨ks,hks⟩:∃ ks,x.kids=ks:=⟨_,rfl⟩
  rw [hks] at HCN HN hkl4
  have HKS:=hide (hks)
  clear h ht nb st hb hf hA hX hX2 hu hm hks hcl hkl hkl' u1 u2 u3 u4 u5 u6 u7
  go_enter Tryz.func59,Tryz.ntmps59
  go_wp2_with fail
  refine HCN.out.mono ?_
  rintro e w1 ⟨rfl,hw⟩;rw [hw];clear hw
  go_wp2_with fail
  go_loopw [29] (fun x29 Y=>∃ (j:Nat) (Vj:PV) (Aj:Nat→PgV) (flj:List Nat),x29=.int .i64 (j:Int)∧j≤ks.length∧Hid (TS Y B D Gp Vj K pk (m+2 * (numsS (ks.take j)).length) Aj flj pages∧St2 w Y B V Vj∧Hold flj pages (numsS (ks.drop j) ++ (x.num :: X))∧∀ y,¬ y=0→¬ y ∈ numsS (ks.take j)→Aj y=A y)) (fun x29 _=>ks.length - (intOf x29).toNat)
  case atStart=>exact ⟨0,V,A,fl,rfl,Nat.zero_le _,⟨H.out.1,St2.refl _ _ _,HN.out.2,fun _ _ _=>rfl⟩⟩
  case round =>
    obtain ⟨j,Vj,Aj,flj,rfl,hj,HJ⟩:=hrel
    by_cases hjc:j<ks.length
    · have hlt:(j:Int)<(ks.length:Int):=by omega
      obtain ⟨⟨k,y⟩,hky⟩:∃ ky,ks[j]=ky:=⟨_,rfl⟩
      obtain ⟨k1,k2,k3,k4⟩:=HJ.out
      obtain ⟨h,ht,hn,hb,hcl,hf,hA⟩:=H.out
      rw [HKS.out] at hA
      have hdr:ks.drop j=(k,y) :: ks.drop (j+1):=by rw [List.drop_eq_getElem_cons hjc,hky]
      have hall:ks=ks.take j ++ (k,y) :: ks.drop (j+1):=by rw [← hdr,List.take_append_drop]
      have hx:x=frm x.num (ks.take j) k y (ks.drop (j+1)):=by
        show x=(⟨x.num,ks.take j ++ (k,y) :: ks.drop (j+1)⟩:Inn (T d))
        rw [← hall,← HKS.out]
      have htk:numsS (ks.take (j+1))=numsS (ks.take j) ++ numsT d y:=by rw [take_snoc hjc,hky,numsS_app,numsS_cons];simp [numsS,nodS]
      have hpd:numsS (ks.drop j) ++ (x.num :: X)=numsT d y ++ (numsS (ks.drop (j+1)) ++ (x.num :: X)):=by rw [hdr,numsS_cons];simp
      rw [hpd] at k3
      have hfy:FilN d y:=hf (k,y) (by rw [HKS.out,hall];simp)
      obtain ⟨f1,f2,f3⟩:=fil_some hfy
      have hby:Bnd d k (nxt (ks.drop (j+1)) hi) y:=by
        obtain ⟨_,hbs⟩:=hb
        rw [HKS.out,hall] at hbs
        exact ((BS_app _ _ _).1 hbs).2.1.2.1
      have hnd:=HN.out.2.nd
      rw [hall] at hnd
      simp only [numsS_app,numsS_cons,List.nodup_cons,List.nodup_append] at hnd
      have hAj:∀ q ∈ nodT d y,Aj q.1=q.2:=fun q hq=>by
        have hq1:q.1 ∈ numsT d y:=List.mem_map_of_mem hq
        have hpos:=(k3.mem (n:=q.1) (List.mem_append_left _ hq1)).1
        rw [k4 q.1 (by omega) (fun hin=>hnd.2.2.1.1.2.2 _ hin _ (List.mem_append_left _ hq1) rfl)]
        exact hA q (by rw [hall,nodS_app,nodS_cons];simp [hq])
      have hyn:(numT d y,pgT d y) ∈ nodT d y:=by rw [nodT_eq];simp
      have hy1:numT d y ∈ numsT d y:=List.mem_map_of_mem hyn
      have hyp:=(k3.mem (n:=numT d y) (List.mem_append_left _ hy1)).2.1
      have hmm:m+2 * ((numsS (ks.take j)).length+(numsT d y).length)≤38000:=by
        have e1:=congrArg (fun l=>(numsS l).length) hall
        simp only [numsS_app,numsS_cons,List.length_append] at e1
        have e2:=HN.out.1
        rw [numsT_s,List.length_cons,HKS.out] at e2
        omega
      have hlen:(ks.take j).length=j:=by rw [List.length_take];omega
      have hn2:=h.stayNR k2 hn
      rw [hx] at hn2 hb hcl
      have HCH:=hide (cchildN k1 (by omega) (h.stayTB k2 ht) hn2 hb hcl hyp (hAj _ hyn) (.inr (fun e=>by rw [e] at f3;simp at f3)))
      rw [hlen] at HCH
      have HDR:=hide (fun (Y:World) (VY:PV) (q:Nat) (y1:TS Y B D Gp VY K pk (m+2 * (numsS (ks.take j)).length) Aj flj pages) (y2:St2 wr Y B Vj VY) (y3:NR Y q (nvT d y k (nxt (ks.drop (j+1)) hi) 0))=>ih (X:=numsS (ks.drop (j+1)) ++ (x.num :: X)) y1 (by omega) (k1.stayTB y2 (h.stayTB k2 ht)) y3 hby f1.2 f2 hAj k3)
      have HP:=hide (show j<ks.length∧numsS (ks.take (j+1))=numsS (ks.take j) ++ numsT d y from ⟨hjc,htk⟩)
      have h0:(0:Int)≤(j:Int):=by omega
      clear k1 k2 k3 k4 h ht hn hb hcl hf hA hdr hall hx htk hpd hfy f1 f2 f3 hby hnd hAj hyn hy1 hyp hmm hlen hn2 hky hj
      go_wp2_with fail
      refine HCH.out.mono ?_
      rintro e w3 ⟨V3,q,rfl,q1,q2,q3,q4⟩
      have HD2:=hide (HDR.out _ _ _ q1 q2 q3.nr)
      have HQ2:=hide (q2)
      clear q1 q2 q3 q4 HCH HDR
      go_wp2_with fail
      refine HD2.out.mono ?_
      rintro e w4 ⟨rfl,V4,A4,fl4,r1,r2,r3,r4⟩
      have HNX:Hid (TS w4 B D Gp V4 K pk (m+2 * (numsS (ks.take (j+1))).length) A4 fl4 pages∧St2 w w4 B V V4∧Hold fl4 pages (numsS (ks.drop (j+1)) ++ (x.num :: X))∧∀ y,¬ y=0→¬ y ∈ numsS (ks.take (j+1))→A4 y=A y):=by
        obtain ⟨k1,k2,k3,k4⟩:=HJ.out
        refine ⟨r1.mono (by rw [HP.out.2,List.length_append];omega),(k2.trans HQ2.out).trans r2,r3,fun y y0 hy=>?_⟩
        rw [HP.out.2,List.mem_append] at hy
        rw [r4 y y0 (fun e=>hy (.inr e)),k4 y y0 (fun e=>hy (.inl e))]
      clear r1 r2 r3 r4 HD2 HQ2
      go_wp2_with fail
      go_roundw
      case rel=>exact ⟨j+1,V4,A4,fl4,by go_num,HP.out.1,HNX⟩
      case measure=>simp [intOf];have:=HP.out.1;omega
    · have hje:j=ks.length:=by omega
      have hlt:¬ (j:Int)<(ks.length:Int):=by omega
      obtain ⟨k1,k2,k3,k4⟩:=HJ.out
      obtain ⟨h,ht,hn,hb,hcl,hf,hA⟩:=H.out
      have hd0:ks.drop j=[]:=by rw [hje];exact List.drop_length
      have ht0:ks.take j=ks:=by rw [hje];exact List.take_length
      rw [hd0] at k3
      rw [ht0] at k1 k4
      have k3:Hold flj pages (x.num :: X):=k3
      have hmem:=k3.mem (n:=x.num) (by simp)
      have hmm:=HN.out.1
      rw [numsT_s,HKS.out,List.length_cons] at hmm
      have HFR:=hide (ctfree k1 (by omega) (h.stayTB k2 ht) x.num hmem.1 hmem.2.1 hmem.2.2)
      obtain ⟨a2,c2,nb2,-⟩:=h.stayNR k2 hn
      obtain ⟨u0,u1,u2,u3,u4,u5,u6,u7,u8⟩:=nb2.cells
      replace u3:wr.cell? ⟨p,3,none⟩=some (.int .i64 (x.num:Int)):=u3
      have HE:Hid (∀ w3 V3,TS w3 B D Gp V3 K pk (m+2 * (numsS ks).length+2) (updA (updA Aj x.num ⟨3,flj.headD 0,[]⟩) 0 ⟨4,x.num,[]⟩) (x.num :: flj) pages→St2 wr w3 B Vj V3→drPost w B D Gp V K pk m A pages (numsT (d+1) x) X w3):=fun w3 V3 q1 q2=>by
        rw [numsT_s,HKS.out]
        refine ⟨V3,_,_,q1.mono (by simp only [List.length_cons];omega),k2.trans q2,Hold.toFree k3,fun y y0 hy=>?_⟩
        rw [List.mem_cons,not_or] at hy
        rw [updA_ne _ _ y0,updA_ne _ _ hy.1]
        exact k4 y y0 hy.2
      clear k1 k2 k3 k4 h ht hn hb hcl hf hA hd0 ht0 hmem hmm nb2 u0 u1 u2 u4 u5 u6 u7 hj hjc hje
      go_wp2_with fail
      refine HFR.out.mono ?_
      rintro e w3 ⟨rfl,V3,q1,q2⟩
      have HE2:=hide (HE.out _ _ q1 q2)
      clear q1 q2
      go_wp2
      go_end0
      exact ⟨rfl,HE2.out⟩
theorem cdropT:∀ (d:Nat) {x:T d} {w:World} {V:PV} {m:Nat} {A:Nat→PgV} {fl:List Nat} {lo hi:ByteArray} {p tk:Nat} {X:List Nat},TS w B D Gp V K pk m A fl pages→m+2 * (numsT d x).length≤38000→TB w tb Gp root→NR w p (nvT d x lo hi tk)→Bnd d lo hi x→usedC (cellsT d x)≤1012→FilK d x→(∀ q ∈ nodT d x,A q.1=q.2)→Hold fl pages (numsT d x ++ X)→Calls Tryz.prog 59 #[(.pointer (some ⟨tb,0,none⟩)),(.pointer (some ⟨p,0,none⟩))] w fun e w'=>e=.returned (.tuple #[])∧drPost w B D Gp V K pk m A pages (numsT d x) X w'
  | 0,_,_,_,_,_,_,_,_,_,_,_,h,hm,ht,hn,hb,hu,_,hA,hX=>cdrop0 h hm ht hn hb hu hA hX
  | d+1,_,_,_,_,_,_,_,_,_,_,_,h,hm,ht,hn,hb,hu,hf,hA,hX=>cdropS (fun a b c d' e f g i j=>cdropT d a b c d' e f g i j) h hm ht hn hb hu hf hA hX
end
end Go.Proofs.YtmgjdjjfeapcdaaGreat
namespace Go.Proofs.YtmgjdjjfeapcdaaGreat
open Go.RowKit Go.Lib Go.Maps Go.Sort
attribute [local go_sem ↓] Go.wp_at_zero Go.wp_at_succ
section
variable {w w':World} {B D Gp:Nat} {V V':PV} {K:Pgs} {pk m:Nat} {A:Nat→PgV} {fl os:List Nat} {pages tb root rt:Nat} {es:List Ent}
theorem putPost.lift {X w1 w2:World} {d c:Nat} {R:List Ent→Prop} (h:TS w B D Gp V K pk m A fl pages) (hX:Below w.heap.size w X) (hp:putPost X B D Gp V K pk m pages os rt d R w1) (hg:w1.grownBy w2 (some c)) (hc:isC w1 c 26) (hl:w.heap.size≤c):putPost w B D Gp V K pk m pages os rt d R w2:=by
  obtain ⟨V',A',fl',pages',d',t,es',q1,q2,q3,q4,q5,q6⟩:=hp
  exact ⟨V',A',fl',pages',d',t,es',q1.other hg hc (by decide),q2,q3,q4,((h.below hX).2.trans q5).other hg hl h.lo,q6⟩
set_option maxRecDepth 20000 in
theorem cput1 {X:World} {b0 b1 b2 d:Nat} {t:T d} (h:TS X B D Gp V K pk m A fl pages) (hm:m≤28000) (hpg:pages≤55000) (hT:Tr A fl pages os t es) (ht:TB X tb Gp (numT d t)) (k v:ByteArray) (hk:okK k) (hv:v.size≤3000) (hd:d≤20) (c0:X.cell? ⟨b0,0,none⟩=some (.pointer (some ⟨tb,0,none⟩))) (c1:X.cell? ⟨b1,0,none⟩=some (.string k)) (c2:X.cell? ⟨b2,0,none⟩=some (.string v)) :
    Calls Tryz.prog 51 #[(.pointer (some ⟨b0,0,none⟩)),(.pointer (some ⟨b1,0,none⟩)),(.pointer (some ⟨b2,0,none⟩))] X fun e w'=>e=.returned (.tuple #[])∧putPost X B D Gp V K pk m pages os (numT d t) d (PutR es k v) w':=by
  have HP:=hide (ctput h hm hpg hT ht k v hk hv hd)
  clear h hT ht hk hv
  go_enter Tryz.func51,Tryz.ntmps51
  go_wp2_with fail
  refine HP.out.mono ?_
  rintro e w1 ⟨rfl,hp⟩
  have HE:=hide (hp)
  clear hp
  go_wp2
  go_end0
  exact ⟨rfl,HE.out⟩
set_option maxRecDepth 20000 in
set_option maxHeartbeats 1000000 in
theorem cPut {d:Nat} {t:T d} (h:TS w B D Gp V K pk m A fl pages) (hm:m≤28000) (hpg:pages≤55000) (hT:Tr A fl pages os t es) (ht:TB w tb Gp (numT d t)) (k v:ByteArray) (hk:okK k) (hv:v.size≤3000) (hd:d≤20) :
    Calls Tryz.prog 19 #[(.pointer (some ⟨tb,0,none⟩)),.string k,.string v] w fun e w'=>e=.returned (.int .i64 0)∧putPost w B D Gp V K pk m pages os (numT d t) d (PutR es k v) w':=by
  have hmf:∀ (fn:Fn) (first cap:Array Value) (w:World),(Instr.makeFunc fn first cap).run Tryz.prog w=.ok (.func fn first cap) w:=fun _ _ _ _=>rfl
  have hen:∀ args w,(callFunc 51 args).run Tryz.prog w=.ok (.enter 51 args) w:=enters_of Tryz.func51 (by kernel_rfl) rfl
  have HM:=hide (fun (Y:World)=>cmayBe k Y (by have:=hk.2;omega))
  have hkd:decide (0<k.size∧k.size≤200)=true:=decide_eq_true hk
  rw [hkd] at HM
  obtain ⟨W3,hW3⟩:∃ W3,((w.alloc (.cells #[(.pointer (some ⟨tb,0,none⟩))] 38)).alloc (.cells #[.string k] 9)).alloc (.cells #[.string v] 9)=W3:=⟨_,rfl⟩
  have hb3:Below w.heap.size w W3:=by rw [← hW3];exact (((Below.refl _ _).alloc (Nat.le_refl _) _).alloc (by simp) _).alloc (by simp;omega) _
  have hs3:W3.heap.size=w.heap.size+3:=by rw [← hW3];simp
  have hb4:Below w.heap.size w (W3.alloc (.cells #[.int .i64 0] 26)):=hb3.alloc (by omega) _
  have q0:W3.heap[w.heap.size]? = some (.cells #[(.pointer (some ⟨tb,0,none⟩))] 38 (0,0)):=by
    rw [← hW3,heap_alloc_old _ _ (by simp;omega),heap_alloc_old _ _ (by simp)]
    exact heap_alloc_new w _
  have q1:W3.heap[w.heap.size+1]? = some (.cells #[.string k] 9 (0,0)):=by
    rw [← hW3,heap_alloc_old _ _ (by simp)]
    have:=heap_alloc_new (w.alloc (.cells #[(.pointer (some ⟨tb,0,none⟩))] 38)) (.cells #[.string k] 9)
    simpa using this
  have q2:W3.heap[w.heap.size+2]? = some (.cells #[.string v] 9 (0,0)):=by
    rw [← hW3]
    have:=heap_alloc_new ((w.alloc (.cells #[(.pointer (some ⟨tb,0,none⟩))] 38)).alloc (.cells #[.string k] 9)) (.cells #[.string v] 9)
    simpa using this
  have old:∀ j,j<3→(W3.alloc (.cells #[.int .i64 0] 26)).heap[w.heap.size+j]? = W3.heap[w.heap.size+j]?:=fun j hj=>heap_alloc_old _ _ (by omega)
  obtain ⟨h4,s4⟩:=h.below hb4
  have HC:=hide (ccaught 51 hen #[(.pointer (some ⟨w.heap.size,0,none⟩)),(.pointer (some ⟨w.heap.size+1,0,none⟩)),(.pointer (some ⟨w.heap.size+2,0,none⟩))] W3 tb Gp (numT d t) (h.stayTB (h.below hb3).2 ht) (fun w'=>putPost (W3.alloc (.cells #[.int .i64 0] 26)) B D Gp V K pk m pages os (numT d t) d (PutR es k v) w') (cput1 h4 hm hpg hT (h.stayTB s4 ht) k v hk hv hd (by have:=old 0 (by omega);simp only [Nat.add_zero] at this;simp [World.cell?,this,q0]) (by simp [World.cell?,old 1 (by omega),q1]) (by simp [World.cell?,old 2 (by omega),q2])) (fun w' hp=>by
    obtain ⟨V',A',fl',pages',d',t',es',p1,p2,p3,p4,p5,p6⟩:=hp
    exact h4.stay p5 (heap_alloc_new W3 _) (by decide)))
  have HL:=hide (fun (w1:World) (hp:putPost (W3.alloc (.cells #[.int .i64 0] 26)) B D Gp V K pk m pages os (numT d t) d (PutR es k v) w1)=>putPost.lift h hb4 hp (set_grown w1 W3.heap.size 0 (.int .i64 0)) (by
    obtain ⟨V',A',fl',pages',d',t',es',p1,p2,p3,p4,p5,p6⟩:=hp
    exact ⟨_,h4.stay p5 (heap_alloc_new W3 _) (by decide)⟩) (by omega))
  have g0:W3.cell? ⟨w.heap.size,0,none⟩=some (.pointer (some ⟨tb,0,none⟩)):=by simp [World.cell?,q0]
  have hvi:¬ (3000:Int)<(v.size:Int):=by omega
  have HW:=hide (hW3)
  rw [← hW3] at HC HL
  subst hW3
  clear h hT ht hk hkd hb3 hs3 hb4 q0 q1 q2 old h4 s4 hen g0
  go_enter Tryz.func19,Tryz.ntmps19
  go_wp2_with fail
  refine (HM.out _).mono ?_
  rintro e w1 ⟨rfl,hw⟩;rw [hw];clear hw
  go_wp2_with fail
  refine HC.out.mono ?_
  rintro e w5 ⟨rfl,w1,hq,hw5⟩
  have HE:Hid (putPost w B D Gp V K pk m pages os (numT d t) d (PutR es k v) w5):=by rw [hw5];exact HL.out w1 hq
  clear hq hw5 HC HL
  go_wp2
  go_ret
  exact ⟨rfl,HE.out⟩
/- a value that is too long -/
set_option maxRecDepth 20000 in
set_option maxHeartbeats 1000000 in
theorem cPutL (k v:ByteArray) (hk:okK k) (hv:3000<v.size) (hs:v.size≤9223372036854775807) (tb:Nat) (w:World):Calls Tryz.prog 19 #[(.pointer (some ⟨tb,0,none⟩)),.string k,.string v] w fun e w'=>e=.returned (.int .i64 8)∧Below w.heap.size w w':=by
  have HM:=hide (fun (Y:World)=>cmayBe k Y (by have:=hk.2;omega))
  have hkd:decide (0<k.size∧k.size≤200)=true:=decide_eq_true hk
  rw [hkd] at HM
  have hvi:(3000:Int)<(v.size:Int):=by omega
  have HB:Hid (Below w.heap.size w (((w.alloc (.cells #[(.pointer (some ⟨tb,0,none⟩))] 38)).alloc (.cells #[.string k] 9)).alloc (.cells #[.string v] 9))):=(((Below.refl _ _).alloc (Nat.le_refl _) _).alloc (by simp) _).alloc (by simp;omega) _
  clear hk hkd
  go_enter Tryz.func19,Tryz.ntmps19
  go_wp2_with fail
  refine (HM.out _).mono ?_
  rintro e w1 ⟨rfl,hw⟩;rw [hw];clear hw
  go_wp2
  go_ret
  exact ⟨rfl,HB.out⟩
end
end Go.Proofs.YtmgjdjjfeapcdaaGreat
namespace Go.Proofs.YtmgjdjjfeapcdaaGreat
open Go.RowKit Go.Lib Go.Maps Go.Sort
attribute [local go_sem ↓] Go.wp_at_zero Go.wp_at_succ
section
variable {w w':World} {B D Gp:Nat} {V V':PV} {K:Pgs} {pk m:Nat} {A:Nat→PgV} {fl os:List Nat} {pages tb root rt:Nat} {es:List Ent}
/- behind a cell of another one's block was written -/
theorem putPost.other {w1 w2:World} {d c:Nat} {t:TypeId} {R:List Ent→Prop} (h:TS w B D Gp V K pk m A fl pages) (hp:putPost w B D Gp V K pk m pages os rt d R w1) (hg:w1.grownBy w2 (some c)) (hc:isC w1 c t) (ht:tyQ t=false) (hl:w.heap.size≤c):putPost w B D Gp V K pk m pages os rt d R w2:=by
  obtain ⟨V',A',fl',pages',d',t',es',q1,q2,q3,q4,q5,q6⟩:=hp
  exact ⟨V',A',fl',pages',d',t',es',q1.other hg hc ht,q2,q3,q4,q5.other hg hl h.lo,q6⟩
theorem putPost.down {X w1:World} {d:Nat} {R:List Ent→Prop} (h:TS w B D Gp V K pk m A fl pages) (hX:Below w.heap.size w X) (hp:putPost X B D Gp V K pk m pages os rt d R w1):putPost w B D Gp V K pk m pages os rt d R w1:=by
  obtain ⟨V',A',fl',pages',d',t',es',q1,q2,q3,q4,q5,q6⟩:=hp
  exact ⟨V',A',fl',pages',d',t',es',q1,q2,q3,q4,(h.below hX).2.trans q5,q6⟩
theorem putPost.stay {X w1:World} {d c:Nat} {cs:Array Value} {t:TypeId} {R:List Ent→Prop} (h:TS X B D Gp V K pk m A fl pages) (hp:putPost X B D Gp V K pk m pages os rt d R w1) (hc:X.heap[c]? = some (.cells cs t (0,0))) (ht:tyQ t=false):w1.heap[c]? = some (.cells cs t (0,0)):=by
  obtain ⟨V',A',fl',pages',d',t',es',q1,q2,q3,q4,q5,q6⟩:=hp
  exact h.stay q5 hc ht
set_option maxRecDepth 20000 in
theorem cdel1 {X:World} {b0 b1 b2 d:Nat} {t:T d} (h:TS X B D Gp V K pk m A fl pages) (hm:m≤28000) (hpg:pages≤55000) (hT:Tr A fl pages os t es) (ht:TB X tb Gp (numT d t)) (k:ByteArray) (hd:d≤20) (c0:X.cell? ⟨b0,0,none⟩=some (.pointer (some ⟨tb,0,none⟩))) (c1:X.cell? ⟨b1,0,none⟩=some (.string k)) (c2:X.heap[b2]? = some (.cells #[.bool false] 4 (0,0))) :
    Calls Tryz.prog 53 #[(.pointer (some ⟨b0,0,none⟩)),(.pointer (some ⟨b1,0,none⟩)),(.pointer (some ⟨b2,0,none⟩))] X fun e w'=>e=.returned (.tuple #[])∧∃ (is:Bool) (w1:World),putPost X B D Gp V K pk m pages os (numT d t) d (DelR es k is) w1∧w1.heap[b2]? = some (.cells #[.bool false] 4 (0,0))∧w'=w1.setCell ⟨b2,0,none⟩ (.bool is):=by
  have HP:=hide (ctdelete h hm hpg hT ht k hd)
  have HS:=hide (fun (w1:World) (is:Bool) (hp:putPost X B D Gp V K pk m pages os (numT d t) d (DelR es k is) w1)=>putPost.stay h hp c2 (by decide))
  clear h hT ht c2
  go_enter Tryz.func53,Tryz.ntmps53
  go_wp2_with fail
  refine HP.out.mono ?_
  rintro e w1 ⟨is,rfl,hp⟩
  have hb:=HS.out _ _ hp
  have e0:w1.cell? ⟨b2,0,none⟩=some (.bool false):=by simp [World.cell?,hb]
  have e1:w1.frozen? ⟨b2,0,none⟩=false:=by simp [World.frozen?,hb]
  have HE:=hide (hp)
  have HB:=hide (hb)
  clear hp hb
  go_wp2
  go_end0
  exact ⟨rfl,is,w1,HE.out,HB.out,rfl⟩
set_option maxRecDepth 20000 in
set_option maxHeartbeats 1000000 in
theorem cDelete {d:Nat} {t:T d} (h:TS w B D Gp V K pk m A fl pages) (hm:m≤28000) (hpg:pages≤55000) (hT:Tr A fl pages os t es) (ht:TB w tb Gp (numT d t)) (k:ByteArray) (hk:okK k) (hd:d≤20) :
    Calls Tryz.prog 20 #[(.pointer (some ⟨tb,0,none⟩)),.string k] w fun e w'=>∃ is:Bool,e=.returned (.tuple #[.bool is,.int .i64 0])∧putPost w B D Gp V K pk m pages os (numT d t) d (DelR es k is) w':=by
  have hmf:∀ (fn:Fn) (first cap:Array Value) (w:World),(Instr.makeFunc fn first cap).run Tryz.prog w=.ok (.func fn first cap) w:=fun _ _ _ _=>rfl
  have hen:∀ args w,(callFunc 53 args).run Tryz.prog w=.ok (.enter 53 args) w:=enters_of Tryz.func53 (by kernel_rfl) rfl
  have HM:=hide (fun (Y:World)=>cmayBe k Y (by have:=hk.2;omega))
  have hkd:decide (0<k.size∧k.size≤200)=true:=decide_eq_true hk
  rw [hkd] at HM
  obtain ⟨W3,hW3⟩:∃ W3,((w.alloc (.cells #[(.pointer (some ⟨tb,0,none⟩))] 38)).alloc (.cells #[.string k] 9)).alloc (.cells #[.bool false] 4)=W3:=⟨_,rfl⟩
  have hb3:Below w.heap.size w W3:=by rw [← hW3];exact (((Below.refl _ _).alloc (Nat.le_refl _) _).alloc (by simp) _).alloc (by simp;omega) _
  have hs3:W3.heap.size=w.heap.size+3:=by rw [← hW3];simp
  have hb4:Below w.heap.size w (W3.alloc (.cells #[.int .i64 0] 26)):=hb3.alloc (by omega) _
  have q0:W3.heap[w.heap.size]? = some (.cells #[(.pointer (some ⟨tb,0,none⟩))] 38 (0,0)):=by
    rw [← hW3,heap_alloc_old _ _ (by simp;omega),heap_alloc_old _ _ (by simp)]
    exact heap_alloc_new w _
  have q1:W3.heap[w.heap.size+1]? = some (.cells #[.string k] 9 (0,0)):=by
    rw [← hW3,heap_alloc_old _ _ (by simp)]
    have:=heap_alloc_new (w.alloc (.cells #[(.pointer (some ⟨tb,0,none⟩))] 38)) (.cells #[.string k] 9)
    simpa using this
  have q2:W3.heap[w.heap.size+2]? = some (.cells #[.bool false] 4 (0,0)):=by
    rw [← hW3]
    have:=heap_alloc_new ((w.alloc (.cells #[(.pointer (some ⟨tb,0,none⟩))] 38)).alloc (.cells #[.string k] 9)) (.cells #[.bool false] 4)
    simpa using this
  have old:∀ j,j<3→(W3.alloc (.cells #[.int .i64 0] 26)).heap[w.heap.size+j]? = W3.heap[w.heap.size+j]?:=fun j hj=>heap_alloc_old _ _ (by omega)
  obtain ⟨h4,s4⟩:=h.below hb4
  have HC:=hide (ccaught 53 hen #[(.pointer (some ⟨w.heap.size,0,none⟩)),(.pointer (some ⟨w.heap.size+1,0,none⟩)),(.pointer (some ⟨w.heap.size+2,0,none⟩))] W3 tb Gp (numT d t) (h.stayTB (h.below hb3).2 ht) (fun w'=>∃ (is:Bool) (w1:World),putPost (W3.alloc (.cells #[.int .i64 0] 26)) B D Gp V K pk m pages os (numT d t) d (DelR es k is) w1∧w1.heap[w.heap.size+2]? = some (.cells #[.bool false] 4 (0,0))∧w'=w1.setCell ⟨w.heap.size+2,0,none⟩ (.bool is)) (cdel1 h4 hm hpg hT (h.stayTB s4 ht) k hd (by have:=old 0 (by omega);simp only [Nat.add_zero] at this;simp [World.cell?,this,q0]) (by simp [World.cell?,old 1 (by omega),q1]) (by rw [old 2 (by omega),q2])) (fun w' hp=>by
    obtain ⟨is,w1,p1,p2,rfl⟩:=hp
    rw [Below.heap_setCell _ _ _ _ (by show ¬ W3.heap.size=w.heap.size+2;omega)]
    exact putPost.stay h4 p1 (heap_alloc_new W3 _) (by decide)))
  have HL:=hide (fun (w1:World) (is:Bool) (p1:putPost (W3.alloc (.cells #[.int .i64 0] 26)) B D Gp V K pk m pages os (numT d t) d (DelR es k is) w1) (p2:w1.heap[w.heap.size+2]? = some (.cells #[.bool false] 4 (0,0)))=>(show putPost w B D Gp V K pk m pages os (numT d t) d (DelR es k is) ((w1.setCell ⟨w.heap.size+2,0,none⟩ (.bool is)).setCell ⟨W3.heap.size,0,none⟩ (.int .i64 0))∧((w1.setCell ⟨w.heap.size+2,0,none⟩ (.bool is)).setCell ⟨W3.heap.size,0,none⟩ (.int .i64 0)).cell? ⟨w.heap.size+2,0,none⟩=some (.bool is) from by
    have p3:=putPost.stay h4 p1 (heap_alloc_new W3 _) (by decide)
    have g1:=set_grown w1 (w.heap.size+2) 0 (.bool is)
    have p4:(w1.setCell ⟨w.heap.size+2,0,none⟩ (.bool is)).heap[W3.heap.size]? = some (.cells #[.int .i64 0] 26 (0,0)):=by
      rw [Below.heap_setCell _ _ _ _ (by show ¬ W3.heap.size=w.heap.size+2;omega)];exact p3
    refine ⟨putPost.other h (putPost.other h (putPost.down h hb4 p1) g1 ⟨_,p2⟩ (by decide) (by omega)) (set_grown _ _ _ _) ⟨_,p4⟩ (by decide) (by omega),?_⟩
    have p5:((w1.setCell ⟨w.heap.size+2,0,none⟩ (.bool is)).setCell ⟨W3.heap.size,0,none⟩ (.int .i64 0)).heap[w.heap.size+2]? = some (.cells #[.bool is] 4 (0,0)):=by
      rw [Below.heap_setCell _ _ _ _ (by show ¬ w.heap.size+2=W3.heap.size;omega),set_blk p2];rfl
    simp [World.cell?,p5]))
  rw [← hW3] at HC HL
  subst hW3
  clear h hT ht hk hkd hb3 hs3 hb4 q0 q1 q2 old h4 s4 hen
  go_enter Tryz.func20,Tryz.ntmps20
  go_wp2_with fail
  refine (HM.out _).mono ?_
  rintro e w1 ⟨rfl,hw⟩;rw [hw];clear hw
  go_wp2_with fail
  refine HC.out.mono ?_
  rintro e w5 ⟨rfl,w4,⟨is,w1,p1,p2,hw4⟩,hw5⟩
  have HE:Hid (putPost w B D Gp V K pk m pages os (numT d t) d (DelR es k is) w5):=by rw [hw5,hw4];exact (HL.out w1 is p1 p2).1
  have hcb:w5.cell? ⟨w.heap.size+2,0,none⟩=some (.bool is):=by rw [hw5,hw4];exact (HL.out w1 is p1 p2).2
  clear p1 p2 hw4 hw5 HC HL
  go_wp2
  go_ret2
  exact ⟨is,rfl,HE.out⟩
end
end Go.Proofs.YtmgjdjjfeapcdaaGreat
namespace Go.Proofs.YtmgjdjjfeapcdaaGreat
open Go.RowKit Go.Lib Go.Maps Go.Sort
attribute [local go_sem ↓] Go.wp_at_zero Go.wp_at_succ
section
variable {w w':World} {B D Gp:Nat} {V V':PV} {K:Pgs} {pk m:Nat} {A:Nat→PgV} {fl os:List Nat} {pages tb root rt:Nat} {es:List Ent}
set_option maxRecDepth 20000 in
set_option maxHeartbeats 1000000 in
theorem cdro1 {X:World} {b0 d:Nat} {t:T d} (h:TS X B D Gp V K pk m A fl pages) (hm:m+2 * (numsT d t).length≤38000) (hT:Tr A fl pages os t es) (ht:TB X tb Gp (numT d t)) (hb0:X.heap[b0]? = some (.cells #[(.pointer (some ⟨tb,0,none⟩))] 38 (0,0))) :
    Calls Tryz.prog 58 #[(.pointer (some ⟨b0,0,none⟩))] X fun e w'=>e=.returned (.tuple #[])∧drPost X B D Gp V K pk m A pages (numsT d t) os w':=by
  have hbn:Bnd d ⟨#[]⟩ ⟨#[]⟩ t:=hT.sx.wf.at
  have hA:∀ q ∈ nodT d t,A q.1=q.2:=fun q hq=>by
    rw [nodT_eq,List.mem_cons] at hq
    rcases hq with rfl | hq
    · exact hT.own
    · exact hT.sx.rep q (by unfold restN;exact List.mem_append_left _ hq)
  have hH:Hold fl pages (numsT d t ++ os):=by
    have:=hT.sx.perm
    unfold restN at this
    simp only [Cx.nod,List.append_nil] at this
    unfold numsT
    rw [nodT_eq]
    exact this
  have HT:=hide (fun (Y:World) (hY:Below X.heap.size X Y)=>ctop (h.below hY).1 (by omega) (h.stayTB (h.below hY).2 ht) hT.sx.own.1 hT.own hbn hT.ok.some)
  have HD:=hide (fun (Y:World) (hY:Below X.heap.size X Y) (Z:World) (VZ:PV) (p:Nat) (y1:TS Z B D Gp VZ K pk m A fl pages) (y2:St2 Y Z B V VZ) (y3:ND Z Y.heap.size p (nvT d t ⟨#[]⟩ ⟨#[]⟩ 0))=>cdropT d y1 hm ((h.below hY).1.stayTB y2 (h.stayTB (h.below hY).2 ht)) y3.nr hbn hT.ok.high hT.ok.kids hA hH)
  have HS:=hide (fun (Y:World) (hY:Below X.heap.size X Y) (Z:World) (VZ:PV) (y2:St2 Y Z B V VZ)=>(h.below hY).2.trans y2)
  have HB:=hide (fun (Y:World) (hY:Below X.heap.size X Y) (Z:World) (VZ:PV) (y2:St2 Y Z B V VZ)=>(show Z.cell? ⟨b0,0,none⟩=some (.pointer (some ⟨tb,0,none⟩)) from by
    have:=(h.below hY).1.stay y2 (h.stay (h.below hY).2 hb0 (by decide)) (by decide)
    simp [World.cell?,this]))
  have c0:X.cell? ⟨b0,0,none⟩=some (.pointer (some ⟨tb,0,none⟩)):=by simp [World.cell?,hb0]
  have hblt:b0<X.heap.size:=(Array.getElem?_eq_some_iff.1 hb0).1
  clear h hT ht hbn hA hH hb0
  go_enter Tryz.func58,Tryz.ntmps58
  go_wp2_with fail
  go_region_with (first | (go_at_call 60;refine (HT.out _ (drawnB X 1)).mono ?_;rintro e w1 ⟨V1,p,rfl,k1,k2,k3,k4⟩;have HK:=hide (HD.out _ (drawnB X 1) _ _ _ k1 k2 k3);have HK2:=hide (HS.out _ (drawnB X 1) _ _ k2);have d0:=HB.out _ (drawnB X 1) _ _ k2;clear k1 k2 k3 k4) | (go_at_call 59;refine HK.out.mono ?_;rintro e w2 ⟨rfl,V2,A2,fl2,q1,q2,q3,q4⟩))
  all_goals
    go_wp2
    go_end0
    exact ⟨rfl,V2,A2,fl2,q1,HK2.out.trans q2,q3,q4⟩
theorem drPost.stay {X w1:World} {c:Nat} {cs:Array Value} {t:TypeId} {ps Z:List Nat} (h:TS X B D Gp V K pk m A fl pages) (hp:drPost X B D Gp V K pk m A pages ps Z w1) (hc:X.heap[c]? = some (.cells cs t (0,0))) (ht:tyQ t=false):w1.heap[c]? = some (.cells cs t (0,0)):=by
  obtain ⟨V',A',fl',q1,q2,q3,q4⟩:=hp
  exact h.stay q2 hc ht
theorem drPost.lift {X w1 w2:World} {c:Nat} {t:TypeId} {ps Z:List Nat} (h:TS w B D Gp V K pk m A fl pages) (hX:Below w.heap.size w X) (hp:drPost X B D Gp V K pk m A pages ps Z w1) (hg:w1.grownBy w2 (some c)) (hc:isC w1 c t) (ht:tyQ t=false) (hl:w.heap.size≤c):drPost w B D Gp V K pk m A pages ps Z w2:=by
  obtain ⟨V',A',fl',q1,q2,q3,q4⟩:=hp
  exact ⟨V',A',fl',q1.other hg hc ht,((h.below hX).2.trans q2).other hg hl h.lo,q3,q4⟩
set_option maxRecDepth 20000 in
set_option maxHeartbeats 1000000 in
theorem cDrop {d:Nat} {t:T d} (h:TS w B D Gp V K pk m A fl pages) (hm:m+2 * (numsT d t).length≤38000) (hT:Tr A fl pages os t es) (ht:TB w tb Gp (numT d t)) :
    Calls Tryz.prog 24 #[(.pointer (some ⟨tb,0,none⟩))] w fun e w'=>e=.returned (.int .i64 0)∧drPost w B D Gp V K pk m A pages (numsT d t) os w':=by
  have hmf:∀ (fn:Fn) (first cap:Array Value) (w:World),(Instr.makeFunc fn first cap).run Tryz.prog w=.ok (.func fn first cap) w:=fun _ _ _ _=>rfl
  have hen:∀ args w,(callFunc 58 args).run Tryz.prog w=.ok (.enter 58 args) w:=enters_of Tryz.func58 (by kernel_rfl) rfl
  obtain ⟨W3,hW3⟩:∃ W3,w.alloc (.cells #[(.pointer (some ⟨tb,0,none⟩))] 38)=W3:=⟨_,rfl⟩
  have hb3:Below w.heap.size w W3:=by rw [← hW3];exact (Below.refl _ _).alloc (Nat.le_refl _) _
  have hs3:W3.heap.size=w.heap.size+1:=by rw [← hW3];simp
  have hb4:Below w.heap.size w (W3.alloc (.cells #[.int .i64 0] 26)):=hb3.alloc (by omega) _
  have q0:W3.heap[w.heap.size]? = some (.cells #[(.pointer (some ⟨tb,0,none⟩))] 38 (0,0)):=by rw [← hW3];exact heap_alloc_new w _
  obtain ⟨h4,s4⟩:=h.below hb4
  have HC:=hide (ccaught 58 hen #[(.pointer (some ⟨w.heap.size,0,none⟩))] W3 tb Gp (numT d t) (h.stayTB (h.below hb3).2 ht) (fun w'=>drPost (W3.alloc (.cells #[.int .i64 0] 26)) B D Gp V K pk m A pages (numsT d t) os w') (cdro1 h4 hm hT (h.stayTB s4 ht) (by rw [heap_alloc_old _ _ (by omega)];exact q0)) (fun w' hp=>drPost.stay h4 hp (heap_alloc_new W3 _) (by decide)))
  have HL:=hide (fun (w1:World) (hp:drPost (W3.alloc (.cells #[.int .i64 0] 26)) B D Gp V K pk m A pages (numsT d t) os w1)=>drPost.lift h hb4 hp (set_grown w1 W3.heap.size 0 (.int .i64 0)) ⟨_,drPost.stay h4 hp (heap_alloc_new W3 _) (by decide)⟩ (by decide) (by omega))
  rw [← hW3] at HC HL
  subst hW3
  clear h hT ht hb3 hs3 hb4 q0 h4 s4 hen
  go_enter Tryz.func24,Tryz.ntmps24
  go_wp2_with fail
  refine HC.out.mono ?_
  rintro e w5 ⟨rfl,w1,hq,hw5⟩
  have HE:Hid (drPost w B D Gp V K pk m A pages (numsT d t) os w5):=by rw [hw5];exact HL.out w1 hq
  clear hq hw5 HC HL
  go_wp2
  go_ret
  exact ⟨rfl,HE.out⟩
/- a tree without entries -/
theorem tr_new {A':Nat→PgV} {fl':List Nat} {pages' n:Nat} (hp:(0 :: (fl' ++ (n :: os))).Perm (List.range pages')) (hA:A' n=⟨1,0,[]⟩):Tr A' fl' pages' os (d:=0) (⟨n,0,[]⟩:Lf) []:=
  ⟨⟨⟨⟨⟨#[]⟩,⟨#[]⟩,⟨rfl,rfl⟩,trivial⟩,trivial,rfl,⟨rfl,trivial⟩⟩,fun p hp=>by simp [restN,nodT,Cx.nod] at hp,by simpa [restN,nodT,Cx.nod,numT] using hp⟩,hA,⟨trivial,.inl rfl,by show usedC []≤1012;simp [usedC],.inl rfl⟩⟩
def crPost (w:World) (B D Gp:Nat) (V:PV) (K:Pgs) (pk m:Nat) (A:Nat→PgV) (fl:List Nat) (pages:Nat) (n:Nat) (w':World):Prop:=
  ∃ (V':PV) (A':Nat→PgV) (fl':List Nat) (pages':Nat),TS w' B D Gp V' K pk (m+3) (updA A' n ⟨1,0,[]⟩) fl' pages'∧St2 w w' B V V'∧AllR A fl pages n A' fl' pages'
/- a number's own block that is not the order's -/
theorem TS.stayIB {V':PV} {c:Nat} {cs:Array Value} (h:TS w B D Gp V K pk m A fl pages) (hs:St2 w w' B V V') (hc:w.heap[c]? = some (.cells cs 3 (0,0))) (hn:¬ V.b.vo.ownBlock=some c):w'.heap[c]? = some (.cells cs 3 (0,0))∧¬ V'.b.vo.ownBlock=some c:=by
  obtain ⟨C,h1,h2⟩:=h.po
  exact h1.stayI hs hc hn
theorem TS.setI {c:Nat} {cs:Array Value} {w2:World} (h:TS w B D Gp V K pk m A fl pages) (hc:w.heap[c]? = some (.cells cs 3 (0,0))) (hn:¬ V.b.vo.ownBlock=some c) (hg:w.grownBy w2 (some c)):TS w2 B D Gp V K pk m A fl pages:=
  h.keptN ⟨hg.size,fun b hb hl=>hg.block b hb (fun e=>hl (by injection e with e;subst e;exact .inr (.inr ⟨⟨_,hc⟩,hn⟩)))⟩
set_option maxRecDepth 20000 in
set_option maxHeartbeats 1000000 in
theorem ccre1 {X:World} {b0 b1:Nat} (h:TS X B D Gp V K pk m A fl pages) (hm:m≤38000) (hp:pages<58000) {Z:List Nat} (hX:(0 :: (fl ++ Z)).Perm (List.range pages)) (ht:TB X tb Gp root) (hb0:X.heap[b0]? = some (.cells #[(.pointer (some ⟨tb,0,none⟩))] 38 (0,0))) (hb1:X.heap[b1]? = some (.cells #[.int .i64 0] 3 (0,0))) (hn1:¬ V.b.vo.ownBlock=some b1) :
    Calls Tryz.prog 31 #[(.pointer (some ⟨b0,0,none⟩)),(.pointer (some ⟨b1,0,none⟩))] X fun e w'=>e=.returned (.tuple #[])∧∃ (n:Nat) (w1:World),crPost X B D Gp V K pk m A fl pages n w1∧w1.heap[b1]? = some (.cells #[.int .i64 0] 3 (0,0))∧(∀ V',St2 X w1 B V V'→¬ V'.b.vo.ownBlock=some b1)∧w'=w1.setCell ⟨b1,0,none⟩ (.int .i64 (n:Int)):=by
  have HF:=hide (cfresh h (by omega) hp ht 1)
  have H:=hide (show TS X B D Gp V K pk m A fl pages∧TB X tb Gp root∧X.heap[b0]? = some (.cells #[(.pointer (some ⟨tb,0,none⟩))] 38 (0,0))∧X.heap[b1]? = some (.cells #[.int .i64 0] 3 (0,0))∧¬ V.b.vo.ownBlock=some b1∧(0 :: (fl ++ Z)).Perm (List.range pages)∧m≤38000 from ⟨h,ht,hb0,hb1,hn1,hX,hm⟩)
  have c0:X.cell? ⟨b0,0,none⟩=some (.pointer (some ⟨tb,0,none⟩)):=by simp [World.cell?,hb0]
  clear h hX ht hb0 hb1 hn1 hm hp
  go_enter Tryz.func31,Tryz.ntmps31
  go_wp2_with fail
  refine HF.out.mono ?_
  rintro e w1 ⟨V1,n,A1,fl1,pages1,p,rfl,k1,k2,k3,k4,k5⟩
  obtain ⟨h,ht,hb0,hb1,hn1,hX,hm⟩:=H.out
  have hp2:=k3.perm Z hX
  have hh:Hold fl1 pages1 (n :: Z):=hp2
  have hmem:=hh.mem (n:=n) (by simp)
  have HW:=hide (ctwrite k1 (by omega) (h.stayTB k2 ht) k4.nr (show okP (pgN ⟨1,0,[],n,⟨#[]⟩,⟨#[]⟩,0⟩) from ⟨by show 1≤1∧1≤5;omega,by show 0≤_;omega,by show usedC []≤1012;simp [usedC]⟩) hmem.1 hmem.2.1 hmem.2.2)
  have d0:w1.cell? ⟨b0,0,none⟩=some (.pointer (some ⟨tb,0,none⟩)):=by
    have:=h.stay k2 hb0 (by decide)
    simp [World.cell?,this]
  obtain ⟨s,nb,-⟩:=k4
  have HK:=hide (show TS w1 B D Gp V1 K pk (m+2) A1 fl1 pages1∧St2 X w1 B V V1∧AllR A fl pages n A1 fl1 pages1∧NB w1 p ⟨1,0,[],n,⟨#[]⟩,⟨#[]⟩,0⟩ s from ⟨k1,k2,k3,nb⟩)
  clear k1 k2 k3 k5 nb h ht hb0 hb1 hn1 hX hm hp2 hh hmem HF
  go_wp2_with fail
  refine HW.out.mono ?_
  rintro e w2 ⟨rfl,V2,q1,q2⟩
  obtain ⟨k1,k2,k3,nb⟩:=HK.out
  obtain ⟨h,ht,hb0,hb1,hn1,hX,hm⟩:=H.out
  have hb2:=h.stayIB (k2.trans q2) hb1 hn1
  have nb2:=k1.stayNB q2 nb
  obtain ⟨u0,u1,u2,u3,u4,u5,u6,u7,u8⟩:=nb2.cells
  replace u3:w2.cell? ⟨p,3,none⟩=some (.int .i64 (n:Int)):=u3
  have e0:w2.cell? ⟨b1,0,none⟩=some (.int .i64 0):=by simp [World.cell?,hb2.1]
  have e1:w2.frozen? ⟨b1,0,none⟩=false:=by simp [World.frozen?,hb2.1]
  have HE:Hid (crPost X B D Gp V K pk m A fl pages n w2∧w2.heap[b1]? = some (.cells #[.int .i64 0] 3 (0,0))∧(∀ V',St2 X w2 B V V'→¬ V'.b.vo.ownBlock=some b1)):=⟨⟨V2,A1,fl1,pages1,q1,k2.trans q2,k3⟩,hb2.1,fun V' hs=>(h.stayIB hs hb1 hn1).2⟩
  clear k1 k2 k3 nb h ht hb0 hb1 hn1 hX hm q1 q2 hb2 nb2 u0 u1 u2 u4 u5 u6 u7 HW
  go_wp2
  go_end0
  exact ⟨rfl,n,w2,HE.out.1,HE.out.2.1,HE.out.2.2,rfl⟩
end
end Go.Proofs.YtmgjdjjfeapcdaaGreat
