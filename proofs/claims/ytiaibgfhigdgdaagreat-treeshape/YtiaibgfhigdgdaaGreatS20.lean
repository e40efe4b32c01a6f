/- a part -/
import Derived.Test.YtiaibgfhigdgdaaGreatS19
set_option maxRecDepth 100000
set_option maxHeartbeats 8000000
namespace Go.Proofs.YtiaibgfhigdgdaaGreat
open Go.RowKit Go.Lib Go.Maps Go.Sort
variable {d B D Gp pages tb root m rt c b0 b1 b2 n sp k j b:Nat}{K:Pgs}{w X w' w1 w2 Y:World}{V V' Vi:PV}{A:Nat→PgV}{fl os ps Z lv ln:List Nat}{es:List Ent}{R:List Ent→Prop}{t:TypeId}{cs:Array Value}{vc vc' va vb:Value}{ks ks':List ByteArray}{ok:Bool}{x:ByteArray}
attribute [local go_sem ↓] Go.wp_at_zero Go.wp_at_succ
def numsS (s:List (ByteArray×T d)):List Nat:=(nodS s).map (·.1)
theorem numsS_app (a b:List (ByteArray×T d)):numsS (a++b)=numsS a++numsS b:=by simp[numsS,nodS]
theorem numsS_cons (p:ByteArray×T d)(b:List (ByteArray×T d)):numsS (p::b)=numsT d p.2++numsS b:=by simp[numsS,nodS,numsT]
theorem numsT_s (x:T (d+1)):numsT (d+1) x=x.num::numsS x.kids:=rfl
section
variable {pk:Nat}
theorem cdropS (ih:∀{y:T d} {w:World} {V:PV} {m:Nat} {A:Nat→PgV} {fl:List Nat} {lo hi:ByteArray} {p tk:Nat} {X:List Nat},TS w B D Gp V K pk m A fl pages→m+2*(numsT d y).length≤38000→TB w tb Gp root→NR w p (nvT d y lo hi tk)→Bnd d lo hi y→usedC (cellsT d y)≤1012→FilK d y→(∀q∈nodT d y,A q.1=q.2)→Hold fl pages (numsT d y++X)→Calls Tryz.prog 59 #[(.pointer (some ⟨tb,0,none⟩)),(.pointer (some ⟨p,0,none⟩))] w fun e w'=>e=.returned (.tuple #[])∧drPost w B D Gp V K pk m A pages (numsT d y) X w'){x:T (d+1)}{lo hi:ByteArray}{p tk:Nat}{X:List Nat}(h:TS w B D Gp V K pk m A fl pages)(hm:m+2*(numsT (d+1) x).length≤38000)(ht:TB w tb Gp root)(hn:NR w p (nvT (d+1) x lo hi tk))(hb:Bnd (d+1) lo hi x)(hu:usedC (cellsT (d+1) x)≤1012)(hf:FilK (d+1) x)(hA:∀q∈nodT (d+1) x,A q.1=q.2)(hX:Hold fl pages (numsT (d+1) x++X)):Calls Tryz.prog 59 #[(.pointer (some ⟨tb,0,none⟩)),(.pointer (some ⟨p,0,none⟩))] w fun e w'=>e=.returned (.tuple #[])∧drPost w B D Gp V K pk m A pages (numsT (d+1) x) X w':=by
 have hcl:(cellsT (d+1) x).length≤1000:=used_few hu;have HCN:=hide (cchildren hn hcl);have hkl:(cellsT (d+1) x).length+1=x.kids.length:=by
  obtain⟨⟨q,r,e,_⟩,_⟩:=hb;simp[cellsT,e]
 have hkl':(nvT (d+1) x lo hi tk).cells.length+1=x.kids.length:=hkl;rw[hkl'] at HCN;have hX2:Hold fl pages (numsS x.kids++(x.num::X)):=by
  rw[numsT_s] at hX;exact(List.Perm.cons _ (List.Perm.append_left _ List.perm_middle)).trans hX
 obtain⟨a,c,nb,st⟩:=hn;obtain⟨u0,u1,u2,u3,u4,u5,u6,u7,u8⟩:=nb.cells
 replace u0:w.cell? ⟨p,0,none⟩=some (.int .i64 (2:Nat)):=u0
 have H:=hide (show TS w B D Gp V K pk m A fl pages∧TB w tb Gp root∧NR w p (nvT (d+1) x lo hi tk)∧Bnd (d+1) lo hi x∧(cellsT (d+1) x).length≤1000∧FilK (d+1) x∧(∀q∈nodS x.kids,A q.1=q.2) from⟨h,ht,⟨a,c,nb,st⟩,hb,hcl,hf,fun q hq=>hA q (List.mem_cons_of_mem _ hq)⟩);have HN:=hide (show m+2*(numsT (d+1) x).length≤38000∧Hold fl pages (numsS x.kids++(x.num::X)) from⟨hm,hX2⟩);have hkl4:x.kids.length≤1001:=by omega
 obtain⟨ks,hks⟩:∃ks,x.kids=ks:=⟨_,rfl⟩;rw[hks] at HCN HN hkl4;have HKS:=hide (hks);clear h ht nb st hb hf hA hX hX2 hu hm hks hcl hkl hkl' u1 u2 u3 u4 u5 u6 u7;go_enter Tryz.func59,Tryz.ntmps59;go_wp2_with fail
 refine HCN.out.mono ?_;rintro e w1⟨rfl,hw⟩;rw[hw];clear hw;go_wp2_with fail
 go_loopw [29] (fun x29 Y=>∃(j:Nat) (Vj:PV) (Aj:Nat→PgV) (flj:List Nat),x29=.int .i64 (j:Int)∧j≤ks.length∧Hid (TS Y B D Gp Vj K pk (m+2*(numsS (ks.take j)).length) Aj flj pages∧St2 w Y B V Vj∧Hold flj pages (numsS (ks.drop j)++(x.num::X))∧∀y,¬y=0→¬y∈numsS (ks.take j)→Aj y=A y)) (fun x29 _=>ks.length-(intOf x29).toNat)
 case atStart=>exact⟨0,V,A,fl,rfl,Nat.zero_le _,⟨H.out.1,St2.refl _ _ _,HN.out.2,fun _ _ _=>rfl⟩⟩
 case round =>
  obtain⟨j,Vj,Aj,flj,rfl,hj,HJ⟩:=hrel;by_cases hjc:j<ks.length
  ·have hlt:(j:Int)<(ks.length:Int):=by omega
   obtain⟨⟨k,y⟩,hky⟩:∃ky,ks[j]=ky:=⟨_,rfl⟩;obtain⟨k1,k2,k3,k4⟩:=HJ.out;obtain⟨h,ht,hn,hb,hcl,hf,hA⟩:=H.out;rw[HKS.out] at hA;have hdr:ks.drop j=(k,y)::ks.drop (j+1):=by rw[List.drop_eq_getElem_cons hjc,hky]
   have hall:ks=ks.take j++(k,y)::ks.drop (j+1):=by rw[←hdr,List.take_append_drop]
   have hx:x=frm x.num (ks.take j) k y (ks.drop (j+1)):=by
    show x=(⟨x.num,ks.take j++(k,y)::ks.drop (j+1)⟩:Inn (T d));rw[←hall,←HKS.out]
   have htk:numsS (ks.take (j+1))=numsS (ks.take j)++numsT d y:=by rw[take_snoc hjc,hky,numsS_app,numsS_cons];simp[numsS,nodS]
   have hpd:numsS (ks.drop j)++(x.num::X)=numsT d y++(numsS (ks.drop (j+1))++(x.num::X)):=by rw[hdr,numsS_cons];simp
   rw[hpd] at k3;have hfy:FilN d y:=hf (k,y) (by rw[HKS.out,hall];simp);obtain⟨f1,f2,f3⟩:=fil_some hfy;have hby:Bnd d k (nxt (ks.drop (j+1)) hi) y:=by
    obtain⟨_,hbs⟩:=hb;rw[HKS.out,hall] at hbs;exact((BS_app _ _ _).1 hbs).2.1.2.1
   have hnd:=HN.out.2.nd;rw[hall] at hnd;simp only[numsS_app,numsS_cons,List.nodup_cons,List.nodup_append] at hnd;have hAj:∀q∈nodT d y,Aj q.1=q.2:=fun q hq=>by
    have hq1:q.1∈numsT d y:=List.mem_map_of_mem hq;have hpos:=(k3.mem (n:=q.1) (List.mem_append_left _ hq1)).1;rw[k4 q.1 (by omega) (fun hin=>hnd.2.2.1.1.2.2 _ hin _ (List.mem_append_left _ hq1) rfl)];exact hA q (by rw[hall,nodS_app,nodS_cons];simp[hq])
   have hyn:(numT d y,pgT d y)∈nodT d y:=by rw[nodT_eq];simp
   have hy1:numT d y∈numsT d y:=List.mem_map_of_mem hyn;have hyp:=(k3.mem (n:=numT d y) (List.mem_append_left _ hy1)).2.1;have hmm:m+2*((numsS (ks.take j)).length+(numsT d y).length)≤38000:=by
    have e1:=congrArg (fun l=>(numsS l).length) hall;simp only[numsS_app,numsS_cons,List.length_append] at e1;have e2:=HN.out.1;rw[numsT_s,List.length_cons,HKS.out] at e2;omega
   have hlen:(ks.take j).length=j:=by rw[List.length_take];omega
   have hn2:=h.stayNR k2 hn;rw[hx] at hn2 hb hcl;have HCH:=hide (cchildN k1 (by omega) (h.stayTB k2 ht) hn2 hb hcl hyp (hAj _ hyn) (.inr (fun e=>by rw[e] at f3;simp at f3)));rw[hlen] at HCH;have HDR:=hide (fun(Y:World) (VY:PV) (q:Nat) (y1:TS Y B D Gp VY K pk (m+2*(numsS (ks.take j)).length) Aj flj pages) (y2:St2 wr Y B Vj VY) (y3:NR Y q (nvT d y k (nxt (ks.drop (j+1)) hi) 0))=>ih (X:=numsS (ks.drop (j+1))++(x.num::X)) y1 (by omega) (k1.stayTB y2 (h.stayTB k2 ht)) y3 hby f1.2 f2 hAj k3);have HP:=hide (show j<ks.length∧numsS (ks.take (j+1))=numsS (ks.take j)++numsT d y from⟨hjc,htk⟩);have h0:(0:Int)≤(j:Int):=by omega
   clear k1 k2 k3 k4 h ht hn hb hcl hf hA hdr hall hx htk hpd hfy f1 f2 f3 hby hnd hAj hyn hy1 hyp hmm hlen hn2 hky hj;go_wp2_with fail
   refine HCH.out.mono ?_;rintro e w3⟨V3,q,rfl,q1,q2,q3,q4⟩;have HD2:=hide (HDR.out _ _ _ q1 q2 q3.nr);have HQ2:=hide (q2);clear q1 q2 q3 q4 HCH HDR;go_wp2_with fail
   refine HD2.out.mono ?_;rintro e w4⟨rfl,V4,A4,fl4,r1,r2,r3,r4⟩;have HNX:Hid (TS w4 B D Gp V4 K pk (m+2*(numsS (ks.take (j+1))).length) A4 fl4 pages∧St2 w w4 B V V4∧Hold fl4 pages (numsS (ks.drop (j+1))++(x.num::X))∧∀y,¬y=0→¬y∈numsS (ks.take (j+1))→A4 y=A y):=by
    obtain⟨k1,k2,k3,k4⟩:=HJ.out;refine⟨r1.mono (by rw[HP.out.2,List.length_append];omega),(k2.trans HQ2.out).trans r2,r3,fun y y0 hy=>?_⟩;rw[HP.out.2,List.mem_append] at hy;rw[r4 y y0 (fun e=>hy (.inr e)),k4 y y0 (fun e=>hy (.inl e))]
   clear r1 r2 r3 r4 HD2 HQ2;go_wp2_with fail
   go_roundw
   case rel=>exact⟨j+1,V4,A4,fl4,by go_num,HP.out.1,HNX⟩
   case measure=>simp[intOf];have:=HP.out.1;omega
  ·have hje:j=ks.length:=by omega
   have hlt:¬(j:Int)<(ks.length:Int):=by omega
   obtain⟨k1,k2,k3,k4⟩:=HJ.out;obtain⟨h,ht,hn,hb,hcl,hf,hA⟩:=H.out;have hd0:ks.drop j=[]:=by rw[hje];exact List.drop_length
   have ht0:ks.take j=ks:=by rw[hje];exact List.take_length
   rw[hd0] at k3;rw[ht0] at k1 k4;have k3:Hold flj pages (x.num::X):=k3;have hmem:=k3.mem (n:=x.num) (by simp);have hmm:=HN.out.1;rw[numsT_s,HKS.out,List.length_cons] at hmm;have HFR:=hide (ctfree k1 (by omega) (h.stayTB k2 ht) x.num hmem.1 hmem.2.1 hmem.2.2);obtain⟨a2,c2,nb2,-⟩:=h.stayNR k2 hn;obtain⟨u0,u1,u2,u3,u4,u5,u6,u7,u8⟩:=nb2.cells
   replace u3:wr.cell? ⟨p,3,none⟩=some (.int .i64 (x.num:Int)):=u3
   have HE:Hid (∀w3 V3,TS w3 B D Gp V3 K pk (m+2*(numsS ks).length+2) (updA (updA Aj x.num ⟨3,flj.headD 0,[]⟩) 0 ⟨4,x.num,[]⟩) (x.num::flj) pages→St2 wr w3 B Vj V3→drPost w B D Gp V K pk m A pages (numsT (d+1) x) X w3):=fun w3 V3 q1 q2=>by
    rw[numsT_s,HKS.out];refine⟨V3,_,_,q1.mono (by simp only[List.length_cons];omega),k2.trans q2,Hold.toFree k3,fun y y0 hy=>?_⟩;rw[List.mem_cons,not_or] at hy;rw[updA_ne _ _ y0,updA_ne _ _ hy.1];exact k4 y y0 hy.2
   clear k1 k2 k3 k4 h ht hn hb hcl hf hA hd0 ht0 hmem hmm nb2 u0 u1 u2 u4 u5 u6 u7 hj hjc hje;go_wp2_with fail
   refine HFR.out.mono ?_;rintro e w3⟨rfl,V3,q1,q2⟩;have HE2:=hide (HE.out _ _ q1 q2);clear q1 q2;go_wp2;go_end0;exact⟨rfl,HE2.out⟩
theorem cdropT:∀(d:Nat) {x:T d} {w:World} {V:PV} {m:Nat} {A:Nat→PgV} {fl:List Nat} {lo hi:ByteArray} {p tk:Nat} {X:List Nat},TS w B D Gp V K pk m A fl pages→m+2*(numsT d x).length≤38000→TB w tb Gp root→NR w p (nvT d x lo hi tk)→Bnd d lo hi x→usedC (cellsT d x)≤1012→FilK d x→(∀q∈nodT d x,A q.1=q.2)→Hold fl pages (numsT d x++X)→Calls Tryz.prog 59 #[(.pointer (some ⟨tb,0,none⟩)),(.pointer (some ⟨p,0,none⟩))] w fun e w'=>e=.returned (.tuple #[])∧drPost w B D Gp V K pk m A pages (numsT d x) X w'
 | 0,_,_,_,_,_,_,_,_,_,_,_,h,hm,ht,hn,hb,hu,_,hA,hX=>cdrop0 h hm ht hn hb hu hA hX
 | d+1,_,_,_,_,_,_,_,_,_,_,_,h,hm,ht,hn,hb,hu,hf,hA,hX=>cdropS (fun a b c d' e f g i j=>cdropT d a b c d' e f g i j) h hm ht hn hb hu hf hA hX
end
section
variable {pk:Nat}
theorem putPost.lift (h:TS w B D Gp V K pk m A fl pages)(hX:Below w.heap.size w X)(hp:putPost X B D Gp V K pk m pages os rt d R w1)(hg:w1.grownBy w2 (some c))(hc:isC w1 c 26)(hl:w.heap.size≤c):putPost w B D Gp V K pk m pages os rt d R w2:=by
 obtain⟨V',A',fl',pages',d',t,es',q1,q2,q3,q4,q5,q6⟩:=hp;exact⟨V',A',fl',pages',d',t,es',q1.other hg hc (by decide),q2,q3,q4,((h.below hX).2.trans q5).other hg hl h.lo,q6⟩
theorem cput1 {t:T d}(h:TS X B D Gp V K pk m A fl pages)(hm:m≤28000)(hpg:pages≤55000)(hT:Tr A fl pages os t es)(ht:TB X tb Gp (numT d t))(k v:ByteArray)(hk:okK k)(hv:v.size≤3000)(hd:d≤20)(c0:X.cell? ⟨b0,0,none⟩=some (.pointer (some ⟨tb,0,none⟩)))(c1:X.cell? ⟨b1,0,none⟩=some (.string k))(c2:X.cell? ⟨b2,0,none⟩=some (.string v)):Calls Tryz.prog 51 #[(.pointer (some ⟨b0,0,none⟩)),(.pointer (some ⟨b1,0,none⟩)),(.pointer (some ⟨b2,0,none⟩))] X fun e w'=>e=.returned (.tuple #[])∧putPost X B D Gp V K pk m pages os (numT d t) d (PutR es k v) w':=by
 have HP:=hide (ctput h hm hpg hT ht k v hk hv hd);clear h hT ht hk hv;go_enter Tryz.func51,Tryz.ntmps51;go_wp2_with fail
 refine HP.out.mono ?_;rintro e w1⟨rfl,hp⟩;have HE:=hide (hp);clear hp;go_wp2;go_end0;exact⟨rfl,HE.out⟩
theorem cPut {t:T d}(h:TS w B D Gp V K pk m A fl pages)(hm:m≤28000)(hpg:pages≤55000)(hT:Tr A fl pages os t es)(ht:TB w tb Gp (numT d t))(k v:ByteArray)(hk:okK k)(hv:v.size≤3000)(hd:d≤20):Calls Tryz.prog 19 #[(.pointer (some ⟨tb,0,none⟩)),.string k,.string v] w fun e w'=>e=.returned (.int .i64 0)∧putPost w B D Gp V K pk m pages os (numT d t) d (PutR es k v) w':=by
 have hmf:∀(fn:Fn) (first cap:Array Value) (w:World),(Instr.makeFunc fn first cap).run Tryz.prog w=.ok (.func fn first cap) w:=fun _ _ _ _=>rfl
 have hen:∀args w,(callFunc 51 args).run Tryz.prog w=.ok (.enter 51 args) w:=enters_of Tryz.func51 (by kernel_rfl) rfl;have HM:=hide (fun(Y:World)=>cmayBe k Y (by have:=hk.2;omega));have hkd:decide (0<k.size∧k.size≤200)=true:=decide_eq_true hk;rw[hkd] at HM;obtain⟨W3,hW3⟩:∃W3,((w.alloc (.cells #[(.pointer (some ⟨tb,0,none⟩))] 38)).alloc (.cells #[.string k] 9)).alloc (.cells #[.string v] 9)=W3:=⟨_,rfl⟩;have hb3:Below w.heap.size w W3:=by rw[←hW3];exact(((Below.refl _ _).alloc (Nat.le_refl _) _).alloc (by simp) _).alloc (by simp;omega) _
 have hs3:W3.heap.size=w.heap.size+3:=by rw[←hW3];simp
 have hb4:Below w.heap.size w (W3.alloc (.cells #[.int .i64 0] 26)):=hb3.alloc (by omega) _;have q0:W3.heap[w.heap.size]?=some (.cells #[(.pointer (some ⟨tb,0,none⟩))] 38 (0,0)):=by
  rw[←hW3,heap_alloc_old _ _ (by simp;omega),heap_alloc_old _ _ (by simp)];exact heap_alloc_new w _
 have q1:W3.heap[w.heap.size+1]?=some (.cells #[.string k] 9 (0,0)):=by
  rw[←hW3,heap_alloc_old _ _ (by simp)];have:=heap_alloc_new (w.alloc (.cells #[(.pointer (some ⟨tb,0,none⟩))] 38)) (.cells #[.string k] 9);simpa using this
 have q2:W3.heap[w.heap.size+2]?=some (.cells #[.string v] 9 (0,0)):=by
  rw[←hW3];have:=heap_alloc_new ((w.alloc (.cells #[(.pointer (some ⟨tb,0,none⟩))] 38)).alloc (.cells #[.string k] 9)) (.cells #[.string v] 9);simpa using this
 have old:∀j,j<3→(W3.alloc (.cells #[.int .i64 0] 26)).heap[w.heap.size+j]?=W3.heap[w.heap.size+j]?:=fun j hj=>heap_alloc_old _ _ (by omega)
 obtain⟨h4,s4⟩:=h.below hb4;have HC:=hide (ccaught 51 hen #[(.pointer (some ⟨w.heap.size,0,none⟩)),(.pointer (some ⟨w.heap.size+1,0,none⟩)),(.pointer (some ⟨w.heap.size+2,0,none⟩))] W3 tb Gp (numT d t) (h.stayTB (h.below hb3).2 ht) (fun w'=>putPost (W3.alloc (.cells #[.int .i64 0] 26)) B D Gp V K pk m pages os (numT d t) d (PutR es k v) w') (cput1 h4 hm hpg hT (h.stayTB s4 ht) k v hk hv hd (by have:=old 0 (by omega);simp only[Nat.add_zero] at this;simp[World.cell?,this,q0]) (by simp[World.cell?,old 1 (by omega),q1]) (by simp[World.cell?,old 2 (by omega),q2])) (fun w' hp=>by
  obtain⟨V',A',fl',pages',d',t',es',p1,p2,p3,p4,p5,p6⟩:=hp;exact h4.stay p5 (heap_alloc_new W3 _) (by decide)))
 have HL:=hide (fun(w1:World) (hp:putPost (W3.alloc (.cells #[.int .i64 0] 26)) B D Gp V K pk m pages os (numT d t) d (PutR es k v) w1)=>putPost.lift h hb4 hp (set_grown w1 W3.heap.size 0 (.int .i64 0)) (by
  obtain⟨V',A',fl',pages',d',t',es',p1,p2,p3,p4,p5,p6⟩:=hp;exact⟨_,h4.stay p5 (heap_alloc_new W3 _) (by decide)⟩) (by omega))
 have g0:W3.cell? ⟨w.heap.size,0,none⟩=some (.pointer (some ⟨tb,0,none⟩)):=by simp[World.cell?,q0]
 have hvi:¬(3000:Int)<(v.size:Int):=by omega
 have HW:=hide (hW3);rw[←hW3] at HC HL;subst hW3;clear h hT ht hk hkd hb3 hs3 hb4 q0 q1 q2 old h4 s4 hen g0;go_enter Tryz.func19,Tryz.ntmps19;go_wp2_with fail
 refine(HM.out _).mono ?_;rintro e w1⟨rfl,hw⟩;rw[hw];clear hw;go_wp2_with fail
 refine HC.out.mono ?_;rintro e w5⟨rfl,w1,hq,hw5⟩;have HE:Hid (putPost w B D Gp V K pk m pages os (numT d t) d (PutR es k v) w5):=by rw[hw5];exact HL.out w1 hq
 clear hq hw5 HC HL;go_wp2;go_ret;exact⟨rfl,HE.out⟩
theorem cPutL (k v:ByteArray)(hk:okK k)(hv:3000<v.size)(hs:v.size≤9223372036854775807)(tb:Nat)(w:World):Calls Tryz.prog 19 #[(.pointer (some ⟨tb,0,none⟩)),.string k,.string v] w fun e w'=>e=.returned (.int .i64 8)∧Below w.heap.size w w':=by
 have HM:=hide (fun(Y:World)=>cmayBe k Y (by have:=hk.2;omega));have hkd:decide (0<k.size∧k.size≤200)=true:=decide_eq_true hk;rw[hkd] at HM;have hvi:(3000:Int)<(v.size:Int):=by omega
 have HB:Hid (Below w.heap.size w (((w.alloc (.cells #[(.pointer (some ⟨tb,0,none⟩))] 38)).alloc (.cells #[.string k] 9)).alloc (.cells #[.string v] 9))):=(((Below.refl _ _).alloc (Nat.le_refl _) _).alloc (by simp) _).alloc (by simp;omega) _;clear hk hkd;go_enter Tryz.func19,Tryz.ntmps19;go_wp2_with fail
 refine(HM.out _).mono ?_;rintro e w1⟨rfl,hw⟩;rw[hw];clear hw;go_wp2;go_ret;exact⟨rfl,HB.out⟩
end
section
variable {pk:Nat}
theorem putPost.other (h:TS w B D Gp V K pk m A fl pages)(hp:putPost w B D Gp V K pk m pages os rt d R w1)(hg:w1.grownBy w2 (some c))(hc:isC w1 c t)(ht:tyQ t=false)(hl:w.heap.size≤c):putPost w B D Gp V K pk m pages os rt d R w2:=by
 obtain⟨V',A',fl',pages',d',t',es',q1,q2,q3,q4,q5,q6⟩:=hp;exact⟨V',A',fl',pages',d',t',es',q1.other hg hc ht,q2,q3,q4,q5.other hg hl h.lo,q6⟩
theorem putPost.down (h:TS w B D Gp V K pk m A fl pages)(hX:Below w.heap.size w X)(hp:putPost X B D Gp V K pk m pages os rt d R w1):putPost w B D Gp V K pk m pages os rt d R w1:=by
 obtain⟨V',A',fl',pages',d',t',es',q1,q2,q3,q4,q5,q6⟩:=hp;exact⟨V',A',fl',pages',d',t',es',q1,q2,q3,q4,(h.below hX).2.trans q5,q6⟩
theorem putPost.stay (h:TS X B D Gp V K pk m A fl pages)(hp:putPost X B D Gp V K pk m pages os rt d R w1)(hc:X.heap[c]?=some (.cells cs t (0,0)))(ht:tyQ t=false):w1.heap[c]?=some (.cells cs t (0,0)):=by
 obtain⟨V',A',fl',pages',d',t',es',q1,q2,q3,q4,q5,q6⟩:=hp;exact h.stay q5 hc ht
theorem cdel1 {t:T d}(h:TS X B D Gp V K pk m A fl pages)(hm:m≤28000)(hpg:pages≤55000)(hT:Tr A fl pages os t es)(ht:TB X tb Gp (numT d t))(k:ByteArray)(hd:d≤20)(c0:X.cell? ⟨b0,0,none⟩=some (.pointer (some ⟨tb,0,none⟩)))(c1:X.cell? ⟨b1,0,none⟩=some (.string k))(c2:X.heap[b2]?=some (.cells #[.bool false] 4 (0,0))):Calls Tryz.prog 53 #[(.pointer (some ⟨b0,0,none⟩)),(.pointer (some ⟨b1,0,none⟩)),(.pointer (some ⟨b2,0,none⟩))] X fun e w'=>e=.returned (.tuple #[])∧∃(is:Bool) (w1:World),putPost X B D Gp V K pk m pages os (numT d t) d (DelR es k is) w1∧w1.heap[b2]?=some (.cells #[.bool false] 4 (0,0))∧w'=w1.setCell ⟨b2,0,none⟩ (.bool is):=by
 have HP:=hide (ctdelete h hm hpg hT ht k hd);have HS:=hide (fun(w1:World) (is:Bool) (hp:putPost X B D Gp V K pk m pages os (numT d t) d (DelR es k is) w1)=>putPost.stay h hp c2 (by decide));clear h hT ht c2;go_enter Tryz.func53,Tryz.ntmps53;go_wp2_with fail
 refine HP.out.mono ?_;rintro e w1⟨is,rfl,hp⟩;have hb:=HS.out _ _ hp;have e0:w1.cell? ⟨b2,0,none⟩=some (.bool false):=by simp[World.cell?,hb]
 have e1:w1.frozen? ⟨b2,0,none⟩=false:=by simp[World.frozen?,hb]
 have HE:=hide (hp);have HB:=hide (hb);clear hp hb;go_wp2;go_end0;exact⟨rfl,is,w1,HE.out,HB.out,rfl⟩
theorem cDelete {t:T d}(h:TS w B D Gp V K pk m A fl pages)(hm:m≤28000)(hpg:pages≤55000)(hT:Tr A fl pages os t es)(ht:TB w tb Gp (numT d t))(k:ByteArray)(hk:okK k)(hd:d≤20):Calls Tryz.prog 20 #[(.pointer (some ⟨tb,0,none⟩)),.string k] w fun e w'=>∃is:Bool,e=.returned (.tuple #[.bool is,.int .i64 0])∧putPost w B D Gp V K pk m pages os (numT d t) d (DelR es k is) w':=by
 have hmf:∀(fn:Fn) (first cap:Array Value) (w:World),(Instr.makeFunc fn first cap).run Tryz.prog w=.ok (.func fn first cap) w:=fun _ _ _ _=>rfl
 have hen:∀args w,(callFunc 53 args).run Tryz.prog w=.ok (.enter 53 args) w:=enters_of Tryz.func53 (by kernel_rfl) rfl;have HM:=hide (fun(Y:World)=>cmayBe k Y (by have:=hk.2;omega));have hkd:decide (0<k.size∧k.size≤200)=true:=decide_eq_true hk;rw[hkd] at HM;obtain⟨W3,hW3⟩:∃W3,((w.alloc (.cells #[(.pointer (some ⟨tb,0,none⟩))] 38)).alloc (.cells #[.string k] 9)).alloc (.cells #[.bool false] 4)=W3:=⟨_,rfl⟩;have hb3:Below w.heap.size w W3:=by rw[←hW3];exact(((Below.refl _ _).alloc (Nat.le_refl _) _).alloc (by simp) _).alloc (by simp;omega) _
 have hs3:W3.heap.size=w.heap.size+3:=by rw[←hW3];simp
 have hb4:Below w.heap.size w (W3.alloc (.cells #[.int .i64 0] 26)):=hb3.alloc (by omega) _;have q0:W3.heap[w.heap.size]?=some (.cells #[(.pointer (some ⟨tb,0,none⟩))] 38 (0,0)):=by
  rw[←hW3,heap_alloc_old _ _ (by simp;omega),heap_alloc_old _ _ (by simp)];exact heap_alloc_new w _
 have q1:W3.heap[w.heap.size+1]?=some (.cells #[.string k] 9 (0,0)):=by
  rw[←hW3,heap_alloc_old _ _ (by simp)];have:=heap_alloc_new (w.alloc (.cells #[(.pointer (some ⟨tb,0,none⟩))] 38)) (.cells #[.string k] 9);simpa using this
 have q2:W3.heap[w.heap.size+2]?=some (.cells #[.bool false] 4 (0,0)):=by
  rw[←hW3];have:=heap_alloc_new ((w.alloc (.cells #[(.pointer (some ⟨tb,0,none⟩))] 38)).alloc (.cells #[.string k] 9)) (.cells #[.bool false] 4);simpa using this
 have old:∀j,j<3→(W3.alloc (.cells #[.int .i64 0] 26)).heap[w.heap.size+j]?=W3.heap[w.heap.size+j]?:=fun j hj=>heap_alloc_old _ _ (by omega)
 obtain⟨h4,s4⟩:=h.below hb4;have HC:=hide (ccaught 53 hen #[(.pointer (some ⟨w.heap.size,0,none⟩)),(.pointer (some ⟨w.heap.size+1,0,none⟩)),(.pointer (some ⟨w.heap.size+2,0,none⟩))] W3 tb Gp (numT d t) (h.stayTB (h.below hb3).2 ht) (fun w'=>∃(is:Bool) (w1:World),putPost (W3.alloc (.cells #[.int .i64 0] 26)) B D Gp V K pk m pages os (numT d t) d (DelR es k is) w1∧w1.heap[w.heap.size+2]?=some (.cells #[.bool false] 4 (0,0))∧w'=w1.setCell ⟨w.heap.size+2,0,none⟩ (.bool is)) (cdel1 h4 hm hpg hT (h.stayTB s4 ht) k hd (by have:=old 0 (by omega);simp only[Nat.add_zero] at this;simp[World.cell?,this,q0]) (by simp[World.cell?,old 1 (by omega),q1]) (by rw[old 2 (by omega),q2])) (fun w' hp=>by
  obtain⟨is,w1,p1,p2,rfl⟩:=hp;rw[Below.heap_setCell _ _ _ _ (by show ¬W3.heap.size=w.heap.size+2;omega)];exact putPost.stay h4 p1 (heap_alloc_new W3 _) (by decide)))
 have HL:=hide (fun(w1:World) (is:Bool) (p1:putPost (W3.alloc (.cells #[.int .i64 0] 26)) B D Gp V K pk m pages os (numT d t) d (DelR es k is) w1) (p2:w1.heap[w.heap.size+2]?=some (.cells #[.bool false] 4 (0,0)))=>(show putPost w B D Gp V K pk m pages os (numT d t) d (DelR es k is) ((w1.setCell ⟨w.heap.size+2,0,none⟩ (.bool is)).setCell ⟨W3.heap.size,0,none⟩ (.int .i64 0))∧((w1.setCell ⟨w.heap.size+2,0,none⟩ (.bool is)).setCell ⟨W3.heap.size,0,none⟩ (.int .i64 0)).cell? ⟨w.heap.size+2,0,none⟩=some (.bool is) from by
  have p3:=putPost.stay h4 p1 (heap_alloc_new W3 _) (by decide);have g1:=set_grown w1 (w.heap.size+2) 0 (.bool is);have p4:(w1.setCell ⟨w.heap.size+2,0,none⟩ (.bool is)).heap[W3.heap.size]?=some (.cells #[.int .i64 0] 26 (0,0)):=by
   rw[Below.heap_setCell _ _ _ _ (by show ¬W3.heap.size=w.heap.size+2;omega)];exact p3
  refine⟨putPost.other h (putPost.other h (putPost.down h hb4 p1) g1 ⟨_,p2⟩ (by decide) (by omega)) (set_grown _ _ _ _) ⟨_,p4⟩ (by decide) (by omega),?_⟩;have p5:((w1.setCell ⟨w.heap.size+2,0,none⟩ (.bool is)).setCell ⟨W3.heap.size,0,none⟩ (.int .i64 0)).heap[w.heap.size+2]?=some (.cells #[.bool is] 4 (0,0)):=by
   rw[Below.heap_setCell _ _ _ _ (by show ¬w.heap.size+2=W3.heap.size;omega),set_blk p2];rfl
  simp[World.cell?,p5]))
 rw[←hW3] at HC HL;subst hW3;clear h hT ht hk hkd hb3 hs3 hb4 q0 q1 q2 old h4 s4 hen;go_enter Tryz.func20,Tryz.ntmps20;go_wp2_with fail
 refine(HM.out _).mono ?_;rintro e w1⟨rfl,hw⟩;rw[hw];clear hw;go_wp2_with fail
 refine HC.out.mono ?_;rintro e w5⟨rfl,w4,⟨is,w1,p1,p2,hw4⟩,hw5⟩;have HE:Hid (putPost w B D Gp V K pk m pages os (numT d t) d (DelR es k is) w5):=by rw[hw5,hw4];exact(HL.out w1 is p1 p2).1
 have hcb:w5.cell? ⟨w.heap.size+2,0,none⟩=some (.bool is):=by rw[hw5,hw4];exact(HL.out w1 is p1 p2).2
 clear p1 p2 hw4 hw5 HC HL;go_wp2
 go_ret2
 exact⟨is,rfl,HE.out⟩
end
section
variable {pk:Nat}
theorem cdro1 {t:T d}(h:TS X B D Gp V K pk m A fl pages)(hm:m+2*(numsT d t).length≤38000)(hT:Tr A fl pages os t es)(ht:TB X tb Gp (numT d t))(hb0:X.heap[b0]?=some (.cells #[(.pointer (some ⟨tb,0,none⟩))] 38 (0,0))):Calls Tryz.prog 58 #[(.pointer (some ⟨b0,0,none⟩))] X fun e w'=>e=.returned (.tuple #[])∧drPost X B D Gp V K pk m A pages (numsT d t) os w':=by
 have hbn:Bnd d ⟨#[]⟩ ⟨#[]⟩ t:=hT.sx.wf.at;have hA:∀q∈nodT d t,A q.1=q.2:=fun q hq=>by
  rw[nodT_eq,List.mem_cons] at hq;rcases hq with rfl | hq
  ·exact hT.own
  ·exact hT.sx.rep q (by unfold restN;exact List.mem_append_left _ hq)
 have hH:Hold fl pages (numsT d t++os):=by
  have:=hT.sx.perm;unfold restN at this;simp only[nod1,List.append_nil] at this;unfold numsT;rw[nodT_eq];exact this
 have HT:=hide (fun(Y:World) (hY:Below X.heap.size X Y)=>ctop (h.below hY).1 (by omega) (h.stayTB (h.below hY).2 ht) hT.sx.own.1 hT.own hbn hT.ok.some);have HD:=hide (fun(Y:World) (hY:Below X.heap.size X Y) (Z:World) (VZ:PV) (p:Nat) (y1:TS Z B D Gp VZ K pk m A fl pages) (y2:St2 Y Z B V VZ) (y3:ND Z Y.heap.size p (nvT d t ⟨#[]⟩ ⟨#[]⟩ 0))=>cdropT d y1 hm ((h.below hY).1.stayTB y2 (h.stayTB (h.below hY).2 ht)) y3.nr hbn hT.ok.high hT.ok.kids hA hH);have HS:=hide (fun(Y:World) (hY:Below X.heap.size X Y) (Z:World) (VZ:PV) (y2:St2 Y Z B V VZ)=>(h.below hY).2.trans y2);have HB:=hide (fun(Y:World) (hY:Below X.heap.size X Y) (Z:World) (VZ:PV) (y2:St2 Y Z B V VZ)=>(show Z.cell? ⟨b0,0,none⟩=some (.pointer (some ⟨tb,0,none⟩)) from by
  have:=(h.below hY).1.stay y2 (h.stay (h.below hY).2 hb0 (by decide)) (by decide);simp[World.cell?,this]))
 have c0:X.cell? ⟨b0,0,none⟩=some (.pointer (some ⟨tb,0,none⟩)):=by simp[World.cell?,hb0]
 have hblt:b0<X.heap.size:=(Array.getElem?_eq_some_iff.1 hb0).1;clear h hT ht hbn hA hH hb0;go_enter Tryz.func58,Tryz.ntmps58;go_wp2_with fail
 go_region_with (first | (go_at_call 60;refine(HT.out _ (drawnB X 1)).mono ?_;rintro e w1⟨V1,p,rfl,k1,k2,k3,k4⟩;have HK:=hide (HD.out _ (drawnB X 1) _ _ _ k1 k2 k3);have HK2:=hide (HS.out _ (drawnB X 1) _ _ k2);have d0:=HB.out _ (drawnB X 1) _ _ k2;clear k1 k2 k3 k4) | (go_at_call 59;refine HK.out.mono ?_;rintro e w2⟨rfl,V2,A2,fl2,q1,q2,q3,q4⟩))
 all_goals
  go_wp2;go_end0;exact⟨rfl,V2,A2,fl2,q1,HK2.out.trans q2,q3,q4⟩
theorem drPost.stay (h:TS X B D Gp V K pk m A fl pages)(hp:drPost X B D Gp V K pk m A pages ps Z w1)(hc:X.heap[c]?=some (.cells cs t (0,0)))(ht:tyQ t=false):w1.heap[c]?=some (.cells cs t (0,0)):=by
 obtain⟨V',A',fl',q1,q2,q3,q4⟩:=hp;exact h.stay q2 hc ht
theorem drPost.lift (h:TS w B D Gp V K pk m A fl pages)(hX:Below w.heap.size w X)(hp:drPost X B D Gp V K pk m A pages ps Z w1)(hg:w1.grownBy w2 (some c))(hc:isC w1 c t)(ht:tyQ t=false)(hl:w.heap.size≤c):drPost w B D Gp V K pk m A pages ps Z w2:=by
 obtain⟨V',A',fl',q1,q2,q3,q4⟩:=hp;exact⟨V',A',fl',q1.other hg hc ht,((h.below hX).2.trans q2).other hg hl h.lo,q3,q4⟩
theorem cDrop {t:T d}(h:TS w B D Gp V K pk m A fl pages)(hm:m+2*(numsT d t).length≤38000)(hT:Tr A fl pages os t es)(ht:TB w tb Gp (numT d t)):Calls Tryz.prog 24 #[(.pointer (some ⟨tb,0,none⟩))] w fun e w'=>e=.returned (.int .i64 0)∧drPost w B D Gp V K pk m A pages (numsT d t) os w':=by
 have hmf:∀(fn:Fn) (first cap:Array Value) (w:World),(Instr.makeFunc fn first cap).run Tryz.prog w=.ok (.func fn first cap) w:=fun _ _ _ _=>rfl
 have hen:∀args w,(callFunc 58 args).run Tryz.prog w=.ok (.enter 58 args) w:=enters_of Tryz.func58 (by kernel_rfl) rfl;obtain⟨W3,hW3⟩:∃W3,w.alloc (.cells #[(.pointer (some ⟨tb,0,none⟩))] 38)=W3:=⟨_,rfl⟩;have hb3:Below w.heap.size w W3:=by rw[←hW3];exact(Below.refl _ _).alloc (Nat.le_refl _) _
 have hs3:W3.heap.size=w.heap.size+1:=by rw[←hW3];simp
 have hb4:Below w.heap.size w (W3.alloc (.cells #[.int .i64 0] 26)):=hb3.alloc (by omega) _;have q0:W3.heap[w.heap.size]?=some (.cells #[(.pointer (some ⟨tb,0,none⟩))] 38 (0,0)):=by rw[←hW3];exact heap_alloc_new w _
 obtain⟨h4,s4⟩:=h.below hb4;have HC:=hide (ccaught 58 hen #[(.pointer (some ⟨w.heap.size,0,none⟩))] W3 tb Gp (numT d t) (h.stayTB (h.below hb3).2 ht) (fun w'=>drPost (W3.alloc (.cells #[.int .i64 0] 26)) B D Gp V K pk m A pages (numsT d t) os w') (cdro1 h4 hm hT (h.stayTB s4 ht) (by rw[heap_alloc_old _ _ (by omega)];exact q0)) (fun w' hp=>drPost.stay h4 hp (heap_alloc_new W3 _) (by decide)));have HL:=hide (fun(w1:World) (hp:drPost (W3.alloc (.cells #[.int .i64 0] 26)) B D Gp V K pk m A pages (numsT d t) os w1)=>drPost.lift h hb4 hp (set_grown w1 W3.heap.size 0 (.int .i64 0)) ⟨_,drPost.stay h4 hp (heap_alloc_new W3 _) (by decide)⟩ (by decide) (by omega));rw[←hW3] at HC HL;subst hW3;clear h hT ht hb3 hs3 hb4 q0 h4 s4 hen;go_enter Tryz.func24,Tryz.ntmps24;go_wp2_with fail
 refine HC.out.mono ?_;rintro e w5⟨rfl,w1,hq,hw5⟩;have HE:Hid (drPost w B D Gp V K pk m A pages (numsT d t) os w5):=by rw[hw5];exact HL.out w1 hq
 clear hq hw5 HC HL;go_wp2;go_ret;exact⟨rfl,HE.out⟩
theorem tr_new {A':Nat→PgV}{fl':List Nat}{pages':Nat}(hp:(0::(fl'++(n::os))).Perm (List.range pages'))(hA:A' n=⟨1,0,[]⟩):Tr A' fl' pages' os (d:=0) (⟨n,0,[]⟩:Lf) []:=
 ⟨⟨⟨⟨⟨#[]⟩,⟨#[]⟩,⟨rfl,rfl⟩,trivial⟩,trivial,rfl,⟨rfl,trivial⟩⟩,fun p hp=>by simp[restN,nodT,nod1] at hp,by simpa[restN,nodT,nod1,numT] using hp⟩,hA,⟨trivial,.inl rfl,by show usedC []≤1012;simp[usedC],.inl rfl⟩⟩
def crPost (w:World)(B D Gp:Nat)(V:PV)(K:Pgs)(pk m:Nat)(A:Nat→PgV)(fl:List Nat)(pages:Nat)(n:Nat)(w':World):Prop:=
 ∃(V':PV) (A':Nat→PgV) (fl':List Nat) (pages':Nat),TS w' B D Gp V' K pk (m+3) (updA A' n ⟨1,0,[]⟩) fl' pages'∧St2 w w' B V V'∧AllR A fl pages n A' fl' pages'
theorem TS.stayIB (h:TS w B D Gp V K pk m A fl pages)(hs:St2 w w' B V V')(hc:w.heap[c]?=some (.cells cs 3 (0,0)))(hn:¬V.b.vo.ownBlock=some c):w'.heap[c]?=some (.cells cs 3 (0,0))∧¬V'.b.vo.ownBlock=some c:=by
 obtain⟨C,h1,h2⟩:=h.po;exact h1.stayI hs hc hn
theorem TS.setI (h:TS w B D Gp V K pk m A fl pages)(hc:w.heap[c]?=some (.cells cs 3 (0,0)))(hn:¬V.b.vo.ownBlock=some c)(hg:w.grownBy w2 (some c)):TS w2 B D Gp V K pk m A fl pages:=
 h.keptN ⟨hg.size,fun b hb hl=>hg.block b hb (fun e=>hl (by injection e with e;subst e;exact .inr (.inr ⟨⟨_,hc⟩,hn⟩)))⟩
theorem ccre1 (h:TS X B D Gp V K pk m A fl pages)(hm:m≤38000)(hp:pages<58000)(hX:(0::(fl++Z)).Perm (List.range pages))(ht:TB X tb Gp root)(hb0:X.heap[b0]?=some (.cells #[(.pointer (some ⟨tb,0,none⟩))] 38 (0,0)))(hb1:X.heap[b1]?=some (.cells #[.int .i64 0] 3 (0,0)))(hn1:¬V.b.vo.ownBlock=some b1):Calls Tryz.prog 31 #[(.pointer (some ⟨b0,0,none⟩)),(.pointer (some ⟨b1,0,none⟩))] X fun e w'=>e=.returned (.tuple #[])∧∃(n:Nat) (w1:World),crPost X B D Gp V K pk m A fl pages n w1∧w1.heap[b1]?=some (.cells #[.int .i64 0] 3 (0,0))∧(∀V',St2 X w1 B V V'→¬V'.b.vo.ownBlock=some b1)∧w'=w1.setCell ⟨b1,0,none⟩ (.int .i64 (n:Int)):=by
 have HF:=hide (cfresh h (by omega) hp ht 1);have H:=hide (show TS X B D Gp V K pk m A fl pages∧TB X tb Gp root∧X.heap[b0]?=some (.cells #[(.pointer (some ⟨tb,0,none⟩))] 38 (0,0))∧X.heap[b1]?=some (.cells #[.int .i64 0] 3 (0,0))∧¬V.b.vo.ownBlock=some b1∧(0::(fl++Z)).Perm (List.range pages)∧m≤38000 from⟨h,ht,hb0,hb1,hn1,hX,hm⟩);have c0:X.cell? ⟨b0,0,none⟩=some (.pointer (some ⟨tb,0,none⟩)):=by simp[World.cell?,hb0]
 clear h hX ht hb0 hb1 hn1 hm hp;go_enter Tryz.func31,Tryz.ntmps31;go_wp2_with fail
 refine HF.out.mono ?_;rintro e w1⟨V1,n,A1,fl1,pages1,p,rfl,k1,k2,k3,k4,k5⟩;obtain⟨h,ht,hb0,hb1,hn1,hX,hm⟩:=H.out;have hp2:=k3.perm Z hX;have hh:Hold fl1 pages1 (n::Z):=hp2;have hmem:=hh.mem (n:=n) (by simp);have HW:=hide (ctwrite k1 (by omega) (h.stayTB k2 ht) k4.nr (show okP (pgN ⟨1,0,[],n,⟨#[]⟩,⟨#[]⟩,0⟩) from⟨by show 1≤1∧1≤5;omega,by show 0≤_;omega,by show usedC []≤1012;simp[usedC]⟩) hmem.1 hmem.2.1 hmem.2.2);have d0:w1.cell? ⟨b0,0,none⟩=some (.pointer (some ⟨tb,0,none⟩)):=by
  have:=h.stay k2 hb0 (by decide);simp[World.cell?,this]
 obtain⟨s,nb,-⟩:=k4;have HK:=hide (show TS w1 B D Gp V1 K pk (m+2) A1 fl1 pages1∧St2 X w1 B V V1∧AllR A fl pages n A1 fl1 pages1∧NB w1 p ⟨1,0,[],n,⟨#[]⟩,⟨#[]⟩,0⟩ s from⟨k1,k2,k3,nb⟩);clear k1 k2 k3 k5 nb h ht hb0 hb1 hn1 hX hm hp2 hh hmem HF;go_wp2_with fail
 refine HW.out.mono ?_;rintro e w2⟨rfl,V2,q1,q2⟩;obtain⟨k1,k2,k3,nb⟩:=HK.out;obtain⟨h,ht,hb0,hb1,hn1,hX,hm⟩:=H.out;have hb2:=h.stayIB (k2.trans q2) hb1 hn1;have nb2:=k1.stayNB q2 nb;obtain⟨u0,u1,u2,u3,u4,u5,u6,u7,u8⟩:=nb2.cells
 replace u3:w2.cell? ⟨p,3,none⟩=some (.int .i64 (n:Int)):=u3
 have e0:w2.cell? ⟨b1,0,none⟩=some (.int .i64 0):=by simp[World.cell?,hb2.1]
 have e1:w2.frozen? ⟨b1,0,none⟩=false:=by simp[World.frozen?,hb2.1]
 have HE:Hid (crPost X B D Gp V K pk m A fl pages n w2∧w2.heap[b1]?=some (.cells #[.int .i64 0] 3 (0,0))∧(∀V',St2 X w2 B V V'→¬V'.b.vo.ownBlock=some b1)):=⟨⟨V2,A1,fl1,pages1,q1,k2.trans q2,k3⟩,hb2.1,fun V' hs=>(h.stayIB hs hb1 hn1).2⟩;clear k1 k2 k3 nb h ht hb0 hb1 hn1 hX hm q1 q2 hb2 nb2 u0 u1 u2 u4 u5 u6 u7 HW;go_wp2;go_end0;exact⟨rfl,n,w2,HE.out.1,HE.out.2.1,HE.out.2.2,rfl⟩
end
theorem cOpenT (Gp root:Nat)(w:World):Calls Tryz.prog 9 #[(.pointer (some ⟨Gp,0,none⟩)),.int .i64 (root:Int)] w fun e w'=>e=.returned (.pointer (some ⟨w.heap.size,0,none⟩))∧TB w' w.heap.size Gp root∧Below w.heap.size w w':=by
 have HB:Hid (TB (w.alloc (.cells #[(.pointer (some ⟨Gp,0,none⟩)),.int .i64 (root:Int)] 92)) w.heap.size Gp root):=heap_alloc_new w _;have HW:Hid (Below w.heap.size w (w.alloc (.cells #[(.pointer (some ⟨Gp,0,none⟩)),.int .i64 (root:Int)] 92))):=(Below.refl _ _).alloc (Nat.le_refl _) _;go_enter Tryz.func9,Tryz.ntmps9;go_wp2;go_ret;exact⟨rfl,HB.out,HW.out⟩
section
variable {pk:Nat}
theorem cCreate (h:TS w B D Gp V K pk m A fl pages)(hm:m≤38000)(hp:pages<58000)(hX:(0::(fl++Z)).Perm (List.range pages)):Calls Tryz.prog 8 #[(.pointer (some ⟨Gp,0,none⟩))] w fun e w'=>∃n:Nat,e=.returned (.tuple #[.int .i64 (n:Int),.int .i64 0])∧crPost w B D Gp V K pk m A fl pages n w':=by
 have hmf:∀(fn:Fn) (first cap:Array Value) (w:World),(Instr.makeFunc fn first cap).run Tryz.prog w=.ok (.func fn first cap) w:=fun _ _ _ _=>rfl
 have hen:∀args w,(callFunc 31 args).run Tryz.prog w=.ok (.enter 31 args) w:=enters_of Tryz.func31 (by kernel_rfl) rfl;obtain⟨W3,hW3⟩:∃W3,((w.alloc (.cells #[(.pointer (some ⟨Gp,0,none⟩)),.int .i64 0] 92)).alloc (.cells #[(.pointer (some ⟨w.heap.size,0,none⟩))] 38)).alloc (.cells #[.int .i64 0] 3)=W3:=⟨_,rfl⟩;have hb3:Below w.heap.size w W3:=by rw[←hW3];exact(((Below.refl _ _).alloc (Nat.le_refl _) _).alloc (by simp) _).alloc (by simp;omega) _
 have hs3:W3.heap.size=w.heap.size+3:=by rw[←hW3];simp
 have hb4:Below w.heap.size w (W3.alloc (.cells #[.int .i64 0] 26)):=hb3.alloc (by omega) _;have q0:W3.heap[w.heap.size]?=some (.cells #[(.pointer (some ⟨Gp,0,none⟩)),.int .i64 0] 92 (0,0)):=by
  rw[←hW3,heap_alloc_old _ _ (by simp;omega),heap_alloc_old _ _ (by simp)];exact heap_alloc_new w _
 have q1:W3.heap[w.heap.size+1]?=some (.cells #[(.pointer (some ⟨w.heap.size,0,none⟩))] 38 (0,0)):=by
  rw[←hW3,heap_alloc_old _ _ (by simp)];have:=heap_alloc_new (w.alloc (.cells #[(.pointer (some ⟨Gp,0,none⟩)),.int .i64 0] 92)) (.cells #[(.pointer (some ⟨w.heap.size,0,none⟩))] 38);simpa using this
 have q2:W3.heap[w.heap.size+2]?=some (.cells #[.int .i64 0] 3 (0,0)):=by
  rw[←hW3];have:=heap_alloc_new ((w.alloc (.cells #[(.pointer (some ⟨Gp,0,none⟩)),.int .i64 0] 92)).alloc (.cells #[(.pointer (some ⟨w.heap.size,0,none⟩))] 38)) (.cells #[.int .i64 0] 3);simpa using this
 have old:∀j,j<3→(W3.alloc (.cells #[.int .i64 0] 26)).heap[w.heap.size+j]?=W3.heap[w.heap.size+j]?:=fun j hj=>heap_alloc_old _ _ (by omega)
 obtain⟨h4,s4⟩:=h.below hb4;have hTB:TB (W3.alloc (.cells #[.int .i64 0] 26)) w.heap.size Gp 0:=by
  have:=old 0 (by omega);simp only[Nat.add_zero] at this;exact this.trans q0
 have HC:=hide (ccaught 31 hen #[(.pointer (some ⟨w.heap.size+1,0,none⟩)),(.pointer (some ⟨w.heap.size+2,0,none⟩))] W3 w.heap.size Gp 0 q0 (fun w'=>∃(n:Nat) (w1:World),crPost (W3.alloc (.cells #[.int .i64 0] 26)) B D Gp V K pk m A fl pages n w1∧w1.heap[w.heap.size+2]?=some (.cells #[.int .i64 0] 3 (0,0))∧(∀V',St2 (W3.alloc (.cells #[.int .i64 0] 26)) w1 B V V'→¬V'.b.vo.ownBlock=some (w.heap.size+2))∧w'=w1.setCell ⟨w.heap.size+2,0,none⟩ (.int .i64 (n:Int))) (ccre1 h4 hm hp hX hTB (by rw[old 1 (by omega)];exact q1) (by rw[old 2 (by omega)];exact q2) (h.newI (by omega))) (fun w' hq=>by
  obtain⟨n,w1,⟨V',A',fl',pages',p1,p2,p3⟩,p4,p5,rfl⟩:=hq;rw[Below.heap_setCell _ _ _ _ (by show ¬W3.heap.size=w.heap.size+2;omega)];exact h4.stay p2 (heap_alloc_new W3 _) (by decide)))
 have HL:=hide (fun(w1:World) (n:Nat) (hq:crPost (W3.alloc (.cells #[.int .i64 0] 26)) B D Gp V K pk m A fl pages n w1) (p4:w1.heap[w.heap.size+2]?=some (.cells #[.int .i64 0] 3 (0,0))) (p5:∀V',St2 (W3.alloc (.cells #[.int .i64 0] 26)) w1 B V V'→¬V'.b.vo.ownBlock=some (w.heap.size+2))=>(show crPost w B D Gp V K pk m A fl pages n ((w1.setCell ⟨w.heap.size+2,0,none⟩ (.int .i64 (n:Int))).setCell ⟨W3.heap.size,0,none⟩ (.int .i64 0))∧((w1.setCell ⟨w.heap.size+2,0,none⟩ (.int .i64 (n:Int))).setCell ⟨W3.heap.size,0,none⟩ (.int .i64 0)).cell? ⟨w.heap.size+2,0,none⟩=some (.int .i64 (n:Int)) from by
  obtain⟨V',A',fl',pages',p1,p2,p3⟩:=hq;have g1:=set_grown w1 (w.heap.size+2) 0 (.int .i64 (n:Int));have t1:=p1.setI p4 (p5 V' p2) g1;have s1:=(s4.trans p2).other g1 (by omega) h.lo;have b1:(w1.setCell ⟨w.heap.size+2,0,none⟩ (.int .i64 (n:Int))).heap[W3.heap.size]?=some (.cells #[.int .i64 0] 26 (0,0)):=by
   rw[Below.heap_setCell _ _ _ _ (by show ¬W3.heap.size=w.heap.size+2;omega)];exact h4.stay p2 (heap_alloc_new W3 _) (by decide)
  have g2:=set_grown (w1.setCell ⟨w.heap.size+2,0,none⟩ (.int .i64 (n:Int))) W3.heap.size 0 (.int .i64 0);refine⟨⟨V',A',fl',pages',t1.other g2 ⟨_,b1⟩ (by decide),s1.other g2 (by omega) h.lo,p3⟩,?_⟩;have p6:((w1.setCell ⟨w.heap.size+2,0,none⟩ (.int .i64 (n:Int))).setCell ⟨W3.heap.size,0,none⟩ (.int .i64 0)).heap[w.heap.size+2]?=some (.cells #[.int .i64 (n:Int)] 3 (0,0)):=by
   rw[Below.heap_setCell _ _ _ _ (by show ¬w.heap.size+2=W3.heap.size;omega),set_blk p4];rfl
  simp[World.cell?,p6]))
 rw[←hW3] at HC HL;subst hW3;clear h hX hb3 hs3 hb4 q0 q1 q2 old h4 s4 hen hTB;go_enter Tryz.func8,Tryz.ntmps8;go_wp2_with fail
 refine HC.out.mono ?_;rintro e w5⟨rfl,w4,⟨n,w1,p1,p2,p3,hw4⟩,hw5⟩;have HE:Hid (crPost w B D Gp V K pk m A fl pages n w5):=by rw[hw5,hw4];exact(HL.out w1 n p1 p2 p3).1
 have hcb:w5.cell? ⟨w.heap.size+2,0,none⟩=some (.int .i64 (n:Int)):=by rw[hw5,hw4];exact(HL.out w1 n p1 p2 p3).2
 clear p1 p2 p3 hw4 hw5 HC HL;go_wp2
 go_ret2
 exact⟨n,rfl,HE.out⟩
end
structure Sp (w:World) (sp:Nat) (V:PV) (k:Nat) (va vb vc:Value) (lv ln:List Nat) (ks:List ByteArray) (ok:Bool):Prop where
 blk:w.heap[sp]?=some (.cells #[.int .i64 (k:Int),va,vb,vc,.bool ok] 64 (0,0))
 ra:w.ownsRow sp 3 1 va lv.length (intsN lv)
 rb:w.ownsRow sp 3 1 vb ln.length (intsN ln)
 rc:w.ownsRow sp 9 1 vc ks.length (valsS ks)
 na:∀g,va.ownBlock=some g→¬V.b.vo.ownBlock=some g
 nb:∀g,vb.ownBlock=some g→¬V.b.vo.ownBlock=some g
 dif:∀g,va.ownBlock=some g→¬vb.ownBlock=some g
structure HF (sp B:Nat) (w w':World) (V V':PV) (vc vc':Value):Prop where
 st:∀w0 V0,St2 w0 w B V0 V→w0.heap.size≤sp→B≤w0.heap.size→St2 w0 w' B V0 V'
 blk:∀(c:Nat) (cs:Array Value) (t:TypeId),w.heap[c]?=some (.cells cs t (0,0))→tyQ t=false→¬t=9→¬t=64→w'.heap[c]?=some (.cells cs t (0,0))
 str:∀(c:Nat) (cs:Array Value),w.heap[c]?=some (.cells cs 9 (0,0))→¬vc.ownBlock=some c→w'.heap[c]?=some (.cells cs 9 (0,0))∧¬vc'.ownBlock=some c
 size:w.heap.size≤w'.heap.size
theorem HF.refl (sp B:Nat)(w:World)(V:PV)(vc:Value):HF sp B w w V V vc vc:=⟨fun _ _ h _ _=>h,fun _ _ _ h _ _ _=>h,fun _ _ h k=>⟨h,k⟩,Nat.le_refl _⟩
theorem HF.trans {w'':World}{V'':PV}{vc'':Value}(h:HF sp B w w' V V' vc vc')(k:HF sp B w' w'' V' V'' vc' vc''):HF sp B w w'' V V'' vc vc'':=
 ⟨fun w0 V0 a b c=>k.st w0 V0 (h.st w0 V0 a b c) b c,fun c cs t a b d e=>k.blk c cs t (h.blk c cs t a b d e) b d e,fun c cs a b=>k.str c cs (h.str c cs a b).1 (h.str c cs a b).2,Nat.le_trans h.size k.size⟩
section
variable {pk:Nat}
theorem Sp.cells (h:Sp w sp V k va vb vc lv ln ks ok):w.cell? ⟨sp,0,none⟩=some (.int .i64 (k:Int))∧w.cell? ⟨sp,1,none⟩=some va∧w.cell? ⟨sp,2,none⟩=some vb∧w.cell? ⟨sp,3,none⟩=some vc∧w.cell? ⟨sp,4,none⟩=some (.bool ok)∧(∀o,w.frozen? ⟨sp,o,none⟩=false)∧sp<w.heap.size:=by
 have e:=h.blk;exact⟨by simp[World.cell?,e],by simp[World.cell?,e],by simp[World.cell?,e],by simp[World.cell?,e],by simp[World.cell?,e],fun o=>by simp[World.frozen?,e],(Array.getElem?_eq_some_iff.1 e).1⟩
theorem TS.hf (h:TS w B D Gp V K pk m A fl pages)(hs:St2 w w' B V V')(sp:Nat)(vc:Value):HF sp B w w' V V' vc vc:=
 ⟨fun _ _ h0 _ _=>h0.trans hs,fun _ _ _ hc h1 _ _=>h.stay hs hc h1,fun _ _ hc h1=>⟨h.stay hs hc (by decide),h1⟩,hs.bel.size⟩
theorem TS.staySp (h:TS w B D Gp V K pk m A fl pages)(hs:St2 w w' B V V')(hp:Sp w sp V k va vb vc lv ln ks ok):Sp w' sp V' k va vb vc lv ln ks ok:=by
 have a:=h.stayI hs hp.ra hp.na;have b:=h.stayI hs hp.rb hp.nb;refine⟨h.stay hs hp.blk (by decide),a.1,b.1,row_keep hp.rc fun g hg=>?_,a.2,b.2,hp.dif⟩;rcases hp.rc.2 with⟨e,_⟩ | ⟨g',cap,cur,e,_,hgg,_⟩
 ·rw[e] at hg;cases hg
 ·rw[e] at hg;injection hg with hg;have hg:g'=g:=hg;subst hg;exact(h.stay hs hgg (by decide)).trans hgg.symm
theorem Sp.row_ne (h:Sp w sp V k va vb vc lv ln ks ok):¬va.ownBlock=some sp∧¬vb.ownBlock=some sp∧¬vc.ownBlock=some sp:=by
 have f:∀{t:TypeId} {v:Value} {n:Nat} {xs:List Value},w.ownsRow sp t 1 v n xs→¬t=64→¬v.ownBlock=some sp:=fun hr ht hg=>by
  rcases hr.2 with⟨e,_⟩|⟨g',cap,cur,e,_,hgg,_⟩
  ·rw[e] at hg;cases hg
  ·rw[e] at hg;injection hg with hg;have hg:g'=sp:=hg;subst hg;rw[h.blk] at hgg;injection hgg with hgg;injection hgg with _ hgg _;exact ht hgg.symm
 exact⟨f h.ra (by decide),f h.rb (by decide),f h.rc (by decide)⟩
theorem Sp.set0 (h:Sp w sp V k va vb vc lv ln ks ok)(k':Nat):Sp (w.setCell ⟨sp,0,none⟩ (.int .i64 (k':Int))) sp V k' va vb vc lv ln ks ok:=by
 have hg:=set_grown w sp 0 (.int .i64 (k':Int));obtain⟨n1,n2,n3⟩:=h.row_ne;refine⟨set_blk h.blk,row_keep h.ra fun g e=>hg.block g (World.ownsRow.lt h.ra g e).2 (fun q=>n1 (by rw[e,q])),row_keep h.rb fun g e=>hg.block g (World.ownsRow.lt h.rb g e).2 (fun q=>n2 (by rw[e,q])),row_keep h.rc fun g e=>hg.block g (World.ownsRow.lt h.rc g e).2 (fun q=>n3 (by rw[e,q])),h.na,h.nb,h.dif⟩
theorem Sp.set4 (h:Sp w sp V k va vb vc lv ln ks ok)(ok':Bool):Sp (w.setCell ⟨sp,4,none⟩ (.bool ok')) sp V k va vb vc lv ln ks ok':=by
 have hg:=set_grown w sp 4 (.bool ok');obtain⟨n1,n2,n3⟩:=h.row_ne;refine⟨set_blk h.blk,row_keep h.ra fun g e=>hg.block g (World.ownsRow.lt h.ra g e).2 (fun q=>n1 (by rw[e,q])),row_keep h.rb fun g e=>hg.block g (World.ownsRow.lt h.rb g e).2 (fun q=>n2 (by rw[e,q])),row_keep h.rc fun g e=>hg.block g (World.ownsRow.lt h.rc g e).2 (fun q=>n3 (by rw[e,q])),h.na,h.nb,h.dif⟩
theorem Sp.hset (h:Sp w sp V k va vb vc lv ln ks ok)(hB:B≤sp)(o:Nat)(v:Value):HF sp B w (w.setCell ⟨sp,o,none⟩ v) V V vc vc:=by
 have hg:=set_grown w sp o v;have hne:∀(c:Nat) (cs:Array Value) (t:TypeId),w.heap[c]?=some (.cells cs t (0,0))→¬t=64→¬c=sp:=fun c cs t hc ht e=>by
  subst e;rw[h.blk] at hc;injection hc with hc;injection hc with _ hc _;exact ht hc.symm
 refine⟨fun w0 V0 a b c=>a.other hg b c,fun c cs t a b d e=>?_,fun c cs a b=>⟨?_,b⟩,hg.size⟩
 ·exact(hg.block c (Array.getElem?_eq_some_iff.1 a).1 (fun q=>hne c cs t a e (by injection q))).trans a
 ·exact(hg.block c (Array.getElem?_eq_some_iff.1 a).1 (fun q=>hne c cs _ a (by decide) (by injection q))).trans a
theorem cpagesT (h:TS w B D Gp V K pk m A fl pages):Calls Tryz.prog 23 #[(.pointer (some ⟨Gp,0,none⟩))] w fun e w'=>e=.returned (.int .i64 (pages:Int))∧w'=w:=by
 obtain⟨C,h1,h2⟩:=h.po;obtain⟨c0,c1,c2,c3,c4,c5,c6,c7,c8,c9⟩:=h1.pp.cells;rw[h.pg] at c2;clear h h1 h2;go_enter Tryz.func23,Tryz.ntmps23;go_wp2_with fail
 go_ret;exact⟨rfl,rfl⟩
end
section
variable {pk:Nat}
theorem Sp.but (h:Sp w sp V k va vb vc lv ln ks ok)(hg:w.grownBy w' (some c))(hc:w.heap[c]?=some (.cells cs t (0,0)))(ht:¬t=3∧¬t=9∧¬t=64):Sp w' sp V k va vb vc lv ln ks ok:=by
 have f:∀{t':TypeId} {v:Value} {n:Nat} {xs:List Value},w.ownsRow sp t' 1 v n xs→¬t=t'→w'.ownsRow sp t' 1 v n xs:=fun hr ht=>row_keep hr fun g hgg=>hg.block g (World.ownsRow.lt hr g hgg).2 fun q=>by
  injection q with q;subst q;rcases hr.2 with⟨e,_⟩ | ⟨g',cap,cur,e,_,hgb,_⟩
  ·rw[e] at hgg;cases hgg
  ·rw[e] at hgg;injection hgg with hgg;have hgg:g'=g:=hgg;subst hgg;rw[hc] at hgb;injection hgb with hgb;injection hgb with _ hgb _;exact ht hgb
 refine⟨(hg.block sp h.cells.2.2.2.2.2.2 (fun q=>?_)).trans h.blk,f h.ra ht.1,f h.rb ht.1,f h.rc ht.2.1,h.na,h.nb,h.dif⟩;injection q with q;subst q;rw[h.blk] at hc;injection hc with hc;injection hc with _ hc _;exact ht.2.2 hc.symm
theorem HF.new (h:HF sp B w w' V V' vc vc')(hg:w'.grownBy w2 (some c))(hc:w.heap.size≤c)(hs:sp<w.heap.size):HF sp B w w2 V V' vc vc':=
 ⟨fun w0 V0 a b d=>(h.st w0 V0 a b d).other hg (by omega) d,fun b cs t a b1 b2 b3=>by
  have hlt:=(Array.getElem?_eq_some_iff.1 a).1;exact(hg.block b (Nat.lt_of_lt_of_le hlt h.size) (fun q=>by injection q with q;omega)).trans (h.blk b cs t a b1 b2 b3),fun b cs a b1=>by
  have hlt:=(Array.getElem?_eq_some_iff.1 a).1;exact⟨(hg.block b (Nat.lt_of_lt_of_le hlt h.size) (fun q=>by injection q with q;omega)).trans (h.str b cs a b1).1,(h.str b cs a b1).2⟩,Nat.le_trans h.size hg.size⟩
theorem copenS (h:TS w B D Gp V K pk m A fl pages)(hm:m≤50000)(hp:Sp w sp V k va vb vc lv ln ks ok)(hB:B≤sp)(n:Nat)(hn:n<pages)(hk:k<pages):Calls Tryz.prog 55 #[(.pointer (some ⟨sp,0,none⟩)),(.pointer (some ⟨Gp,0,none⟩)),.int .i64 (n:Int)] w fun e w'=>∃V' v,e=.returned (.agg #[.int .i64 ((A n).kind:Int),.int .i64 ((A n).link:Int),v])∧TS w' B D Gp V' K pk m A fl pages∧Sp w' sp V' (k+1) va vb vc lv ln ks ok∧HF sp B w w' V V' vc vc∧w'.ownsRow w.heap.size 9 1 v (A n).cells.length (valsS (A n).cells):=by
 have hb:Below w.heap.size w (w.alloc (.cells #[.int .i64 0,.int .i64 0,.slice none 0 0] 82)):=((Below.refl _ _).alloc (Nat.le_refl _) _);have hps:=h.flsmall.2;obtain⟨h1,s1⟩:=h.below hb;have hp1:=h.staySp s1 hp;obtain⟨C,p1,hC⟩:=h1.po;have HR:=hide (creadP p1 hm (n:Int) (by omega) (by rw[h1.pg];omega));have HX:=hide (Bx3.new w (.int .i64 0) (.int .i64 0) (.slice none 0 0));have H:=hide h;have H1:=hide (h1);have HS1:=hide (s1);have HP1:=hide (p1);have HSP:=hide (hp1);have HC:=hide (hC);have HCn:=hide (hC n hn);have HLO:=hide (h.lo);have HNK:=hide (show n<pages∧k<pages∧pages≤59000∧B≤sp from⟨hn,hk,hps,hB⟩);obtain⟨-,-,-,-,-,-,hsl⟩:=hp.cells;have HSL:=hide hsl;clear h h1 s1 p1 hC hb hn hp hp1 hk hps hB hsl;go_enter Tryz.func55,Tryz.ntmps55;go_wp2_with fail
 refine HR.out.mono ?_;rintro e w1⟨V1,k1,k2,k3,k4,(⟨t,k5,rfl⟩ | ⟨rfl,k5⟩)⟩
 ·rw[HCn.out.1] at k5;injection k5 with k5;subst k5;have HX1:=hide (HP1.out.stay k2 HX.out (by decide));have HQ1:=hide (show TS w1 B D Gp V1 K pk m A fl pages from⟨⟨C,k1,HC.out⟩,k3.trans H1.out.pg,k4.trans H1.out.fr,H1.out.zero,H1.out.fls,H1.out.flin,k2.nf H1.out.nf,H1.out.fnd⟩);have HSP1:=hide (H1.out.staySp k2 HSP.out);have HS2:=hide (HS1.out.trans k2);clear k1 k2 k3 k4 HR;go_wp2_with fail
  refine(copenq (pgX (A n)) _ (pgX_size HCn.out.2)).mono ?_;rintro e w3⟨(⟨_,v,rfl,ho⟩ | ⟨k,_⟩),hb3⟩
  ·obtain⟨g1,g2,g3,g4⟩:=pgX_good HCn.out.2;rw[g4] at ho;rw[g2,g3];obtain⟨a,c,rfl,-⟩:=sta_own (L:=(A n).cells) ho;generalize hkd:(A n).kind=kd at *;generalize hlk:(A n).link=lk at *;generalize hcl:(A n).cells=cl at *;have HE:=hide (show(A n).kind=kd∧(A n).link=lk∧(A n).cells=cl from⟨hkd,hlk,hcl⟩);obtain⟨q3,r3⟩:=HQ1.out.below hb3;have sp3:=HQ1.out.staySp r3 HSP1.out;have hX3:Bx3 w3 w.heap.size (.int .i64 0) (.int .i64 0) (.slice none 0 0):=Bx3.below HX1.out hb3;obtain⟨c0,c1,c2,c3,c4,c5,c6⟩:=sp3.cells;have f0:=c5 0;have hsne:¬sp=w.heap.size:=by have:=HSL.out;omega
   have hws:w.heap.size<w3.heap.size:=hX3.lt;have hcast:((k+1:Nat):Int)=(k:Int)+1:=by omega
   have sp4:=sp3.set0 (k+1);have hf4:=sp3.hset HNK.out.2.2.2 0 (.int .i64 ((k+1:Nat):Int));have ts4:=q3.other (set_grown w3 sp 0 (.int .i64 ((k+1:Nat):Int))) ⟨_,sp3.blk⟩ (by decide);have bx4:Bx3 (w3.setCell ⟨sp,0,none⟩ (.int .i64 ((k+1:Nat):Int))) w.heap.size (.int .i64 0) (.int .i64 0) (.slice none 0 0):=(Below.heap_setCell _ _ _ _ (by show ¬w.heap.size=sp;omega)).trans hX3;have ow4:(w3.setCell ⟨sp,0,none⟩ (.int .i64 ((k+1:Nat):Int))).ownsRow w1.heap.size 9 1 (.slice a cl.length c) cl.length (valsS cl):=row_keep ho fun g hg=>Below.heap_setCell _ _ _ _ (by have:=(World.ownsRow.lt ho g hg).1;have:=HSP1.out.cells.2.2.2.2.2.2;show ¬g=sp;omega)
   rw[hcast] at sp4 hf4 ts4 bx4 ow4;obtain⟨W3,hW3⟩:∃W3,w3.setCell ⟨sp,0,none⟩ (.int .i64 ((k:Int)+1))=W3:=⟨_,rfl⟩;have hWs:W3.heap.size=w3.heap.size:=by rw[←hW3];simp
   rw[hW3] at sp4 hf4 ts4 bx4 ow4;have hb4:Below W3.heap.size W3 (W3.alloc (.cells #[.int .i64 (kd:Int),.int .i64 (lk:Int),.slice a cl.length c] 82)):=((Below.refl _ _).alloc (Nat.le_refl _) _);obtain⟨ts5,st5⟩:=ts4.below hb4;have sp5:=ts4.staySp st5 sp4;have hf5:HF sp B w (W3.alloc (.cells #[.int .i64 (kd:Int),.int .i64 (lk:Int),.slice a cl.length c] 82)) V V1 vc vc:=(((H.out.hf HS2.out sp vc).trans (HQ1.out.hf r3 sp vc)).trans hf4).trans (ts4.hf st5 sp vc);have bx5:=bx4.below hb4;have by5:=Bx3.new W3 (.int .i64 (kd:Int)) (.int .i64 (lk:Int)) (.slice a cl.length c);have ow5:=own_below ow4 hb4;rw[hWs] at by5;have hsz:(W3.alloc (.cells #[.int .i64 (kd:Int),.int .i64 (lk:Int),.slice a cl.length c] 82)).heap.size=w3.heap.size+1:=by simp[hWs]
   have HM:=hide (hW3);have HRW:=hide (show w.heap.size≤w1.heap.size from Nat.le_trans (by simp) HS2.out.bel.size);clear g1 g2 g3 g4 hkd hlk hcl c0 c1 c2 c3 c4 c5 c6 f0 hWs hcast sp4 hf4 ts4 bx4 ow4 hb4 st5 q3 r3 ho hb3 hX3;obtain⟨c0,c1,c2,c3,c4,c5,c6⟩:=sp3.cells;have f0:=c5 0;clear sp3 c5;have hw1:wrap64 ((k:Int)+1)=(k:Int)+1:=by have:=HNK.out;unfold wrap64;omega
   go_upto_region 4 with fail
   try rw[hW3]
   generalize W3.alloc (.cells #[.int .i64 (kd:Int),.int .i64 (lk:Int),.slice a cl.length c] 82)=W at *;have HT:=hide (show TS W B D Gp V1 K pk m A fl pages∧Sp W sp V1 (k+1) va vb vc lv ln ks ok∧HF sp B w W V V1 vc vc∧W.ownsRow w1.heap.size 9 1 (.slice a cl.length c) cl.length (valsS cl) from⟨ts5,sp5,hf5,ow5⟩);have HPG:=hide (fun(W':World) (hb:Below W.heap.size W W')=>cpagesT (ts5.below hb).1);clear c0 c1 c2 c3 c4 c6 f0 hW3 HM ts5 hf5 ow5;obtain⟨c0,c1,c2,c3,c4,c5,c6⟩:=sp5.cells;clear c5 sp5
   replace c0:W.cell? ⟨sp,0,none⟩=some (.int .i64 ((k:Int)+1)):=c0
   have hgt:¬(pages:Int)<(k:Int)+1:=by have:=HNK.out;omega
   have y0:=by5.c0;have y1:=by5.c1;have y2:=by5.c2;have x0:=bx5.c0;have x1:=bx5.c1;have x2:=bx5.c2;have z0:=bx5.fz 0;have z1:=bx5.fz 1;have z2:=bx5.fz 2;have xl:=bx5.lt;have yl:=by5.lt;have HBX:=hide (And.intro bx5 by5);clear bx5 by5;have HB0:Hid (Below W.heap.size W W.drew):=(Below.refl _ _).drew;clear y0 y1 y2 x0 x1 x2 z0 z1 z2 xl yl
   go_region_held3 (fun w'=>Hid (Below W.heap.size W w')∧w'.cell? ⟨sp,0,none⟩=some (.int .i64 ((k:Int)+1))) (first | (and_intros<;>first | exact HB0 | assumption) | (go_split_ands;and_intros<;>assumption)) (first | (go_at_call 23;refine(HPG.out _ (Hid.out (by assumption))).mono ?_;rintro e w'⟨rfl,rfl⟩))
   go_split_ands
   obtain⟨bx,by'⟩:=HBX.out
   replace bx:=bx.below HB0.out
   replace by':=by'.below HB0.out
   obtain⟨t1,t2,t3,t4⟩:=HT.out;obtain⟨t1d,std⟩:=t1.below HB0.out;have t2d:=t1.staySp std t2;have t3d:=t3.trans (t1.hf std sp vc);have t4d:=own_below t4 HB0.out;have hszd:W.drew.heap.size=w3.heap.size+1:=hsz;clear t1 t2 t3 t4 std HT HPG HBX HB0 c0 c1 c2 c3 c4 c6 hsz;generalize W.drew=Wd at *;have y0:=by'.c0
   have y1:=by'.c1
   have y2:=by'.c2
   have x0:=bx.c0;have x1:=bx.c1;have x2:=bx.c2;have z0:=bx.fz 0;have z1:=bx.fz 1;have z2:=bx.fz 2;have xl:=bx.lt;have yl:=by'.lt
   have hg:=grown_put Wd w.heap.size (.int .i64 (kd:Int)) (.int .i64 (lk:Int)) (.slice a cl.length c);have HQ:=hide (show TS (((Wd.setCell ⟨w.heap.size,0,none⟩ (.int .i64 (kd:Int))).setCell ⟨w.heap.size,1,none⟩ (.int .i64 (lk:Int))).setCell ⟨w.heap.size,2,none⟩ (.slice a cl.length c)) B D Gp V1 K pk m A fl pages∧Sp (((Wd.setCell ⟨w.heap.size,0,none⟩ (.int .i64 (kd:Int))).setCell ⟨w.heap.size,1,none⟩ (.int .i64 (lk:Int))).setCell ⟨w.heap.size,2,none⟩ (.slice a cl.length c)) sp V1 (k+1) va vb vc lv ln ks ok∧HF sp B w (((Wd.setCell ⟨w.heap.size,0,none⟩ (.int .i64 (kd:Int))).setCell ⟨w.heap.size,1,none⟩ (.int .i64 (lk:Int))).setCell ⟨w.heap.size,2,none⟩ (.slice a cl.length c)) V V1 vc vc∧(((Wd.setCell ⟨w.heap.size,0,none⟩ (.int .i64 (kd:Int))).setCell ⟨w.heap.size,1,none⟩ (.int .i64 (lk:Int))).setCell ⟨w.heap.size,2,none⟩ (.slice a cl.length c)).ownsRow w.heap.size 9 1 (.slice a cl.length c) cl.length (valsS cl) from
    ⟨t1d.other hg ⟨_,bx⟩ (by decide),t2d.but hg bx (by decide),t3d.new hg (Nat.le_refl _) HSL.out,own_mono (own_put bx t4d (.int .i64 (kd:Int)) (.int .i64 (lk:Int)) (.slice a cl.length c)) HRW.out⟩)
   clear t1d t2d t3d t4d hg bx by'
   go_wp2;exact bodyPost_ret (v:=.agg #[.int .i64 (kd:Int),.int .i64 (lk:Int),.slice a cl.length c]) (by simp[results,Tryz.results55,go_sem, *]) rfl ⟨V1,_,by rw[HE.out.1,HE.out.2.1],HQ.out.1,HQ.out.2.1,HQ.out.2.2.1,by rw[HE.out.2.2];exact HQ.out.2.2.2⟩
  ·exact absurd (pgX_good HCn.out.2).1 k
 ·have:=(k2.nf H1.out.nf).2;rw[k5] at this;cases this
end
theorem flc_at:∀{l:List Nat},flc A l→∀j (h:j<l.length),A l[j]=⟨3,(l.drop (j+1)).headD 0,[]⟩
 | _::_,⟨h,_⟩,0,_=>h
 | _::_,⟨_,h⟩,j+1,k=>flc_at h j (Nat.lt_of_succ_lt_succ k)
def pgOf (sp:Nat)(X:World):Nat:=match X.cell? ⟨sp,0,none⟩ with | some v=>(intOf v).toNat | _=>0
section
variable {pk:Nat}
theorem Sp.pgOf (h:Sp w sp V k va vb vc lv ln ks ok):pgOf sp w=k:=by
 unfold Go.Proofs.YtiaibgfhigdgdaaGreat.pgOf;rw[h.cells.1];simp[intOf]
theorem Sp.new (w:World)(V:PV):Sp (w.alloc (.cells #[.int .i64 ((0:Nat):Int),(.slice none 0 0),(.slice none 0 0),(.slice none 0 0),.bool true] 64)) w.heap.size V 0 (.slice none 0 0) (.slice none 0 0) (.slice none 0 0) [] [] [] true:=by
 have e:∀(t:TypeId) (X:World) (b:Nat),X.ownsRow b t 1 (.slice none 0 0) 0 []:=fun t X b=>⟨rfl,.inl ⟨rfl,rfl⟩⟩
 exact⟨heap_alloc_new w _,e _ _ _,e _ _ _,e _ _ _,fun g hg=>(by cases hg),fun g hg=>(by cases hg),fun g hg=>(by cases hg)⟩
structure FrS (w X:World) (sp B D Gp:Nat) (V Vi:PV) (K:Pgs) (pk m:Nat) (A:Nat→PgV) (fl:List Nat) (pages j:Nat):Prop where
 ts:TS X B D Gp Vi K pk m A fl pages
 shp:Sp X sp Vi (j+1) (.slice none 0 0) (.slice none 0 0) (.slice none 0 0) [] [] [] true
 hf:HF sp B w X V Vi (.slice none 0 0) (.slice none 0 0)
theorem FrS.stored (h:FrS w X sp B D Gp V Vi K pk m A fl pages j)(hB:B≤sp)(o:Obj):FrS w ((X.setCell ⟨sp,4,none⟩ (.bool true)).alloc o) sp B D Gp V Vi K pk m A fl pages j:=by
 have t1:=h.ts.other (set_grown X sp 4 (.bool true)) ⟨_,h.shp.blk⟩ (by decide);have hb:Below (X.setCell ⟨sp,4,none⟩ (.bool true)).heap.size (X.setCell ⟨sp,4,none⟩ (.bool true)) ((X.setCell ⟨sp,4,none⟩ (.bool true)).alloc o):=((Below.refl _ _).alloc (Nat.le_refl _) _);obtain⟨t2,s2⟩:=t1.below hb;exact⟨t2,t1.staySp s2 (h.shp.set4 true),(h.hf.trans (h.shp.hset hB 4 (.bool true))).trans (t1.hf s2 sp _)⟩
theorem cfreeS (h:TS w B D Gp V K pk m A fl pages)(hm:m≤50000)(hl:fl.length<pages):Calls Tryz.prog 22 #[(.pointer (some ⟨Gp,0,none⟩))] w fun e w'=>e=.returned (.int .i64 (fl.length:Int))∧∃V',TS w' B D Gp V' K pk m A fl pages∧St2 w w' B V V':=by
 have hb:Below w.heap.size w (w.alloc (.cells #[.int .i64 ((0:Nat):Int),(.slice none 0 0),(.slice none 0 0),(.slice none 0 0),.bool true] 64)):=((Below.refl _ _).alloc (Nat.le_refl _) _);obtain⟨h1,s1⟩:=h.below hb;have sp0:=Sp.new w V;have HO:=hide (copenS h1 hm sp0 h.lo 0 (by omega) (by omega));have hz:=h.zero;rw[hz] at HO;have HS1:=hide s1;have HLO:=hide h.lo;have HF1:=hide (show(∀j (k:j<fl.length),A fl[j]=⟨3,(fl.drop (j+1)).headD 0,[]⟩∧0<fl[j]∧fl[j]<pages)∧fl.length<pages∧pages≤59000 from⟨fun j hj=>⟨flc_at h.fls j hj,h.flin _ (List.getElem_mem hj)⟩,hl,h.flsmall.2⟩);obtain⟨n0,hn0⟩:∃n0,fl.headD 0=n0:=⟨_,rfl⟩;rw[hn0] at HO;have HN0:=hide hn0;clear h h1 s1 sp0 hz hn0 hb;have hfd:∀(x y z:Value) (W:World),Sem.run Tryz.prog (Instr.field 82 (.agg #[x,y,z]) 1) W=.ok y W:=fun _ _ _ _=>by rfl
 go_enter Tryz.func22,Tryz.ntmps22;go_wp2_with fail
 refine HO.out.mono ?_;rintro e w1⟨V1,v1,rfl,k1,k2,k3,k4⟩;obtain⟨va1,ca1,rfl,-⟩:=sta_own (L:=[]) k4;have HR:Hid (FrS (w.alloc (.cells #[.int .i64 ((0:Nat):Int),(.slice none 0 0),(.slice none 0 0),(.slice none 0 0),.bool true] 64)) w1 w.heap.size B D Gp V V1 K pk m A fl pages 0):=⟨k1,k2,k3⟩;clear k1 k2 k3 k4 HO;go_wp2_with fail
 go_loopw [4] (fun x4 X=>∃(j:Nat) (Vi:PV),x4=.int .i64 ((fl.drop j).headD 0:Int)∧j≤fl.length∧Hid (FrS (w.alloc (.cells #[.int .i64 ((0:Nat):Int),(.slice none 0 0),(.slice none 0 0),(.slice none 0 0),.bool true] 64)) X w.heap.size B D Gp V Vi K pk m A fl pages j)) (fun _ X=>fl.length+1-pgOf w.heap.size X)
 case atStart=>exact⟨0,V1,by rw[←HN0.out];rfl,Nat.zero_le _,HR⟩
 case round =>
  obtain⟨j,Vi,rfl,hj,HJ⟩:=hrel;obtain⟨c0,c1,c2,c3,c4,c5,c6⟩:=HJ.out.shp.cells;have f4:=c5 4;obtain⟨nx,hnx⟩:∃nx,(fl.drop j).headD 0=nx:=⟨_,rfl⟩;rw[hnx];by_cases hjc:j<fl.length
  ·obtain⟨a1,a2,a3⟩:=HF1.out.1 j hjc;have hnx':fl[j]=nx:=by rw[←hnx,headD_drop hjc]
   rw[hnx'] at a1 a2 a3;have hnz:¬(nx:Int)=0:=by omega
   have HO:=hide (copenS HJ.out.ts hm HJ.out.shp HLO.out nx a3 (by have:=HF1.out.2;omega));rw[a1] at HO;obtain⟨nn,hnn⟩:∃nn,(fl.drop (j+1)).headD 0=nn:=⟨_,rfl⟩;rw[hnn] at HO;have HX:=hide (show nn=(fl.drop (j+1)).headD 0∧j<fl.length from⟨hnn.symm,hjc⟩);clear c0 c1 c2 c3 c5 a1 a2 a3 hnx hnx' hnn hj hjc;go_wp2_with fail
   refine HO.out.mono ?_;rintro e w3⟨V3,v3,rfl,k1,k2,k3,k4⟩;obtain⟨g0,g1,g2,g3,g4,g5,g6⟩:=k2.cells;have f4:=g5 4;have HR3:Hid (FrS (w.alloc (.cells #[.int .i64 ((0:Nat):Int),(.slice none 0 0),(.slice none 0 0),(.slice none 0 0),.bool true] 64)) w3 w.heap.size B D Gp V V3 K pk m A fl pages (j+1)):=⟨k1,k2,HJ.out.hf.trans k3⟩;obtain⟨va3,ca3,rfl,-⟩:=sta_own (L:=[]) k4;clear k1 k2 k3 k4 g5 g0 g1 g2 g3 c4 c6 HO;have HR4:=hide (HR3.out.stored HLO.out (.cells #[.int .i64 3,.int .i64 (nn:Int),.slice va3 0 ca3] 82));go_wp2;exact⟨⟨j+1,V3,by rw[HX.out.1],HX.out.2,HR4⟩,by rw[HR4.out.shp.pgOf,HJ.out.shp.pgOf];have:=HX.out.2;omega⟩
  ·have hje:j=fl.length:=by omega
   have hd0:fl.drop j=[]:=by rw[hje];exact List.drop_length
   have hn0:nx=0:=by rw[←hnx,hd0];rfl
   rw[hn0];have HE:=hide (show TS wr B D Gp Vi K pk m A fl pages∧St2 w wr B V Vi from⟨HJ.out.ts,HJ.out.hf.st w V HS1.out (Nat.le_refl _) HLO.out⟩);rw[hje] at c0
   replace c0:wr.cell? ⟨w.heap.size,0,none⟩=some (.int .i64 ((fl.length:Int)+1)):=c0
   have hw1:wrap64 (fl.length:Int)=(fl.length:Int):=by have:=HF1.out.2;unfold wrap64;omega
   clear hnx hd0 hn0 hje hjc hj c1 c2 c3 c5 f4 HJ;go_wp2;go_ret;exact⟨by simp[*],Vi,HE.out.1,HE.out.2⟩
end
section
variable {pk:Nat}
theorem cmore1 (hp:Sp w sp V k va vb vc lv ln ks true)(r:ByteArray)(kz:Nat)(h0:0<r.size)(hb:bytS r 0=0)(hz:2+kz+r.size-1≤240):Calls Tryz.prog 56 #[(.pointer (some ⟨sp,0,none⟩)),(.pointer (some ⟨Gp,0,none⟩)),.int .i64 (kz:Int),.string r] w fun e w'=>e=.returned (.tuple #[])∧w'=w.setCell ⟨sp,4,none⟩ (.bool true):=by
 obtain⟨c0,c1,c2,c3,c4,c5,c6⟩:=hp.cells;have f4:=c5 4;have g0:=bytS_get (show 0<r.size by omega);rw[hb] at g0;have hne:(r.toList.isEmpty)=false:=by
  cases he:r.toList.isEmpty with
  | false=>rfl
  | true =>
   rw[List.isEmpty_iff,ByteArray.toList_eq] at he;have h1:=congrArg List.length he;rw[Array.length_toList] at h1;have h0:r.size=r.data.size:=rfl;rw[←h0,List.length_nil] at h1;omega
 obtain⟨rz,hrz⟩:∃rz,r.size=rz:=⟨_,rfl⟩;have hle:2+(kz:Int)+(rz:Int)-1≤240:=by omega
 have HLE:=hide (decide_eq_true hle);clear hp c0 c1 c2 c3 c5 hb hle;go_enter Tryz.func56,Tryz.ntmps56;go_wp2;rw[HLE.out];exact bodyPost_ret (results_none rfl _ _ _) rfl ⟨rfl,rfl⟩
theorem or_sh (a b n M:Nat)(hM:M=2 ^ n)(hb:b<M)(hb2:b<4611686018427387904)(ha:a*M<4611686018427387904):bits .or .i64 ((a*M:Nat):Int) (b:Int)=((a*M+b:Nat):Int):=by
 rw[bits_or_i64 _ _ ha hb2]
 congr 1
 subst hM;rw[Nat.mul_comm,Nat.two_pow_add_eq_or_of_lt hb]
theorem or4 (a b c d:Nat)(ha:a<256)(hb:b<256)(hc:c<256)(hd:d<256):bits .or .i64 (bits .or .i64 (bits .or .i64 ((a:Int)*16777216) ((b:Int)*65536)) ((c:Int)*256)) (d:Int)=((((a*256+b)*256+c)*256+d:Nat):Int):=by
 have e1:((a:Int)*16777216)=((a*16777216:Nat):Int):=by omega
 have e2:((b:Int)*65536)=((b*65536:Nat):Int):=by omega
 have e3:((c:Int)*256)=((c*256:Nat):Int):=by omega
 rw[e1,e2,e3,or_sh _ _ 24 16777216 (by decide) (by omega) (by omega) (by omega)];have e4:a*16777216+b*65536=(a*256+b)*65536:=by omega
 rw[e4,or_sh _ _ 16 65536 (by decide) (by omega) (by omega) (by omega)];have e5:∀x:Nat,x*65536+c*256=(x*256+c)*256:=fun x=>by rw[Nat.add_mul,Nat.mul_assoc]
 rw[e5 (a*256+b),or_sh _ _ 8 256 (by decide) (by omega) (by omega) (by omega)]
structure MoS (w X:World) (sp B D Gp:Nat) (V Vi:PV) (K:Pgs) (pk m:Nat) (A:Nat→PgV) (fl:List Nat) (pages k j:Nat) (va vb vc:Value) (lv ln:List Nat) (ks:List ByteArray):Prop where
 ts:TS X B D Gp Vi K pk m A fl pages
 shp:Sp X sp Vi (k+j) va vb vc lv ln ks true
 hf:HF sp B w X V Vi vc vc
theorem MoS.set (h:MoS w X sp B D Gp V Vi K pk m A fl pages k j va vb vc lv ln ks)(hB:B≤sp):MoS w (X.setCell ⟨sp,4,none⟩ (.bool true)) sp B D Gp V Vi K pk m A fl pages k j va vb vc lv ln ks:=
 ⟨h.ts.other (set_grown X sp 4 (.bool true)) ⟨_,h.shp.blk⟩ (by decide),h.shp.set4 true,h.hf.trans (h.shp.hset hB 4 (.bool true))⟩
theorem MoS.stored (h:MoS w X sp B D Gp V Vi K pk m A fl pages k j va vb vc lv ln ks)(hB:B≤sp)(o:Obj):MoS w ((X.setCell ⟨sp,4,none⟩ (.bool true)).alloc o) sp B D Gp V Vi K pk m A fl pages k j va vb vc lv ln ks:=by
 have t1:=h.ts.other (set_grown X sp 4 (.bool true)) ⟨_,h.shp.blk⟩ (by decide);have hb:Below (X.setCell ⟨sp,4,none⟩ (.bool true)).heap.size (X.setCell ⟨sp,4,none⟩ (.bool true)) ((X.setCell ⟨sp,4,none⟩ (.bool true)).alloc o):=((Below.refl _ _).alloc (Nat.le_refl _) _);obtain⟨t2,s2⟩:=t1.below hb;exact⟨t2,t1.staySp s2 (h.shp.set4 true),(h.hf.trans (h.shp.hset hB 4 (.bool true))).trans (t1.hf s2 sp _)⟩
theorem MoS.below {X':World}(h:MoS w X sp B D Gp V Vi K pk m A fl pages k j va vb vc lv ln ks)(hb:Below X.heap.size X X'):MoS w X' sp B D Gp V Vi K pk m A fl pages k j va vb vc lv ln ks:=by
 obtain⟨t2,s2⟩:=h.ts.below hb;exact⟨t2,h.ts.staySp s2 h.shp,h.hf.trans (h.ts.hf s2 sp _)⟩
theorem long_rest {i:It}(h:okI i)(hp:¬i.pgs=[])(hs:∀p∈i.pgs,p<60000):(restB (cellI i)).size=7∧bytS (restB (cellI i)) 0=1∧bytS (restB (cellI i)) 1*256+bytS (restB (cellI i)) 2=i.val.size∧((bytS (restB (cellI i)) 3*256+bytS (restB (cellI i)) 4)*256+bytS (restB (cellI i)) 5)*256+bytS (restB (cellI i)) 6=i.pgs.headD 0∧i.pgs.length=cutsN i.val∧0<i.val.size:=by
 obtain⟨-,f4,f5,f6,f7,f8,f9⟩:=long_cell h hp hs;refine⟨f4,f5,f6,?_,f8,f9⟩;rw[(cellI_key h).2.2.2] at f4 ⊢;cases hq:i.pgs with
 | nil=>exact absurd hq hp
 | cons p r =>
  have hr:restI i=⟨#[1,(i.val.size/256).toUInt8,i.val.size.toUInt8]⟩++fourB p:=by unfold restI;rw[hq]
  have hn:=num_end ⟨#[1,(i.val.size/256).toUInt8,i.val.size.toUInt8]⟩ (n:=p) (by have:=hs p (by rw[hq];simp);omega);rw[←hr,f4] at hn;show _=p;rw[←hn];show _=((((0*256+bytS (restI i) (7-4+0))*256+bytS (restI i) (7-4+1))*256+bytS (restI i) (7-4+2))*256+bytS (restI i) (7-4+3));rw[Nat.zero_mul,Nat.zero_add]
theorem cmore2 (h:TS w B D Gp V K pk m A fl pages)(hm:m≤50000)(hp:Sp w sp V k va vb vc lv ln ks true)(hB:B≤sp)(i:It)(hi:okI i)(hne:¬i.pgs=[])(hs:∀p∈i.pgs,0<p∧p<pages)(hA:∀q∈nodI i,A q.1=q.2)(hk:k+i.pgs.length≤pages):Calls Tryz.prog 56 #[(.pointer (some ⟨sp,0,none⟩)),(.pointer (some ⟨Gp,0,none⟩)),.int .i64 (i.key.size:Int),.string (restB (cellI i))] w fun e w'=>e=.returned (.tuple #[])∧∃V',MoS w w' sp B D Gp V V' K pk m A fl pages k i.pgs.length va vb vc lv ln ks:=by
 have hpg:=h.flsmall.2;obtain⟨r7,r0,rv,rp,rc,rz⟩:=long_rest hi hne (fun p hp=>by have:=hs p hp;omega);have HA:=hide (fun(j:Nat) (hj:j<i.pgs.length)=>nodI_at hA rc hj);have HS:=hide (show(∀j (hj:j<i.pgs.length),0<i.pgs[j]∧i.pgs[j]<pages)∧k+i.pgs.length≤pages∧pages≤59000∧B≤sp∧i.pgs.length=cutsN i.val∧240<2+i.key.size+i.val.size∧i.key.size≤200 from⟨fun j hj=>hs _ (List.getElem_mem hj),hk,hpg,hB,rc,by
  have:=hi.pgs;by_cases q:2+i.key.size+i.val.size≤240
  ·rw[if_pos q] at this;exact absurd (List.eq_nil_of_length_eq_zero this) hne
  ·omega,hi.key.2⟩)
 have HV:=hide hi.val;have H0:Hid (MoS w w sp B D Gp V V K pk m A fl pages k 0 va vb vc lv ln ks):=⟨h,hp,HF.refl _ _ _ _ _⟩;obtain⟨r,hr⟩:∃r,restB (cellI i)=r:=⟨_,rfl⟩;rw[hr] at r7 r0 rv rp ⊢;have b1:=bytS_lt r 1;have b2:=bytS_lt r 2;have g0:=bytS_get (show 0<r.size by omega);have g1:=bytS_get (show 1<r.size by omega);have g2:=bytS_get (show 2<r.size by omega);have g3:=bytS_get (show 3<r.size by omega);have g4:=bytS_get (show 4<r.size by omega);have g5:=bytS_get (show 5<r.size by omega);have g6:=bytS_get (show 6<r.size by omega);have b3:=bytS_lt r 3;have b4:=bytS_lt r 4;have b5:=bytS_lt r 5;have b6:=bytS_lt r 6;have ho:=or4 (bytS r 3) (bytS r 4) (bytS r 5) (bytS r 6) (bytS_lt r 3) (bytS_lt r 4) (bytS_lt r 5) (bytS_lt r 6);rw[rp] at ho;have hj:=join_i64 (bytS r 1) (bytS r 2) b2 (by omega);rw[rv] at hj;rw[r0] at g0;have hn7:¬r.size=0:=by omega
 have hem:(r.toList.isEmpty)=false:=by
  cases he:r.toList.isEmpty with
  | false=>rfl
  | true =>
   rw[List.isEmpty_iff,ByteArray.toList_eq] at he;have h1:=congrArg List.length he;rw[Array.length_toList] at h1;have h0:r.size=r.data.size:=rfl;rw[←h0,List.length_nil] at h1;omega
 obtain⟨p0,hp0⟩:∃p0,i.pgs.headD 0=p0:=⟨_,rfl⟩;rw[hp0] at ho;have HP0:=hide hp0;generalize bytS r 1=y1 at *;generalize bytS r 2=y2 at *;generalize bytS r 3=y3 at *;generalize bytS r 4=y4 at *;generalize bytS r 5=y5 at *;generalize bytS r 6=y6 at *;obtain⟨z,hz⟩:∃z,i.val.size=z:=⟨_,rfl⟩;obtain⟨kz,hkz⟩:∃kz,i.key.size=kz:=⟨_,rfl⟩;rw[hz] at hj;rw[hkz];have HZ:=hide (And.intro hz hkz);clear h hp hB hi hne hs hA hk hpg r0 rv rp rc rz hr hp0 hz hkz hn7;go_enter Tryz.func56,Tryz.ntmps56;go_wp2_with fail
 go_quiet (fail)
 go_wp2_with fail
 try rw[ho]
 replace H0:Hid (MoS w (w.drewN nq) sp B D Gp V V K pk m A fl pages k 0 va vb vc lv ln ks):=H0.out.below (drawnB w nq)
 have hp0:p0=p0:=rfl;clear b3 b4 b5 b6 g3 g4 g5 g6 ho
 go_loopw [8,9] (fun x8 x9 X=>∃(j:Nat) (Vi:PV),x8=.int .i64 ((min (1008*j) z:Nat):Int)∧x9=.int .i64 ((i.pgs.drop j).headD 0:Int)∧j≤i.pgs.length∧Hid (MoS w X sp B D Gp V Vi K pk m A fl pages k j va vb vc lv ln ks)) (fun _ _ X=>k+i.pgs.length-pgOf sp X)
 case atStart=>exact⟨0,V,by simp,by rw[←HP0.out];rfl,Nat.zero_le _,H0⟩
 case round =>
  obtain⟨j,Vi,rfl,rfl,hjl,HJ⟩:=hrel;obtain⟨c0,c1,c2,c3,c4,c5,c6⟩:=HJ.out.shp.cells;have f4:=c5 4;obtain⟨nx,hnx⟩:∃nx,(i.pgs.drop j).headD 0=nx:=⟨_,rfl⟩;rw[hnx];by_cases hjc:j<i.pgs.length
  ·obtain⟨a2,a3⟩:=HS.out.1 j hjc;have a1:=HA.out j hjc;have hnx':i.pgs[j]=nx:=by rw[←hnx,headD_drop hjc]
   rw[hnx'] at a1 a2 a3;have hnz:¬(nx:Int)=0:=by omega
   have HO:=hide (copenS HJ.out.ts hm HJ.out.shp HS.out.2.2.2.1 nx a3 (by have:=HS.out.2;omega));rw[a1] at HO;obtain⟨nn,hnn⟩:∃nn,(i.pgs.drop (j+1)).headD 0=nn:=⟨_,rfl⟩;obtain⟨pc,hpc⟩:∃pc,i.val.extract (1008*j) (min (1008*j+1008) i.val.size)=pc:=⟨_,rfl⟩;have hpz:min (1008*j) z+pc.size=min (1008*(j+1)) z:=by rw[←hpc,ByteArray.size_extract,HZ.out.1];omega
   have hcut:i.pgs.length=(z+1007)/1008:=by rw[HS.out.2.2.2.2.1];unfold cutsN;rw[HZ.out.1]
   rw[hnn,hpc] at HO;have HX:=hide (show nn=(i.pgs.drop (j+1)).headD 0∧j<i.pgs.length∧min (1008*j) z+pc.size=min (1008*(j+1)) z from⟨hnn.symm,hjc,hpz⟩);obtain⟨lb,hlb⟩:∃lb,min (1008*j) z=lb:=⟨_,rfl⟩;rw[hlb] at HX ⊢;have hlbz:lb≤100000∧pc.size≤1008:=by
    have:=HV.out;rw[HZ.out.1] at this;have e1:pc.size≤1008:=by rw[←hpc,ByteArray.size_extract];omega
    omega
   obtain⟨hlb1,hlb2⟩:=hlbz;clear c0 c1 c2 c3 c5 a1 a2 a3 hnx hnx' hnn hjl hjc hpz hpc hlb hcut;go_wp2_with fail
   refine HO.out.mono ?_;rintro e w3⟨V3,v3,rfl,k1,k2,k3,k4⟩;obtain⟨g0',g1',g2',g3',g4,g5,g6⟩:=k2.cells;have f4:=g5 4;have HR3:Hid (MoS w w3 sp B D Gp V V3 K pk m A fl pages k (j+1) va vb vc lv ln ks):=⟨k1,k2,HJ.out.hf.trans k3⟩;obtain⟨g,cap,cur,rfl,hbg,hg,hc1,hc2,hc3,-,hc5⟩:=own_cur (l:=[pc]) (n:=1) k4 (by decide);have hcell:w3.cell? ⟨g,0,none⟩=some (.string pc):=by
    have:=hc5 0 (by decide);simp only[World.cell?,hg];simpa using this
   have hglt:g<w3.heap.size:=(Array.getElem?_eq_some_iff.1 hg).1;have HR4:=hide (HR3.out.stored HS.out.2.2.2.1 (.cells #[.int .i64 5,.int .i64 (nn:Int),.slice (some ⟨g,0,none⟩) 1 cap] 82));have hgs:¬g=sp:=by have:=HJ.out.shp.cells.2.2.2.2.2.2;omega
   clear k1 k2 k3 k4 g5 g0' g1' g2' g3' c4 c6 HO hg hc5 hc1 hc2 hc3 hbg;go_wp2_with fail
   have hcell4:((w3.setCell ⟨sp,4,none⟩ (.bool true)).alloc (.cells #[.int .i64 5,.int .i64 (nn:Int),.slice (some ⟨g,0,none⟩) 1 cap] 82)).cell? ⟨g,0,none⟩=some (.string pc):=by
    have e1:((w3.setCell ⟨sp,4,none⟩ (.bool true)).alloc (.cells #[.int .i64 5,.int .i64 (nn:Int),.slice (some ⟨g,0,none⟩) 1 cap] 82)).heap[g]?=w3.heap[g]?:=(heap_alloc_old _ _ (by simp;exact hglt)).trans (Below.heap_setCell _ _ _ _ (by show ¬g=sp;exact hgs));exact(World.cell?_of_block (a:=⟨g,0,none⟩) e1).trans hcell
   clear hcell g4 g6 f4 hgs hglt;generalize (w3.setCell ⟨sp,4,none⟩ (.bool true)).alloc (.cells #[.int .i64 5,.int .i64 (nn:Int),.slice (some ⟨g,0,none⟩) 1 cap] 82)=W4 at *
   go_loopw [8,103] (fun x8 x103 X=>∃t:Nat,t≤1∧x103=.int .i64 (t:Int)∧x8=.int .i64 ((lb+t*pc.size:Nat):Int)∧X=W4) (fun _ x103 _=>1-(intOf x103).toNat)
   case atStart=>exact⟨0,by omega,rfl,by simp,rfl⟩
   case round =>
    obtain⟨t,ht,rfl,rfl,rfl⟩:=hrel
    match t,ht with
    | 0, _ =>
     rw[Nat.zero_mul,Nat.add_zero];go_wp2_with fail
     go_roundw
     case rel=>exact⟨1,by omega,by go_num,by simp,trivial⟩
     case measure=>simp[intOf]
    | 1, _ =>
     rw[Nat.one_mul];go_wp2;exact⟨⟨j+1,V3,by rw[HX.out.2.2],by rw[HX.out.1],HX.out.2.1,HR4⟩,by rw[HR4.out.shp.pgOf,HJ.out.shp.pgOf];have:=HX.out.2.1;omega⟩
  ·have hje:j=i.pgs.length:=by omega
   have hd0:i.pgs.drop j=[]:=by rw[hje];exact List.drop_length
   have hn0:nx=0:=by rw[←hnx,hd0];rfl
   rw[hn0];have hcut:i.pgs.length=(z+1007)/1008:=by rw[HS.out.2.2.2.2.1];unfold cutsN;rw[HZ.out.1]
   have hmz:min (1008*j) z=z:=by omega
   rw[hmz];rw[hje] at HJ;have hgt:¬2+(kz:Int)+(z:Int)≤240:=by have:=HS.out.2.2.2.2.2.1;rw[HZ.out.1,HZ.out.2] at this;omega
   have hkb:(kz:Int)≤200:=by have:=HS.out.2.2.2.2.2.2;rw[HZ.out.2] at this;omega
   have hzb:(z:Int)≤3000:=by have:=HV.out;rw[HZ.out.1] at this;omega
   clear hnx hd0 hn0 hje hjc hjl c0 c1 c2 c3 c5 hmz hcut;go_wp2_with fail
   have HE:=hide ((HJ.out.set HS.out.2.2.2.1).below (X':=(wr.setCell ⟨sp,4,none⟩ (.bool true)).drew) ((Below.refl _ _).drew))
   go_region
   go_end0;exact⟨rfl,Vi,HE.out⟩
end
section
variable {pk:Nat}{v':Value}
theorem Sp.same (h:Sp X sp V k va vb vc lv ln ks ok):X.setCell ⟨sp,4,none⟩ (.bool ok)=X:=by
 have e:(X.setCell ⟨sp,4,none⟩ (.bool ok)).heap=X.heap:=by
  apply Array.ext_getElem?;intro c;by_cases hc:c=sp
  ·subst hc;rw[set_blk h.blk,h.blk];rfl
  ·exact Below.heap_setCell _ _ _ _ (by show ¬c=sp;exact hc)
 have e2:X.setCell ⟨sp,4,none⟩ (.bool ok)={ X with heap:=(X.setCell ⟨sp,4,none⟩ (.bool ok)).heap }:=rfl;rw[e2,e]
theorem row_far {v:Value}{base:Nat}{xs:List Value}(h:Sp X sp V k va vb vc lv ln ks ok)(hr:X.ownsRow base t 1 v n xs)(ht:¬t=64):¬v.ownBlock=some sp:=fun e=>by
 obtain⟨cs,hcs⟩:=row_isC hr e;rw[h.blk] at hcs;injection hcs with hcs;injection hcs with _ hcs _;exact ht hcs.symm
theorem Sp.appA (h:TS X B D Gp V K pk m A fl pages)(hp:Sp X sp V k va vb vc lv ln ks ok)(hB:B≤sp)(hg:X.grownBy Y va.ownBlock)(ho:Y.ownsRow sp 3 1 v' (lv.length+1) (intsN lv++[.int .i64 (n:Int)]))(hn:v'.ownBlock=va.ownBlock∨v'.ownBlock=some X.heap.size):TS (Y.setCell ⟨sp,1,none⟩ v') B D Gp V K pk m A fl pages∧Sp (Y.setCell ⟨sp,1,none⟩ v') sp V k v' vb vc (lv++[n]) ln ks ok∧HF sp B X (Y.setCell ⟨sp,1,none⟩ v') V V vc vc:=by
 have hrow:=hp.ra;have hspn:=row_far hp hrow (by decide);have hsY:Y.heap[sp]?=some (.cells #[.int .i64 (k:Int),va,vb,vc,.bool ok] 64 (0,0)):=(hg.block sp hp.cells.2.2.2.2.2.2 (fun e=>hspn e.symm)).trans hp.blk;have hk:Kpt X Y B V.b.vo:=⟨hg.size,fun c hc hl=>hg.block c hc (fun e=>hl (by
  obtain⟨cs,hcs⟩:=row_isC hrow e.symm;exact .inr (.inr ⟨⟨cs,hcs⟩,hp.na c e.symm⟩)))⟩
 have hvs:¬v'.ownBlock=some sp:=fun e=>by
  rcases hn with q|q
  ·exact hspn (q.symm.trans e)
  ·rw[q] at e;injection e with e;have:=hp.cells.2.2.2.2.2.2;omega
 have hz:∀c,¬c=sp→(Y.setCell ⟨sp,1,none⟩ v').heap[c]?=Y.heap[c]?:=fun c hc=>Below.heap_setCell _ _ _ _ (by show ¬c=sp;exact hc)
 have old:∀c,c<X.heap.size→¬va.ownBlock=some c→¬c=sp→(Y.setCell ⟨sp,1,none⟩ v').heap[c]?=X.heap[c]?:=fun c h1 h2 h3=>(hz c h3).trans (hg.block c h1 (fun e=>h2 e.symm))
 have gs:=set_grown Y sp 1 v';refine⟨(h.keptN hk).other gs ⟨_,hsY⟩ (by decide),⟨set_blk hsY,?_,?_,?_,?_,?_,?_⟩,⟨fun w0 V0 a b c=>?_,fun c cs t a b d e=>?_,fun c cs a b=>?_,Nat.le_trans hg.size gs.size⟩⟩
 ·have e1:(lv++[n]).length=lv.length+1:=by simp
  have e2:intsN (lv++[n])=intsN lv++[.int .i64 (n:Int)]:=by simp[intsN]
  rw[e1,e2];exact row_keep ho fun g hgg=>hz g (fun q=>hvs (by rw[hgg,q]))
 ·exact row_keep hp.rb fun g hgg=>old g (World.ownsRow.lt hp.rb g hgg).2 (fun q=>hp.dif g q hgg) (fun q=>row_far hp hp.rb (by decide) (by rw[hgg,q]))
 ·exact row_keep hp.rc fun g hgg=>old g (World.ownsRow.lt hp.rc g hgg).2 (fun q=>by
   obtain⟨c1,h1⟩:=row_isC hp.rc hgg;obtain⟨c2,h2⟩:=row_isC hrow q;rw[h1] at h2;injection h2 with h2;injection h2 with _ h2 _;exact absurd h2 (by decide)) (fun q=>row_far hp hp.rc (by decide) (by rw[hgg,q]))
 ·intro g hgg;rcases hn with q | q
  ·exact hp.na g (q.symm.trans hgg)
  ·rw[q] at hgg;injection hgg with hgg;subst hgg;exact h.newI (Nat.le_refl _)
 ·exact hp.nb
 ·intro g hgg hb;rcases hn with q | q
  ·exact hp.dif g (q.symm.trans hgg) hb
  ·rw[q] at hgg;injection hgg with hgg;have:=(World.ownsRow.lt hp.rb g hb).2;omega
 ·exact a.keep2 (o:=va.ownBlock) (o':=some sp) ⟨gs.os.trans hg.os,gs.tape.trans hg.tape,gs.output.trans hg.output,Nat.le_trans hg.size gs.size,fun c hc h1 h2=>(gs.block c (Nat.lt_of_lt_of_le hc hg.size) h2).trans (hg.block c hc h1)⟩ (fun g e=>Nat.le_trans b (World.ownsRow.lt hrow g e).1) (fun g e=>by injection e with e;omega) c
 ·refine(old c (Array.getElem?_eq_some_iff.1 a).1 (fun q=>?_) (fun q=>?_)).trans a
  ·obtain⟨c2,h2⟩:=row_isC hrow q;rw[a] at h2;injection h2 with h2;injection h2 with _ h2 _;rw[h2] at b;exact absurd b (by decide)
  ·subst q;rw[hp.blk] at a;injection a with a;injection a with _ a _;exact e a.symm
 ·refine⟨(old c (Array.getElem?_eq_some_iff.1 a).1 (fun q=>?_) (fun q=>by
   subst q;rw[hp.blk] at a;injection a with a;injection a with _ a _;exact absurd a (by decide))).trans a,b⟩
  obtain⟨c2,h2⟩:=row_isC hrow q;rw[a] at h2;injection h2 with h2;injection h2 with _ h2 _;exact absurd h2 (by decide)
theorem Sp.appB (h:TS X B D Gp V K pk m A fl pages)(hp:Sp X sp V k va vb vc lv ln ks ok)(hB:B≤sp)(hg:X.grownBy Y vb.ownBlock)(ho:Y.ownsRow sp 3 1 v' (ln.length+1) (intsN ln++[.int .i64 (n:Int)]))(hn:v'.ownBlock=vb.ownBlock∨v'.ownBlock=some X.heap.size):TS (Y.setCell ⟨sp,2,none⟩ v') B D Gp V K pk m A fl pages∧Sp (Y.setCell ⟨sp,2,none⟩ v') sp V k va v' vc lv (ln++[n]) ks ok∧HF sp B X (Y.setCell ⟨sp,2,none⟩ v') V V vc vc:=by
 have hrow:=hp.rb;have hspn:=row_far hp hrow (by decide);have hsY:Y.heap[sp]?=some (.cells #[.int .i64 (k:Int),va,vb,vc,.bool ok] 64 (0,0)):=(hg.block sp hp.cells.2.2.2.2.2.2 (fun e=>hspn e.symm)).trans hp.blk;have hk:Kpt X Y B V.b.vo:=⟨hg.size,fun c hc hl=>hg.block c hc (fun e=>hl (by
  obtain⟨cs,hcs⟩:=row_isC hrow e.symm;exact .inr (.inr ⟨⟨cs,hcs⟩,hp.nb c e.symm⟩)))⟩
 have hvs:¬v'.ownBlock=some sp:=fun e=>by
  rcases hn with q|q
  ·exact hspn (q.symm.trans e)
  ·rw[q] at e;injection e with e;have:=hp.cells.2.2.2.2.2.2;omega
 have hz:∀c,¬c=sp→(Y.setCell ⟨sp,2,none⟩ v').heap[c]?=Y.heap[c]?:=fun c hc=>Below.heap_setCell _ _ _ _ (by show ¬c=sp;exact hc)
 have old:∀c,c<X.heap.size→¬vb.ownBlock=some c→¬c=sp→(Y.setCell ⟨sp,2,none⟩ v').heap[c]?=X.heap[c]?:=fun c h1 h2 h3=>(hz c h3).trans (hg.block c h1 (fun e=>h2 e.symm))
 have gs:=set_grown Y sp 2 v';refine⟨(h.keptN hk).other gs ⟨_,hsY⟩ (by decide),⟨set_blk hsY,?_,?_,?_,?_,?_,?_⟩,⟨fun w0 V0 a b c=>?_,fun c cs t a b d e=>?_,fun c cs a b=>?_,Nat.le_trans hg.size gs.size⟩⟩
 ·exact row_keep hp.ra fun g hgg=>old g (World.ownsRow.lt hp.ra g hgg).2 (fun q=>hp.dif g hgg q) (fun q=>row_far hp hp.ra (by decide) (by rw[hgg,q]))
 ·have e1:(ln++[n]).length=ln.length+1:=by simp
  have e2:intsN (ln++[n])=intsN ln++[.int .i64 (n:Int)]:=by simp[intsN]
  rw[e1,e2];exact row_keep ho fun g hgg=>hz g (fun q=>hvs (by rw[hgg,q]))
 ·exact row_keep hp.rc fun g hgg=>old g (World.ownsRow.lt hp.rc g hgg).2 (fun q=>by
   obtain⟨c1,h1⟩:=row_isC hp.rc hgg;obtain⟨c2,h2⟩:=row_isC hrow q;rw[h1] at h2;injection h2 with h2;injection h2 with _ h2 _;exact absurd h2 (by decide)) (fun q=>row_far hp hp.rc (by decide) (by rw[hgg,q]))
 ·exact hp.na
 ·intro g hgg;rcases hn with q | q
  ·exact hp.nb g (q.symm.trans hgg)
  ·rw[q] at hgg;injection hgg with hgg;subst hgg;exact h.newI (Nat.le_refl _)
 ·intro g ha hgg;rcases hn with q | q
  ·exact hp.dif g ha (q.symm.trans hgg)
  ·rw[q] at hgg;injection hgg with hgg;have:=(World.ownsRow.lt hp.ra g ha).2;omega
 ·exact a.keep2 (o:=vb.ownBlock) (o':=some sp) ⟨gs.os.trans hg.os,gs.tape.trans hg.tape,gs.output.trans hg.output,Nat.le_trans hg.size gs.size,fun c hc h1 h2=>(gs.block c (Nat.lt_of_lt_of_le hc hg.size) h2).trans (hg.block c hc h1)⟩ (fun g e=>Nat.le_trans b (World.ownsRow.lt hrow g e).1) (fun g e=>by injection e with e;omega) c
 ·refine(old c (Array.getElem?_eq_some_iff.1 a).1 (fun q=>?_) (fun q=>?_)).trans a
  ·obtain⟨c2,h2⟩:=row_isC hrow q;rw[a] at h2;injection h2 with h2;injection h2 with _ h2 _;rw[h2] at b;exact absurd b (by decide)
  ·subst q;rw[hp.blk] at a;injection a with a;injection a with _ a _;exact e a.symm
 ·refine⟨(old c (Array.getElem?_eq_some_iff.1 a).1 (fun q=>?_) (fun q=>by
   subst q;rw[hp.blk] at a;injection a with a;injection a with _ a _;exact absurd a (by decide))).trans a,b⟩
  obtain⟨c2,h2⟩:=row_isC hrow q;rw[a] at h2;injection h2 with h2;injection h2 with _ h2 _;exact absurd h2 (by decide)
theorem Sp.appC (h:TS X B D Gp V K pk m A fl pages)(hp:Sp X sp V k va vb vc lv ln ks ok)(hB:B≤sp){n:ByteArray}(hg:X.grownBy Y vc.ownBlock)(ho:Y.ownsRow sp 9 1 v' (ks.length+1) (valsS ks++[.string n]))(hn:v'.ownBlock=vc.ownBlock∨v'.ownBlock=some X.heap.size):TS (Y.setCell ⟨sp,3,none⟩ v') B D Gp V K pk m A fl pages∧Sp (Y.setCell ⟨sp,3,none⟩ v') sp V k va vb v' lv ln (ks++[n]) ok∧HF sp B X (Y.setCell ⟨sp,3,none⟩ v') V V vc v':=by
 have hrow:=hp.rc;have hspn:=row_far hp hrow (by decide);have hsY:Y.heap[sp]?=some (.cells #[.int .i64 (k:Int),va,vb,vc,.bool ok] 64 (0,0)):=(hg.block sp hp.cells.2.2.2.2.2.2 (fun e=>hspn e.symm)).trans hp.blk;have hk:Kpt X Y B V.b.vo:=⟨hg.size,fun c hc hl=>hg.block c hc (fun e=>hl (by
  obtain⟨cs,hcs⟩:=row_isC hrow e.symm;exact .inl ⟨cs,_,hcs,by decide⟩))⟩
 have hvs:¬v'.ownBlock=some sp:=fun e=>by
  rcases hn with q|q
  ·exact hspn (q.symm.trans e)
  ·rw[q] at e;injection e with e;have:=hp.cells.2.2.2.2.2.2;omega
 have hz:∀c,¬c=sp→(Y.setCell ⟨sp,3,none⟩ v').heap[c]?=Y.heap[c]?:=fun c hc=>Below.heap_setCell _ _ _ _ (by show ¬c=sp;exact hc)
 have old:∀c,c<X.heap.size→¬vc.ownBlock=some c→¬c=sp→(Y.setCell ⟨sp,3,none⟩ v').heap[c]?=X.heap[c]?:=fun c h1 h2 h3=>(hz c h3).trans (hg.block c h1 (fun e=>h2 e.symm))
 have gs:=set_grown Y sp 3 v';refine⟨(h.keptN hk).other gs ⟨_,hsY⟩ (by decide),⟨set_blk hsY,?_,?_,?_,?_,?_,?_⟩,⟨fun w0 V0 a b c=>?_,fun c cs t a b d e=>?_,fun c cs a b=>?_,Nat.le_trans hg.size gs.size⟩⟩
 ·exact row_keep hp.ra fun g hgg=>old g (World.ownsRow.lt hp.ra g hgg).2 (fun q=>by
   obtain⟨c1,h1⟩:=row_isC hp.ra hgg;obtain⟨c2,h2⟩:=row_isC hrow q;rw[h1] at h2;injection h2 with h2;injection h2 with _ h2 _;exact absurd h2 (by decide)) (fun q=>row_far hp hp.ra (by decide) (by rw[hgg,q]))
 ·exact row_keep hp.rb fun g hgg=>old g (World.ownsRow.lt hp.rb g hgg).2 (fun q=>by
   obtain⟨c1,h1⟩:=row_isC hp.rb hgg;obtain⟨c2,h2⟩:=row_isC hrow q;rw[h1] at h2;injection h2 with h2;injection h2 with _ h2 _;exact absurd h2 (by decide)) (fun q=>row_far hp hp.rb (by decide) (by rw[hgg,q]))
 ·have e1:(ks++[n]).length=ks.length+1:=by simp
  have e2:valsS (ks++[n])=valsS ks++[.string n]:=by simp[valsS]
  rw[e1,e2];exact row_keep ho fun g hgg=>hz g (fun q=>hvs (by rw[hgg,q]))
 ·exact hp.na
 ·exact hp.nb
 ·exact hp.dif
 ·exact a.keep2 (o:=vc.ownBlock) (o':=some sp) ⟨gs.os.trans hg.os,gs.tape.trans hg.tape,gs.output.trans hg.output,Nat.le_trans hg.size gs.size,fun c hc h1 h2=>(gs.block c (Nat.lt_of_lt_of_le hc hg.size) h2).trans (hg.block c hc h1)⟩ (fun g e=>Nat.le_trans b (World.ownsRow.lt hrow g e).1) (fun g e=>by injection e with e;omega) c
 ·refine(old c (Array.getElem?_eq_some_iff.1 a).1 (fun q=>?_) (fun q=>?_)).trans a
  ·obtain⟨c2,h2⟩:=row_isC hrow q;rw[a] at h2;injection h2 with h2;injection h2 with _ h2 _;exact d h2
  ·subst q;rw[hp.blk] at a;injection a with a;injection a with _ a _;exact e a.symm
 ·refine⟨(old c (Array.getElem?_eq_some_iff.1 a).1 b (fun q=>by
   subst q;rw[hp.blk] at a;injection a with a;injection a with _ a _;exact absurd a (by decide))).trans a,fun e=>?_⟩
  rcases hn with q|q
  ·exact b (q.symm.trans e)
  ·rw[q] at e;injection e with e;have:=(Array.getElem?_eq_some_iff.1 a).1;omega
end
theorem lawS:Keyed Tryz.prog 9:=string_keyed Tryz.underlying9
def litS:Lit→ByteArray
 | .string l=>⟨l.toArray⟩
 | _=>⟨#[]⟩
theorem litS_mk (s:ByteArray):litS (.string s.data.toList)=s:=by cases s;simp[litS]
theorem own_keysS {R:Value→Option (DataW Unit×List MemPlace)}{D:DataW Unit}(h:X.ownsMap Tryz.prog 9 R b n D):∃ks:List ByteArray,ks.Nodup∧X.ownsMap Tryz.prog 9 R b ks.length D∧Maps.size D=ks.length∧(∀x:ByteArray,(Maps.has D (.string x.data.toList)=true↔x∈ks))∧∀x∈ks,x.size≤maxLen:=by
 obtain⟨es0,e0,hp,-⟩:=h.entries lawS;obtain⟨es,clock,hb,F,hs,hD⟩:=h;have hL:es0=(es.toList.map (WideElems.rg Tryz.prog 9 R)).foldr DataW.insert []:=by
  rw[e0] at hD;injection hD
 have hI:∀p∈es0,∃x:ByteArray,p.1=.string x.data.toList∧x.size≤maxLen:=fun p hp=>by
  rw[hL,mem_sorted,List.mem_map] at hp;obtain⟨en,hen,rfl⟩:=hp;obtain⟨y,hy⟩:=F.reads en hen;have hk:=WideElems.rd_key hy;obtain⟨x,-,h2,h3⟩:=WideMaps.string_of_keyOf Tryz.underlying9 hk;refine⟨x,?_,h3⟩;unfold WideElems.rg;rw[hy];exact h2
 have hlen:es0.length=es.size:=by rw[hL];exact length_read es
 subst e0;refine⟨es0.map (fun p=>litS p.1),?_,⟨es,clock,hb,F,by rw[List.length_map,hlen];exact Nat.le_refl _,hD⟩,by rw[List.length_map];rfl,fun x=>?_,fun x hx=>?_⟩
 ·refine List.pairwise_map.2 (List.Pairwise.imp_of_mem ?_ hp);intro p q h1 h2 hne he;obtain⟨x,ex,-⟩:=hI p h1;obtain⟨y,ey,-⟩:=hI q h2;rw[ex,ey] at he hne;rw[litS_mk,litS_mk] at he;exact hne (by rw[he])
 ·rw[has_eq,List.any_eq_true,List.mem_map];constructor
  ·rintro⟨p,h1,h2⟩;refine⟨p,h1,?_⟩;obtain⟨y,ey,-⟩:=hI p h1;rw[ey] at h2 ⊢;rw[litS_mk];by_cases e:y=x
   ·exact e
   ·rw[sameKey_ne (fun h=>e (by injection h with h;have:=congrArg List.toArray h;cases x;cases y;simp at this;rw[this]))] at h2;cases h2
  ·rintro⟨p,h1,h2⟩;refine⟨p,h1,?_⟩;obtain⟨y,ey,-⟩:=hI p h1;rw[ey] at h2 ⊢;rw[litS_mk] at h2;subst h2;simp[Lit.sameKey]
 ·obtain⟨p,h1,rfl⟩:=List.mem_map.1 hx;obtain⟨y,ey,iy⟩:=hI p h1;rw[ey,litS_mk];exact iy
def MT (X:World)(b n:Nat)(ks:List ByteArray):Prop:=∃D:DataW Unit,X.ownsMap Tryz.prog 9 (plainElem Tryz.prog 3) b n D∧∀s:ByteArray,(Maps.has D (.string s.data.toList)=true↔s∈ks)∧(s∈ks→∀z,D.atKey (.string s.data.toList) z=.lit (.int .i64 1))
theorem MT.lt (h:MT X b n ks):b<X.heap.size:=by obtain⟨D,h,-⟩:=h;exact h.lt
theorem MT.mono (h:MT X b n ks)(hn:n≤m):MT X b m ks:=by obtain⟨D,h,k⟩:=h;exact⟨D,h.mono hn,k⟩
theorem MT.keep (h:MT X b n ks)(e:Y.heap[b]?=X.heap[b]?):MT Y b n ks:=by
 obtain⟨D,⟨es,clock,hb,r⟩,k⟩:=h;exact⟨D,⟨es,clock,e.trans hb,r⟩,k⟩
theorem MT.isMap (h:MT X b n ks):∃es clock,X.heap[b]?=some (.map es clock):=by
 obtain⟨D,⟨es,clock,hb,r⟩,k⟩:=h;exact⟨es,clock,hb⟩
theorem MT.made (X:World):MT (X.alloc (.map #[] 0)) X.heap.size 0 []:=
 ⟨.map [],World.ownsMap_made X _ _ _,fun _=>⟨by simp[has_eq],fun h=>by cases h⟩⟩
theorem MT.look (h:MT X b n ks)(s:ByteArray)(hs:s.size≤maxLen)(hin:s∈ks):(Instr.lookup 54 (.map (some b)) (.string s) false).run Tryz.prog X=.ok (.int .i64 1) X:=by
 obtain⟨D,h,k⟩:=h;obtain⟨k1,k2⟩:=k s;obtain⟨c,hrun,hc,-⟩:=h.lookup_int lawS Tryz.underlying54 Tryz.underlying3 (zeroI X) (WideMaps.keyOf_string_mk Tryz.underlying9 hs);rw[k2 hin] at hc;have e:c=1:=by simp at hc;exact hc.symm
 rw[hrun,e]
theorem lit_ne {y:ByteArray}(h:¬y=x):Lit.string y.data.toList≠Lit.string x.data.toList:=fun e=>h (by injection e with e;have:=congrArg List.toArray e;cases x;cases y;simp at this;rw[this])
theorem MT.put (h:MT X b n ks)(hn:n≤1000000)(hx:x.size≤maxLen)(hk:∀y,y∈ks'↔y=x∨y∈ks):∃Y,(Instr.mapUpdate 54 (.map (some b)) (.string x) (.int .i64 1)).run Tryz.prog X=.ok () Y∧MT Y b (n+1) ks'∧X.grownBy Y (some b):=by
 obtain⟨D,h,k⟩:=h;obtain⟨Y,hrun,hY,hg⟩:=h.update lawS Tryz.underlying54 (by unfold maxLen;omega) (WideMaps.keyOf_string_mk Tryz.underlying9 hx) (plainElem_int (H:=Unit) Tryz.underlying3 (i64_in (x:=1) (by decide) (by decide)));refine⟨Y,hrun,⟨_,hY,fun y=>?_⟩,hg⟩;rw[hk];by_cases e:y=x
 ·subst e;refine⟨⟨fun _=>.inl rfl,fun _=>has_put_same h.isMap (by simp[WideAt.IsKeyLit]) _⟩,fun _ z=>atKey_put_same h.isMap (by simp[WideAt.IsKeyLit]) _ z⟩
 ·rw[has_put_other (lit_ne e)];refine⟨⟨fun q=>.inr ((k y).1.1 q),fun q=>(k y).1.2 (q.resolve_left e)⟩,fun q z=>?_⟩;rw[atKey_put_other (lit_ne e)];exact(k y).2 (q.resolve_left e) z
theorem MT.drop (h:MT X b n ks)(hx:x.size≤maxLen)(hk:∀y,y∈ks'↔¬y=x∧y∈ks)(ty:TypeId):∃Y,(Builtin.delete_ #[54,9] ty #[.map (some b),.string x]).run Tryz.prog X=.ok (.tuple #[]) Y∧MT Y b n ks'∧X.grownBy Y (some b):=by
 obtain⟨D,h,k⟩:=h;obtain⟨Y,hrun,hY,hg⟩:=h.drop lawS Tryz.underlying54 (WideMaps.keyOf_string_mk Tryz.underlying9 hx) ty;refine⟨Y,hrun,⟨_,hY,fun y=>?_⟩,hg.grown⟩;rw[hk];by_cases e:y=x
 ·subst e;refine⟨⟨fun q=>(by rw[has_del_same] at q;cases q),fun q=>absurd rfl q.1⟩,fun q=>absurd rfl q.1⟩
 ·rw[has_del_other (lit_ne e)];refine⟨⟨fun q=>⟨e,(k y).1.1 q⟩,fun q=>(k y).1.2 q.2⟩,fun q z=>?_⟩;rw[atKey_del_other (lit_ne e)];exact(k y).2 q.2 z
theorem nodup_lenS:∀{ks l:List ByteArray},ks.Nodup→(∀x∈ks,x∈l)→ks.length≤l.length
 | [],_,_,_=>Nat.zero_le _
 | x :: r, l, hd, hm => by
  obtain⟨a,b,rfl⟩:=List.append_of_mem (hm x (by simp));have h1:=nodup_lenS (ks:=r) (l:=a++b) (List.nodup_cons.1 hd).2 (fun y hy=>by
   have hne:¬y=x:=fun e=>(List.nodup_cons.1 hd).1 (by rw[←e];exact hy)
   have:=hm y (List.mem_cons_of_mem _ hy);rw[List.mem_append,List.mem_cons] at this;rw[List.mem_append];exact this.imp id (fun h=>h.resolve_left hne))
  rw[List.length_append] at h1;rw[List.length_cons,List.length_append,List.length_cons];omega
theorem MT.len (h:MT X b n ks)(hd:ks.Nodup)(ty:TypeId):(Builtin.len_ #[54] ty #[.map (some b)]).run Tryz.prog X=.ok (.int .i64 (ks.length:Int)) X:=by
 obtain⟨D,h,k⟩:=h;obtain⟨l,hl,-,hsz,hm,-⟩:=own_keysS h;have hk:∀x,x∈l↔x∈ks:=fun x=>(hm x).symm.trans (k x).1
 have e:Maps.size D=ks.length:=by
  rw[hsz];exact Nat.le_antisymm (nodup_lenS hl fun x hx=>(hk x).1 hx) (nodup_lenS hd fun x hx=>(hk x).2 hx)
 rw[h.len Tryz.underlying54 ty,e]
end Go.Proofs.YtiaibgfhigdgdaaGreat
