/- a part -/
import Derived.Test.YtiaibgfhigdgdaaGreatM20
set_option maxRecDepth 100000
set_option maxHeartbeats 8000000
namespace Go.Proofs.YtiaibgfhigdgdaaGreat
open Tryz
open Go.RowKit Go.Lib Go.Maps Go.Sort
variable {d B D Gp pk pages tb root m p rt c b0 b1 b2 sb:Nat}{K:Pgs}{w X w' w1 w2:World}{V V':PV}{A:Nat->PgV}{fl os ps Z:List Nat}{hi ed key fr:ByteArray}{es:List Ent}{R:List Ent->Prop}{t:TypeId}{cs:Array Value}{α:Type}{ks:List ByteArray}{most:Int}{back:Bool}{fv:Value}{v:NV}
attribute [local go_sem ↓] Go.wp_at_zero Go.wp_at_succ
def numsS (s:List (ByteArray×T d)):List Nat:=(nodS s).map (·.1)
theorem numsS_app (a b:List (ByteArray×T d)):numsS (a++b)=numsS a++numsS b:=by simp[numsS,nodS]
theorem numsS_cons (p:ByteArray×T d)(b:List (ByteArray×T d)):numsS (p::b)=numsT d p.2++numsS b:=by simp[numsS,nodS,numsT]
theorem numsT_s (x:T (d+1)):numsT (d+1) x=x.num::numsS x.kids:=rfl
theorem cdropS (ih:∀{y:T d} {w:World} {V:PV} {m:Nat} {A:Nat->PgV} {fl:List Nat} {lo hi:ByteArray} {p tk:Nat} {X:List Nat},TS w B D Gp V K pk m A fl pages->m+2*(numsT d y).length<=38000->TB w tb Gp root->NR w p (nvT d y lo hi tk)->Bnd d lo hi y->usedC (cellsT d y)<=1012->FilK d y->(∀q∈nodT d y,A q.1=q.2)->Hold fl pages (numsT d y++X)->Calls prog 59 #[(.pointer (some ⟨tb,0,none⟩)),(.pointer (some ⟨p,0,none⟩))] w λe w'=>e=.returned (.tuple #[])∧drPost w B D Gp V K pk m A pages (numsT d y) X w'){x:T (d+1)}{lo:ByteArray}{tk:Nat}{X:List Nat}(h:TS w B D Gp V K pk m A fl pages)(hm:m+2*(numsT (d+1) x).length<=38000)(ht:TB w tb Gp root)(hn:NR w p (nvT (d+1) x lo hi tk))(hb:Bnd (d+1) lo hi x)(hu:usedC (cellsT (d+1) x)<=1012)(hf:FilK (d+1) x)(hA:∀q∈nodT (d+1) x,A q.1=q.2)(hX:Hold fl pages (numsT (d+1) x++X)):Calls prog 59 #[(.pointer (some ⟨tb,0,none⟩)),(.pointer (some ⟨p,0,none⟩))] w λe w'=>e=.returned (.tuple #[])∧drPost w B D Gp V K pk m A pages (numsT (d+1) x) X w':=by
 have hcl:(cellsT (d+1) x).length<=1000:=used_few hu;have HCN:=hide (cchildren hn hcl);have hkl:(cellsT (d+1) x).length+1=x.kids.length:=by
  obtain⟨⟨q,r,e,_⟩,_⟩:=hb;simp[cellsT,e]
 have hkl':(nvT (d+1) x lo hi tk).cells.length+1=x.kids.length:=hkl;rw[hkl'] at HCN;have hX2:Hold fl pages (numsS x.kids++(x.num::X)):=by
  rw[numsT_s] at hX;exact(List.Perm.cons _ (List.Perm.append_left _ List.perm_middle)).trans hX
 obtain⟨a,c,nb,st⟩:=hn;obtain⟨u0,u1,u2,u3,u4,u5,u6,u7,u8⟩:=nb.cells
 replace u0:w.cell? ⟨p,0,none⟩=some (.int .i64 (2:Nat)):=u0
 have H:=hide (show TS w B D Gp V K pk m A fl pages∧TB w tb Gp root∧NR w p (nvT (d+1) x lo hi tk)∧Bnd (d+1) lo hi x∧(cellsT (d+1) x).length<=1000∧FilK (d+1) x∧(∀q∈nodS x.kids,A q.1=q.2) from⟨h,ht,⟨a,c,nb,st⟩,hb,hcl,hf,λq hq=>hA q (List.mem_cons_of_mem _ hq)⟩);have HN:=hide (show m+2*(numsT (d+1) x).length<=38000∧Hold fl pages (numsS x.kids++(x.num::X)) from⟨hm,hX2⟩);have hkl4:x.kids.length<=1001:=by omega
 obtain⟨ks,hks⟩:∃ks,x.kids=ks:=⟨_,rfl⟩;rw[hks] at HCN HN hkl4;have HKS:=hide (hks);clear h ht nb st hb hf hA hX hX2 hu hm hks hcl hkl hkl' u1 u2 u3 u4 u5 u6 u7;go_enter func59,ntmps59;go_wp2_with fail
 refine HCN.out.mono ?_;rintro e w1⟨rfl,hw⟩;rw[hw];clear hw;go_wp2_with fail
 go_loopw [29] (λx29 Y=>∃(j:Nat) (Vj:PV) (Aj:Nat->PgV) (flj:List Nat),x29=.int .i64 (j:Int)∧j<=ks.length∧Hid (TS Y B D Gp Vj K pk (m+2*(numsS (ks.take j)).length) Aj flj pages∧St2 w Y B V Vj∧Hold flj pages (numsS (ks.drop j)++(x.num::X))∧∀y,¬y=0->¬y∈numsS (ks.take j)->Aj y=A y)) (λx29 _=>ks.length-(intOf x29).toNat)
 case atStart=>exact⟨0,V,A,fl,rfl,Nat.zero_le _,⟨H.out.1,St2.refl _ _ _,HN.out.2,λ_ _ _=>rfl⟩⟩
 case round =>
  obtain⟨j,Vj,Aj,flj,rfl,hj,HJ⟩:=hrel;by_cases hjc:j<ks.length
  ·have hlt:(j:Int)<(ks.length:Int):=by omega
   obtain⟨⟨k,y⟩,hky⟩:∃ky,ks[j]=ky:=⟨_,rfl⟩;obtain⟨k1,k2,k3,k4⟩:=HJ.out;obtain⟨h,ht,hn,hb,hcl,hf,hA⟩:=H.out;rw[HKS.out] at hA;have hdr:ks.drop j=(k,y)::ks.drop (j+1):=by rw[List.drop_eq_getElem_cons hjc,hky]
   have hall:ks=ks.take j++(k,y)::ks.drop (j+1):=by rw[<-hdr,List.take_append_drop]
   have hx:x=frm x.num (ks.take j) k y (ks.drop (j+1)):=by
    show x=(⟨x.num,ks.take j++(k,y)::ks.drop (j+1)⟩:Inn (T d));rw[<-hall,<-HKS.out]
   have htk:numsS (ks.take (j+1))=numsS (ks.take j)++numsT d y:=by rw[take_snoc hjc,hky,numsS_app,numsS_cons];simp[numsS,nodS]
   have hpd:numsS (ks.drop j)++(x.num::X)=numsT d y++(numsS (ks.drop (j+1))++(x.num::X)):=by rw[hdr,numsS_cons];simp
   rw[hpd] at k3;have hfy:FilN d y:=hf (k,y) (by rw[HKS.out,hall];simp);obtain⟨f1,f2,f3⟩:=fil_some hfy;have hby:Bnd d k (nxt (ks.drop (j+1)) hi) y:=by
    obtain⟨_,hbs⟩:=hb;rw[HKS.out,hall] at hbs;exact((BS_app _ _ _).1 hbs).2.1.2.1
   have hnd:=HN.out.2.nd;rw[hall] at hnd;simp only[numsS_app,numsS_cons,List.nodup_cons,List.nodup_append] at hnd;have hAj:∀q∈nodT d y,Aj q.1=q.2:=λq hq=>by
    have hq1:q.1∈numsT d y:=List.mem_map_of_mem hq;have hpos:=(k3.mem (n:=q.1) (List.mem_append_left _ hq1)).1;rw[k4 q.1 (by omega) (λhin=>hnd.2.2.1.1.2.2 _ hin _ (List.mem_append_left _ hq1) rfl)];exact hA q (by rw[hall,nodS_app,nodS_cons];simp[hq])
   have hyn:(numT d y,pgT d y)∈nodT d y:=by rw[nodT_eq];simp
   have hy1:numT d y∈numsT d y:=List.mem_map_of_mem hyn;have hyp:=(k3.mem (n:=numT d y) (List.mem_append_left _ hy1)).2.1;have hmm:m+2*((numsS (ks.take j)).length+(numsT d y).length)<=38000:=by
    have e1:=congrArg (λl=>(numsS l).length) hall;simp only[numsS_app,numsS_cons,List.length_append] at e1;have e2:=HN.out.1;rw[numsT_s,List.length_cons,HKS.out] at e2;omega
   have hlen:(ks.take j).length=j:=by rw[List.length_take];omega
   have hn2:=h.stayNR k2 hn;rw[hx] at hn2 hb hcl;have HCH:=hide (cchildN k1 (by omega) (h.stayTB k2 ht) hn2 hb hcl hyp (hAj _ hyn) (.inr (λe=>by rw[e] at f3;simp at f3)));rw[hlen] at HCH;have HDR:=hide (λ(Y:World) (VY:PV) (q:Nat) (y1:TS Y B D Gp VY K pk (m+2*(numsS (ks.take j)).length) Aj flj pages) (y2:St2 wr Y B Vj VY) (y3:NR Y q (nvT d y k (nxt (ks.drop (j+1)) hi) 0))=>ih (X:=numsS (ks.drop (j+1))++(x.num::X)) y1 (by omega) (k1.stayTB y2 (h.stayTB k2 ht)) y3 hby f1.2 f2 hAj k3);have HP:=hide (show j<ks.length∧numsS (ks.take (j+1))=numsS (ks.take j)++numsT d y from⟨hjc,htk⟩);have h0:(0:Int)<=(j:Int):=by omega
   clear k1 k2 k3 k4 h ht hn hb hcl hf hA hdr hall hx htk hpd hfy f1 f2 f3 hby hnd hAj hyn hy1 hyp hmm hlen hn2 hky hj;go_wp2_with fail
   refine HCH.out.mono ?_;rintro e w3⟨V3,q,rfl,q1,q2,q3,q4⟩;have HD2:=hide (HDR.out _ _ _ q1 q2 q3.nr);have HQ2:=hide (q2);clear q1 q2 q3 q4 HCH HDR;go_wp2_with fail
   refine HD2.out.mono ?_;rintro e w4⟨rfl,V4,A4,fl4,r1,r2,r3,r4⟩;have HNX:Hid (TS w4 B D Gp V4 K pk (m+2*(numsS (ks.take (j+1))).length) A4 fl4 pages∧St2 w w4 B V V4∧Hold fl4 pages (numsS (ks.drop (j+1))++(x.num::X))∧∀y,¬y=0->¬y∈numsS (ks.take (j+1))->A4 y=A y):=by
    obtain⟨k1,k2,k3,k4⟩:=HJ.out;refine⟨r1.mono (by rw[HP.out.2,List.length_append];omega),(k2.trans HQ2.out).trans r2,r3,λy y0 hy=>?_⟩;rw[HP.out.2,List.mem_append] at hy;rw[r4 y y0 (λe=>hy (.inr e)),k4 y y0 (λe=>hy (.inl e))]
   clear r1 r2 r3 r4 HD2 HQ2;go_wp2_with fail
   go_roundw
   case rel=>exact⟨j+1,V4,A4,fl4,by go_num,HP.out.1,HNX⟩
   case measure=>simp[intOf];have:=HP.out.1;omega
  ·have hje:j=ks.length:=by omega
   have hlt:¬(j:Int)<(ks.length:Int):=by omega
   obtain⟨k1,k2,k3,k4⟩:=HJ.out;obtain⟨h,ht,hn,hb,hcl,hf,hA⟩:=H.out;have hd0:ks.drop j=[]:=by rw[hje];exact List.drop_length
   have ht0:ks.take j=ks:=by rw[hje];exact List.take_length
   rw[hd0] at k3;rw[ht0] at k1 k4;have k3:Hold flj pages (x.num::X):=k3;have hmem:=k3.mem (n:=x.num) (by simp);have hmm:=HN.out.1;rw[numsT_s,HKS.out,List.length_cons] at hmm;have HFR:=hide (ctfree k1 (by omega) (h.stayTB k2 ht) x.num hmem.1 hmem.2.1 hmem.2.2);obtain⟨a2,c2,nb2,-⟩:=h.stayNR k2 hn;obtain⟨u0,u1,u2,u3,u4,u5,u6,u7,u8⟩:=nb2.cells
   replace u3:wr.cell? ⟨p,3,none⟩=some (.int .i64 (x.num:Int)):=u3
   have HE:Hid (∀w3 V3,TS w3 B D Gp V3 K pk (m+2*(numsS ks).length+2) (updA (updA Aj x.num ⟨3,flj.headD 0,[]⟩) 0 ⟨4,x.num,[]⟩) (x.num::flj) pages->St2 wr w3 B Vj V3->drPost w B D Gp V K pk m A pages (numsT (d+1) x) X w3):=λw3 V3 q1 q2=>by
    rw[numsT_s,HKS.out];refine⟨V3,_,_,q1.mono (by simp only[List.length_cons];omega),k2.trans q2,Hold.toFree k3,λy y0 hy=>?_⟩;rw[List.mem_cons,not_or] at hy;rw[updA_ne _ _ y0,updA_ne _ _ hy.1];exact k4 y y0 hy.2
   clear k1 k2 k3 k4 h ht hn hb hcl hf hA hd0 ht0 hmem hmm nb2 u0 u1 u2 u4 u5 u6 u7 hj hjc hje;go_wp2_with fail
   refine HFR.out.mono ?_;rintro e w3⟨rfl,V3,q1,q2⟩;have HE2:=hide (HE.out _ _ q1 q2);clear q1 q2;go_wp2;go_end0;exact⟨rfl,HE2.out⟩
theorem cdropT:∀(d:Nat) {x:T d} {w:World} {V:PV} {m:Nat} {A:Nat->PgV} {fl:List Nat} {lo hi:ByteArray} {p tk:Nat} {X:List Nat},TS w B D Gp V K pk m A fl pages->m+2*(numsT d x).length<=38000->TB w tb Gp root->NR w p (nvT d x lo hi tk)->Bnd d lo hi x->usedC (cellsT d x)<=1012->FilK d x->(∀q∈nodT d x,A q.1=q.2)->Hold fl pages (numsT d x++X)->Calls prog 59 #[(.pointer (some ⟨tb,0,none⟩)),(.pointer (some ⟨p,0,none⟩))] w λe w'=>e=.returned (.tuple #[])∧drPost w B D Gp V K pk m A pages (numsT d x) X w'
 | 0,_,_,_,_,_,_,_,_,_,_,_,h,hm,ht,hn,hb,hu,_,hA,hX=>cdrop0 h hm ht hn hb hu hA hX
 | d+1,_,_,_,_,_,_,_,_,_,_,_,h,hm,ht,hn,hb,hu,hf,hA,hX=>cdropS (λa b c d' e f g i j=>cdropT d a b c d' e f g i j) h hm ht hn hb hu hf hA hX
theorem putPost.lift [Oth](h:TS w B D Gp V K pk m A fl pages)(hX:Below w.heap.size w X)(hp:putPost X B D Gp V K pk m pages os rt d R w1)(hg:w1.grownBy w2 (some c))(hc:isC w1 c 26)(hl:w.heap.size<=c):putPost w B D Gp V K pk m pages os rt d R w2:=by
 obtain⟨V',A',fl',pages',d',t,es',q1,q2,q3,q4,q5,q6⟩:=hp;exact⟨V',A',fl',pages',d',t,es',q1.other hg hc (by decide),q2,q3,q4,((h.below hX).2.trans q5).other hg hl h.lo,q6⟩
theorem cput1 [Oth]{t:T d}(h:TS X B D Gp V K pk m A fl pages)(hm:m<=28000)(hpg:pages<=55000)(hT:Tr A fl pages os t es)(ht:TB X tb Gp (numT d t))(k v:ByteArray)(hk:okK k)(hv:v.size<=3000)(hd:d<=20)(c0:X.cell? ⟨b0,0,none⟩=some (.pointer (some ⟨tb,0,none⟩)))(c1:X.cell? ⟨b1,0,none⟩=some (.string k))(c2:X.cell? ⟨b2,0,none⟩=some (.string v)):Calls prog 51 #[(.pointer (some ⟨b0,0,none⟩)),(.pointer (some ⟨b1,0,none⟩)),(.pointer (some ⟨b2,0,none⟩))] X λe w'=>e=.returned (.tuple #[])∧putPost X B D Gp V K pk m pages os (numT d t) d (PutR es k v) w':=by
 have HP:=hide (ctput h hm hpg hT ht k v hk hv hd);clear h hT ht hk hv;go_enter func51,ntmps51;go_wp2_with fail
 refine HP.out.mono ?_;rintro e w1⟨rfl,hp⟩;have HE:=hide (hp);clear hp;go_wp2;go_end0;exact⟨rfl,HE.out⟩
theorem cPut [Oth]{t:T d}(h:TS w B D Gp V K pk m A fl pages)(hm:m<=28000)(hpg:pages<=55000)(hT:Tr A fl pages os t es)(ht:TB w tb Gp (numT d t))(k v:ByteArray)(hk:okK k)(hv:v.size<=3000)(hd:d<=20):Calls prog 19 #[(.pointer (some ⟨tb,0,none⟩)),.string k,.string v] w λe w'=>e=.returned (.int .i64 0)∧putPost w B D Gp V K pk m pages os (numT d t) d (PutR es k v) w':=by
 have hmf:∀(fn:Fn) (first cap:Array Value) (w:World),(Instr.makeFunc fn first cap).run prog w=.ok (.func fn first cap) w:=λ_ _ _ _=>rfl
 have hen:∀args w,(callFunc 51 args).run prog w=.ok (.enter 51 args) w:=enters_of func51 (by kernel_rfl) rfl;have HM:=hide (λ(Y:World)=>cmayBe k Y (by have:=hk.2;omega));have hkd:decide (0<k.size∧k.size<=200)=true:=decide_eq_true hk;rw[hkd] at HM;obtain⟨W3,hW3⟩:∃W3,((w.alloc (.cells #[(.pointer (some ⟨tb,0,none⟩))] 38)).alloc (.cells #[.string k] 9)).alloc (.cells #[.string v] 9)=W3:=⟨_,rfl⟩;have hb3:Below w.heap.size w W3:=by rw[<-hW3];exact(((Below.refl _ _).alloc (Nat.le_refl _) _).alloc (by simp) _).alloc (by simp;omega) _
 have hs3:W3.heap.size=w.heap.size+3:=by rw[<-hW3];simp
 have hb4:Below w.heap.size w (W3.alloc (.cells #[.int .i64 0] 26)):=hb3.alloc (by omega) _;have q0:W3.heap[w.heap.size]?=some (.cells #[(.pointer (some ⟨tb,0,none⟩))] 38 (0,0)):=by
  rw[<-hW3,heap_alloc_old _ _ (by simp;omega),heap_alloc_old _ _ (by simp)];exact heap_alloc_new w _
 have q1:W3.heap[w.heap.size+1]?=some (.cells #[.string k] 9 (0,0)):=by
  rw[<-hW3,heap_alloc_old _ _ (by simp)];have:=heap_alloc_new (w.alloc (.cells #[(.pointer (some ⟨tb,0,none⟩))] 38)) (.cells #[.string k] 9);simpa using this
 have q2:W3.heap[w.heap.size+2]?=some (.cells #[.string v] 9 (0,0)):=by
  rw[<-hW3];have:=heap_alloc_new ((w.alloc (.cells #[(.pointer (some ⟨tb,0,none⟩))] 38)).alloc (.cells #[.string k] 9)) (.cells #[.string v] 9);simpa using this
 have old:∀j,j<3->(W3.alloc (.cells #[.int .i64 0] 26)).heap[w.heap.size+j]?=W3.heap[w.heap.size+j]?:=λj hj=>heap_alloc_old _ _ (by omega)
 obtain⟨h4,s4⟩:=h.below hb4;have HC:=hide (ccaught 51 hen #[(.pointer (some ⟨w.heap.size,0,none⟩)),(.pointer (some ⟨w.heap.size+1,0,none⟩)),(.pointer (some ⟨w.heap.size+2,0,none⟩))] W3 tb Gp (numT d t) (h.stayTB (h.below hb3).2 ht) (λw'=>putPost (W3.alloc (.cells #[.int .i64 0] 26)) B D Gp V K pk m pages os (numT d t) d (PutR es k v) w') (cput1 h4 hm hpg hT (h.stayTB s4 ht) k v hk hv hd (by have:=old 0 (by omega);simp only[Nat.add_zero] at this;simp[World.cell?,this,q0]) (by simp[World.cell?,old 1 (by omega),q1]) (by simp[World.cell?,old 2 (by omega),q2])) (λw' hp=>by
  obtain⟨V',A',fl',pages',d',t',es',p1,p2,p3,p4,p5,p6⟩:=hp;exact h4.stay p5 (heap_alloc_new W3 _) (by decide)))
 have HL:=hide (λ(w1:World) (hp:putPost (W3.alloc (.cells #[.int .i64 0] 26)) B D Gp V K pk m pages os (numT d t) d (PutR es k v) w1)=>putPost.lift h hb4 hp (set_grown w1 W3.heap.size 0 (.int .i64 0)) (by
  obtain⟨V',A',fl',pages',d',t',es',p1,p2,p3,p4,p5,p6⟩:=hp;exact⟨_,h4.stay p5 (heap_alloc_new W3 _) (by decide)⟩) (by omega))
 have g0:W3.cell? ⟨w.heap.size,0,none⟩=some (.pointer (some ⟨tb,0,none⟩)):=by simp[World.cell?,q0]
 have hvi:¬(3000:Int)<(v.size:Int):=by omega
 have HW:=hide (hW3);rw[<-hW3] at HC HL;subst hW3;clear h hT ht hk hkd hb3 hs3 hb4 q0 q1 q2 old h4 s4 hen g0;go_enter func19,ntmps19;go_wp2_with fail
 refine(HM.out _).mono ?_;rintro e w1⟨rfl,hw⟩;rw[hw];clear hw;go_wp2_with fail
 refine HC.out.mono ?_;rintro e w5⟨rfl,w1,hq,hw5⟩;have HE:Hid (putPost w B D Gp V K pk m pages os (numT d t) d (PutR es k v) w5):=by rw[hw5];exact HL.out w1 hq
 clear hq hw5 HC HL;go_wp2;go_ret;exact⟨rfl,HE.out⟩
theorem cPutL (k v:ByteArray)(hk:okK k)(hv:3000<v.size)(hs:v.size<=9223372036854775807)(tb:Nat)(w:World):Calls prog 19 #[(.pointer (some ⟨tb,0,none⟩)),.string k,.string v] w λe w'=>e=.returned (.int .i64 8)∧Below w.heap.size w w':=by
 have HM:=hide (λ(Y:World)=>cmayBe k Y (by have:=hk.2;omega));have hkd:decide (0<k.size∧k.size<=200)=true:=decide_eq_true hk;rw[hkd] at HM;have hvi:(3000:Int)<(v.size:Int):=by omega
 have HB:Hid (Below w.heap.size w (((w.alloc (.cells #[(.pointer (some ⟨tb,0,none⟩))] 38)).alloc (.cells #[.string k] 9)).alloc (.cells #[.string v] 9))):=(((Below.refl _ _).alloc (Nat.le_refl _) _).alloc (by simp) _).alloc (by simp;omega) _;clear hk hkd;go_enter func19,ntmps19;go_wp2_with fail
 refine(HM.out _).mono ?_;rintro e w1⟨rfl,hw⟩;rw[hw];clear hw;go_wp2;go_ret;exact⟨rfl,HB.out⟩
theorem putPost.other [Oth](h:TS w B D Gp V K pk m A fl pages)(hp:putPost w B D Gp V K pk m pages os rt d R w1)(hg:w1.grownBy w2 (some c))(hc:isC w1 c t)(ht:tyQ t=false)(hl:w.heap.size<=c):putPost w B D Gp V K pk m pages os rt d R w2:=by
 obtain⟨V',A',fl',pages',d',t',es',q1,q2,q3,q4,q5,q6⟩:=hp;exact⟨V',A',fl',pages',d',t',es',q1.other hg hc ht,q2,q3,q4,q5.other hg hl h.lo,q6⟩
theorem putPost.down [Oth](h:TS w B D Gp V K pk m A fl pages)(hX:Below w.heap.size w X)(hp:putPost X B D Gp V K pk m pages os rt d R w1):putPost w B D Gp V K pk m pages os rt d R w1:=by
 obtain⟨V',A',fl',pages',d',t',es',q1,q2,q3,q4,q5,q6⟩:=hp;exact⟨V',A',fl',pages',d',t',es',q1,q2,q3,q4,(h.below hX).2.trans q5,q6⟩
theorem putPost.stay [Oth](h:TS X B D Gp V K pk m A fl pages)(hp:putPost X B D Gp V K pk m pages os rt d R w1)(hc:X.heap[c]?=some (.cells cs t (0,0)))(ht:tyQ t=false):w1.heap[c]?=some (.cells cs t (0,0)):=by
 obtain⟨V',A',fl',pages',d',t',es',q1,q2,q3,q4,q5,q6⟩:=hp;exact h.stay q5 hc ht
theorem cdel1 [Oth]{t:T d}(h:TS X B D Gp V K pk m A fl pages)(hm:m<=28000)(hpg:pages<=55000)(hT:Tr A fl pages os t es)(ht:TB X tb Gp (numT d t))(k:ByteArray)(hd:d<=20)(c0:X.cell? ⟨b0,0,none⟩=some (.pointer (some ⟨tb,0,none⟩)))(c1:X.cell? ⟨b1,0,none⟩=some (.string k))(c2:X.heap[b2]?=some (.cells #[.bool false] 4 (0,0))):Calls prog 53 #[(.pointer (some ⟨b0,0,none⟩)),(.pointer (some ⟨b1,0,none⟩)),(.pointer (some ⟨b2,0,none⟩))] X λe w'=>e=.returned (.tuple #[])∧∃(is:Bool) (w1:World),putPost X B D Gp V K pk m pages os (numT d t) d (DelR es k is) w1∧w1.heap[b2]?=some (.cells #[.bool false] 4 (0,0))∧w'=w1.setCell ⟨b2,0,none⟩ (.bool is):=by
 have HP:=hide (ctdelete h hm hpg hT ht k hd);have HS:=hide (λ(w1:World) (is:Bool) (hp:putPost X B D Gp V K pk m pages os (numT d t) d (DelR es k is) w1)=>putPost.stay h hp c2 (by decide));clear h hT ht c2;go_enter func53,ntmps53;go_wp2_with fail
 refine HP.out.mono ?_;rintro e w1⟨is,rfl,hp⟩;have hb:=HS.out _ _ hp;have e0:w1.cell? ⟨b2,0,none⟩=some (.bool false):=by simp[World.cell?,hb]
 have e1:w1.frozen? ⟨b2,0,none⟩=false:=by simp[World.frozen?,hb]
 have HE:=hide (hp);have HB:=hide (hb);clear hp hb;go_wp2;go_end0;exact⟨rfl,is,w1,HE.out,HB.out,rfl⟩
theorem cDelete [Oth]{t:T d}(h:TS w B D Gp V K pk m A fl pages)(hm:m<=28000)(hpg:pages<=55000)(hT:Tr A fl pages os t es)(ht:TB w tb Gp (numT d t))(k:ByteArray)(hk:okK k)(hd:d<=20):Calls prog 20 #[(.pointer (some ⟨tb,0,none⟩)),.string k] w λe w'=>∃is:Bool,e=.returned (.tuple #[.bool is,.int .i64 0])∧putPost w B D Gp V K pk m pages os (numT d t) d (DelR es k is) w':=by
 have hmf:∀(fn:Fn) (first cap:Array Value) (w:World),(Instr.makeFunc fn first cap).run prog w=.ok (.func fn first cap) w:=λ_ _ _ _=>rfl
 have hen:∀args w,(callFunc 53 args).run prog w=.ok (.enter 53 args) w:=enters_of func53 (by kernel_rfl) rfl;have HM:=hide (λ(Y:World)=>cmayBe k Y (by have:=hk.2;omega));have hkd:decide (0<k.size∧k.size<=200)=true:=decide_eq_true hk;rw[hkd] at HM;obtain⟨W3,hW3⟩:∃W3,((w.alloc (.cells #[(.pointer (some ⟨tb,0,none⟩))] 38)).alloc (.cells #[.string k] 9)).alloc (.cells #[.bool false] 4)=W3:=⟨_,rfl⟩;have hb3:Below w.heap.size w W3:=by rw[<-hW3];exact(((Below.refl _ _).alloc (Nat.le_refl _) _).alloc (by simp) _).alloc (by simp;omega) _
 have hs3:W3.heap.size=w.heap.size+3:=by rw[<-hW3];simp
 have hb4:Below w.heap.size w (W3.alloc (.cells #[.int .i64 0] 26)):=hb3.alloc (by omega) _;have q0:W3.heap[w.heap.size]?=some (.cells #[(.pointer (some ⟨tb,0,none⟩))] 38 (0,0)):=by
  rw[<-hW3,heap_alloc_old _ _ (by simp;omega),heap_alloc_old _ _ (by simp)];exact heap_alloc_new w _
 have q1:W3.heap[w.heap.size+1]?=some (.cells #[.string k] 9 (0,0)):=by
  rw[<-hW3,heap_alloc_old _ _ (by simp)];have:=heap_alloc_new (w.alloc (.cells #[(.pointer (some ⟨tb,0,none⟩))] 38)) (.cells #[.string k] 9);simpa using this
 have q2:W3.heap[w.heap.size+2]?=some (.cells #[.bool false] 4 (0,0)):=by
  rw[<-hW3];have:=heap_alloc_new ((w.alloc (.cells #[(.pointer (some ⟨tb,0,none⟩))] 38)).alloc (.cells #[.string k] 9)) (.cells #[.bool false] 4);simpa using this
 have old:∀j,j<3->(W3.alloc (.cells #[.int .i64 0] 26)).heap[w.heap.size+j]?=W3.heap[w.heap.size+j]?:=λj hj=>heap_alloc_old _ _ (by omega)
 obtain⟨h4,s4⟩:=h.below hb4;have HC:=hide (ccaught 53 hen #[(.pointer (some ⟨w.heap.size,0,none⟩)),(.pointer (some ⟨w.heap.size+1,0,none⟩)),(.pointer (some ⟨w.heap.size+2,0,none⟩))] W3 tb Gp (numT d t) (h.stayTB (h.below hb3).2 ht) (λw'=>∃(is:Bool) (w1:World),putPost (W3.alloc (.cells #[.int .i64 0] 26)) B D Gp V K pk m pages os (numT d t) d (DelR es k is) w1∧w1.heap[w.heap.size+2]?=some (.cells #[.bool false] 4 (0,0))∧w'=w1.setCell ⟨w.heap.size+2,0,none⟩ (.bool is)) (cdel1 h4 hm hpg hT (h.stayTB s4 ht) k hd (by have:=old 0 (by omega);simp only[Nat.add_zero] at this;simp[World.cell?,this,q0]) (by simp[World.cell?,old 1 (by omega),q1]) (by rw[old 2 (by omega),q2])) (λw' hp=>by
  obtain⟨is,w1,p1,p2,rfl⟩:=hp;rw[Below.heap_setCell _ _ _ _ (by show ¬W3.heap.size=w.heap.size+2;omega)];exact putPost.stay h4 p1 (heap_alloc_new W3 _) (by decide)))
 have HL:=hide (λ(w1:World) (is:Bool) (p1:putPost (W3.alloc (.cells #[.int .i64 0] 26)) B D Gp V K pk m pages os (numT d t) d (DelR es k is) w1) (p2:w1.heap[w.heap.size+2]?=some (.cells #[.bool false] 4 (0,0)))=>(show putPost w B D Gp V K pk m pages os (numT d t) d (DelR es k is) ((w1.setCell ⟨w.heap.size+2,0,none⟩ (.bool is)).setCell ⟨W3.heap.size,0,none⟩ (.int .i64 0))∧((w1.setCell ⟨w.heap.size+2,0,none⟩ (.bool is)).setCell ⟨W3.heap.size,0,none⟩ (.int .i64 0)).cell? ⟨w.heap.size+2,0,none⟩=some (.bool is) from by
  have p3:=putPost.stay h4 p1 (heap_alloc_new W3 _) (by decide);have g1:=set_grown w1 (w.heap.size+2) 0 (.bool is);have p4:(w1.setCell ⟨w.heap.size+2,0,none⟩ (.bool is)).heap[W3.heap.size]?=some (.cells #[.int .i64 0] 26 (0,0)):=by
   rw[Below.heap_setCell _ _ _ _ (by show ¬W3.heap.size=w.heap.size+2;omega)];exact p3
  refine⟨putPost.other h (putPost.other h (putPost.down h hb4 p1) g1 ⟨_,p2⟩ (by decide) (by omega)) (set_grown _ _ _ _) ⟨_,p4⟩ (by decide) (by omega),?_⟩;have p5:((w1.setCell ⟨w.heap.size+2,0,none⟩ (.bool is)).setCell ⟨W3.heap.size,0,none⟩ (.int .i64 0)).heap[w.heap.size+2]?=some (.cells #[.bool is] 4 (0,0)):=by
   rw[Below.heap_setCell _ _ _ _ (by show ¬w.heap.size+2=W3.heap.size;omega),set_blk p2];rfl
  simp[World.cell?,p5]))
 rw[<-hW3] at HC HL;subst hW3;clear h hT ht hk hkd hb3 hs3 hb4 q0 q1 q2 old h4 s4 hen;go_enter func20,ntmps20;go_wp2_with fail
 refine(HM.out _).mono ?_;rintro e w1⟨rfl,hw⟩;rw[hw];clear hw;go_wp2_with fail
 refine HC.out.mono ?_;rintro e w5⟨rfl,w4,⟨is,w1,p1,p2,hw4⟩,hw5⟩;have HE:Hid (putPost w B D Gp V K pk m pages os (numT d t) d (DelR es k is) w5):=by rw[hw5,hw4];exact(HL.out w1 is p1 p2).1
 have hcb:w5.cell? ⟨w.heap.size+2,0,none⟩=some (.bool is):=by rw[hw5,hw4];exact(HL.out w1 is p1 p2).2
 clear p1 p2 hw4 hw5 HC HL;go_wp2
 go_ret2
 exact⟨is,rfl,HE.out⟩
section
variable {w w':World}{B D Gp:Nat}{V V':PV}{K:Pgs}{pk m:Nat}{A:Nat->PgV}{fl os:List Nat}{pages tb root rt:Nat}{es:List Ent}
theorem cdro1 [Oth]{t:T d}(h:TS X B D Gp V K pk m A fl pages)(hm:m+2*(numsT d t).length<=38000)(hT:Tr A fl pages os t es)(ht:TB X tb Gp (numT d t))(hb0:X.heap[b0]?=some (.cells #[(.pointer (some ⟨tb,0,none⟩))] 38 (0,0))):Calls prog 58 #[(.pointer (some ⟨b0,0,none⟩))] X λe w'=>e=.returned (.tuple #[])∧drPost X B D Gp V K pk m A pages (numsT d t) (Oth.l.map (·.1)++os) w':=by
 have hbn:Bnd d ⟨#[]⟩ ⟨#[]⟩ t:=hT.sx.wf.at;have hA:∀q∈nodT d t,A q.1=q.2:=λq hq=>by
  rw[nodT_eq,List.mem_cons] at hq;rcases hq with rfl | hq
  ·exact hT.own
  ·exact hT.sx.rep q (by unfold restN;exact List.mem_append_left _ hq)
 have hH:Hold fl pages (numsT d t++(Oth.l.map (·.1)++os)):=by
  have:=hT.sx.perm;unfold restN at this;simp only[nod1,List.map_append,List.append_assoc] at this;unfold numsT;rw[nodT_eq];exact this
 have HT:=hide (λ(Y:World) (hY:Below X.heap.size X Y)=>ctop (h.below hY).1 (by omega) (h.stayTB (h.below hY).2 ht) hT.sx.own.1 hT.own hbn hT.ok.some);have HD:=hide (λ(Y:World) (hY:Below X.heap.size X Y) (Z:World) (VZ:PV) (p:Nat) (y1:TS Z B D Gp VZ K pk m A fl pages) (y2:St2 Y Z B V VZ) (y3:ND Z Y.heap.size p (nvT d t ⟨#[]⟩ ⟨#[]⟩ 0))=>cdropT d y1 hm ((h.below hY).1.stayTB y2 (h.stayTB (h.below hY).2 ht)) y3.nr hbn hT.ok.high hT.ok.kids hA hH);have HS:=hide (λ(Y:World) (hY:Below X.heap.size X Y) (Z:World) (VZ:PV) (y2:St2 Y Z B V VZ)=>(h.below hY).2.trans y2);have HB:=hide (λ(Y:World) (hY:Below X.heap.size X Y) (Z:World) (VZ:PV) (y2:St2 Y Z B V VZ)=>(show Z.cell? ⟨b0,0,none⟩=some (.pointer (some ⟨tb,0,none⟩)) from by
  have:=(h.below hY).1.stay y2 (h.stay (h.below hY).2 hb0 (by decide)) (by decide);simp[World.cell?,this]))
 have c0:X.cell? ⟨b0,0,none⟩=some (.pointer (some ⟨tb,0,none⟩)):=by simp[World.cell?,hb0]
 have hblt:b0<X.heap.size:=(gl hb0);clear h hT ht hbn hA hH hb0;go_enter func58,ntmps58;go_wp2_with fail
 go_region_with (first | (go_at_call 60;refine(HT.out _ (drawnB X 1)).mono ?_;rintro e w1⟨V1,p,rfl,k1,k2,k3,k4⟩;have HK:=hide (HD.out _ (drawnB X 1) _ _ _ k1 k2 k3);have HK2:=hide (HS.out _ (drawnB X 1) _ _ k2);have d0:=HB.out _ (drawnB X 1) _ _ k2;clear k1 k2 k3 k4) | (go_at_call 59;refine HK.out.mono ?_;rintro e w2⟨rfl,V2,A2,fl2,q1,q2,q3,q4⟩))
 all_goals
  go_wp2;go_end0;exact⟨rfl,V2,A2,fl2,q1,HK2.out.trans q2,q3,q4⟩
theorem drPost.stay (h:TS X B D Gp V K pk m A fl pages)(hp:drPost X B D Gp V K pk m A pages ps Z w1)(hc:X.heap[c]?=some (.cells cs t (0,0)))(ht:tyQ t=false):w1.heap[c]?=some (.cells cs t (0,0)):=by
 obtain⟨V',A',fl',q1,q2,q3,q4⟩:=hp;exact h.stay q2 hc ht
theorem drPost.lift (h:TS w B D Gp V K pk m A fl pages)(hX:Below w.heap.size w X)(hp:drPost X B D Gp V K pk m A pages ps Z w1)(hg:w1.grownBy w2 (some c))(hc:isC w1 c t)(ht:tyQ t=false)(hl:w.heap.size<=c):drPost w B D Gp V K pk m A pages ps Z w2:=by
 obtain⟨V',A',fl',q1,q2,q3,q4⟩:=hp;exact⟨V',A',fl',q1.other hg hc ht,((h.below hX).2.trans q2).other hg hl h.lo,q3,q4⟩
theorem cDrop [Oth]{t:T d}(h:TS w B D Gp V K pk m A fl pages)(hm:m+2*(numsT d t).length<=38000)(hT:Tr A fl pages os t es)(ht:TB w tb Gp (numT d t)):Calls prog 24 #[(.pointer (some ⟨tb,0,none⟩))] w λe w'=>e=.returned (.int .i64 0)∧drPost w B D Gp V K pk m A pages (numsT d t) (Oth.l.map (·.1)++os) w':=by
 have hmf:∀(fn:Fn) (first cap:Array Value) (w:World),(Instr.makeFunc fn first cap).run prog w=.ok (.func fn first cap) w:=λ_ _ _ _=>rfl
 have hen:∀args w,(callFunc 58 args).run prog w=.ok (.enter 58 args) w:=enters_of func58 (by kernel_rfl) rfl;obtain⟨W3,hW3⟩:∃W3,w.alloc (.cells #[(.pointer (some ⟨tb,0,none⟩))] 38)=W3:=⟨_,rfl⟩;have hb3:Below w.heap.size w W3:=by rw[<-hW3];exact(Below.refl _ _).alloc (Nat.le_refl _) _
 have hs3:W3.heap.size=w.heap.size+1:=by rw[<-hW3];simp
 have hb4:Below w.heap.size w (W3.alloc (.cells #[.int .i64 0] 26)):=hb3.alloc (by omega) _;have q0:W3.heap[w.heap.size]?=some (.cells #[(.pointer (some ⟨tb,0,none⟩))] 38 (0,0)):=by rw[<-hW3];exact heap_alloc_new w _
 obtain⟨h4,s4⟩:=h.below hb4;have HC:=hide (ccaught 58 hen #[(.pointer (some ⟨w.heap.size,0,none⟩))] W3 tb Gp (numT d t) (h.stayTB (h.below hb3).2 ht) (λw'=>drPost (W3.alloc (.cells #[.int .i64 0] 26)) B D Gp V K pk m A pages (numsT d t) (Oth.l.map (·.1)++os) w') (cdro1 h4 hm hT (h.stayTB s4 ht) (by rw[heap_alloc_old _ _ (by omega)];exact q0)) (λw' hp=>drPost.stay h4 hp (heap_alloc_new W3 _) (by decide)));have HL:=hide (λ(w1:World) (hp:drPost (W3.alloc (.cells #[.int .i64 0] 26)) B D Gp V K pk m A pages (numsT d t) (Oth.l.map (·.1)++os) w1)=>drPost.lift h hb4 hp (set_grown w1 W3.heap.size 0 (.int .i64 0)) ⟨_,drPost.stay h4 hp (heap_alloc_new W3 _) (by decide)⟩ (by decide) (by omega));rw[<-hW3] at HC HL;subst hW3;clear h hT ht hb3 hs3 hb4 q0 h4 s4 hen;go_enter func24,ntmps24;go_wp2_with fail
 refine HC.out.mono ?_;rintro e w5⟨rfl,w1,hq,hw5⟩;have HE:Hid (drPost w B D Gp V K pk m A pages (numsT d t) (Oth.l.map (·.1)++os) w5):=by rw[hw5];exact HL.out w1 hq
 clear hq hw5 HC HL;go_wp2;go_ret;exact⟨rfl,HE.out⟩
theorem tr_new [Oth]{A':Nat->PgV}{fl':List Nat}{pages' n:Nat}(hp:(0::(fl'++(n::(Oth.l.map (·.1)++os)))).Perm (List.range pages'))(hA:A' n=⟨1,0,[]⟩)(hO:∀p∈Oth.l,A' p.1=p.2):Tr A' fl' pages' os (d:=0) (⟨n,0,[]⟩:Lf) []:=
 ⟨⟨⟨⟨⟨#[]⟩,⟨#[]⟩,⟨rfl,rfl⟩,trivial⟩,trivial,rfl,⟨rfl,trivial⟩⟩,λp hp=>hO p (by simpa[restN,nodT,nod1] using hp),by simpa[restN,nodT,nod1,numT] using hp⟩,hA,⟨trivial,.inl rfl,by show usedC []<=1012;simp[usedC],.inl rfl⟩⟩
def crPost (w:World)(B D Gp:Nat)(V:PV)(K:Pgs)(pk m:Nat)(A:Nat->PgV)(fl:List Nat)(pages:Nat)(n:Nat)(w':World):Prop:=
 ∃(V':PV) (A':Nat->PgV) (fl':List Nat) (pages':Nat),TS w' B D Gp V' K pk (m+3) (updA A' n ⟨1,0,[]⟩) fl' pages'∧St2 w w' B V V'∧AllR A fl pages n A' fl' pages'
theorem TS.stayIB (h:TS w B D Gp V K pk m A fl pages)(hs:St2 w w' B V V')(hc:w.heap[c]?=some (.cells cs 3 (0,0)))(hn:¬V.b.vo.ownBlock=some c):w'.heap[c]?=some (.cells cs 3 (0,0))∧¬V'.b.vo.ownBlock=some c:=by
 obtain⟨C,h1,h2⟩:=h.po;exact h1.stayI hs hc hn
theorem TS.setI (h:TS w B D Gp V K pk m A fl pages)(hc:w.heap[c]?=some (.cells cs 3 (0,0)))(hn:¬V.b.vo.ownBlock=some c)(hg:w.grownBy w2 (some c)):TS w2 B D Gp V K pk m A fl pages:=
 h.keptN ⟨hg.size,λb hb hl=>hg.block b hb (λe=>hl (by injection e with e;subst e;exact .inr (.inr ⟨⟨_,hc⟩,hn⟩)))⟩
theorem ccre1 (h:TS X B D Gp V K pk m A fl pages)(hm:m<=38000)(hp:pages<58000)(hX:(0::(fl++Z)).Perm (List.range pages))(ht:TB X tb Gp root)(hb0:X.heap[b0]?=some (.cells #[(.pointer (some ⟨tb,0,none⟩))] 38 (0,0)))(hb1:X.heap[b1]?=some (.cells #[.int .i64 0] 3 (0,0)))(hn1:¬V.b.vo.ownBlock=some b1):Calls prog 31 #[(.pointer (some ⟨b0,0,none⟩)),(.pointer (some ⟨b1,0,none⟩))] X λe w'=>e=.returned (.tuple #[])∧∃(n:Nat) (w1:World),crPost X B D Gp V K pk m A fl pages n w1∧w1.heap[b1]?=some (.cells #[.int .i64 0] 3 (0,0))∧(∀V',St2 X w1 B V V'->¬V'.b.vo.ownBlock=some b1)∧w'=w1.setCell ⟨b1,0,none⟩ (.int .i64 (n:Int)):=by
 have HF:=hide (cfresh h (by omega) hp ht 1);have H:=hide (show TS X B D Gp V K pk m A fl pages∧TB X tb Gp root∧X.heap[b0]?=some (.cells #[(.pointer (some ⟨tb,0,none⟩))] 38 (0,0))∧X.heap[b1]?=some (.cells #[.int .i64 0] 3 (0,0))∧¬V.b.vo.ownBlock=some b1∧(0::(fl++Z)).Perm (List.range pages)∧m<=38000 from⟨h,ht,hb0,hb1,hn1,hX,hm⟩);have c0:X.cell? ⟨b0,0,none⟩=some (.pointer (some ⟨tb,0,none⟩)):=by simp[World.cell?,hb0]
 clear h hX ht hb0 hb1 hn1 hm hp;go_enter func31,ntmps31;go_wp2_with fail
 refine HF.out.mono ?_;rintro e w1⟨V1,n,A1,fl1,pages1,p,rfl,k1,k2,k3,k4,k5⟩;obtain⟨h,ht,hb0,hb1,hn1,hX,hm⟩:=H.out;have hp2:=k3.perm Z hX;have hh:Hold fl1 pages1 (n::Z):=hp2;have hmem:=hh.mem (n:=n) (by simp);have HW:=hide (ctwrite k1 (by omega) (h.stayTB k2 ht) k4.nr (show okP (pgN ⟨1,0,[],n,⟨#[]⟩,⟨#[]⟩,0⟩) from⟨by show 1<=1∧1<=5;omega,by show 0<=_;omega,by show usedC []<=1012;simp[usedC]⟩) hmem.1 hmem.2.1 hmem.2.2);have d0:w1.cell? ⟨b0,0,none⟩=some (.pointer (some ⟨tb,0,none⟩)):=by
  have:=h.stay k2 hb0 (by decide);simp[World.cell?,this]
 obtain⟨s,nb,-⟩:=k4;have HK:=hide (show TS w1 B D Gp V1 K pk (m+2) A1 fl1 pages1∧St2 X w1 B V V1∧AllR A fl pages n A1 fl1 pages1∧NB w1 p ⟨1,0,[],n,⟨#[]⟩,⟨#[]⟩,0⟩ s from⟨k1,k2,k3,nb⟩);clear k1 k2 k3 k5 nb h ht hb0 hb1 hn1 hX hm hp2 hh hmem HF;go_wp2_with fail
 refine HW.out.mono ?_;rintro e w2⟨rfl,V2,q1,q2⟩;obtain⟨k1,k2,k3,nb⟩:=HK.out;obtain⟨h,ht,hb0,hb1,hn1,hX,hm⟩:=H.out;have hb2:=h.stayIB (k2.trans q2) hb1 hn1;have nb2:=k1.stayNB q2 nb;obtain⟨u0,u1,u2,u3,u4,u5,u6,u7,u8⟩:=nb2.cells
 replace u3:w2.cell? ⟨p,3,none⟩=some (.int .i64 (n:Int)):=u3
 have e0:w2.cell? ⟨b1,0,none⟩=some (.int .i64 0):=by simp[World.cell?,hb2.1]
 have e1:w2.frozen? ⟨b1,0,none⟩=false:=by simp[World.frozen?,hb2.1]
 have HE:Hid (crPost X B D Gp V K pk m A fl pages n w2∧w2.heap[b1]?=some (.cells #[.int .i64 0] 3 (0,0))∧(∀V',St2 X w2 B V V'->¬V'.b.vo.ownBlock=some b1)):=⟨⟨V2,A1,fl1,pages1,q1,k2.trans q2,k3⟩,hb2.1,λV' hs=>(h.stayIB hs hb1 hn1).2⟩;clear k1 k2 k3 nb h ht hb0 hb1 hn1 hX hm q1 q2 hb2 nb2 u0 u1 u2 u4 u5 u6 u7 HW;go_wp2;go_end0;exact⟨rfl,n,w2,HE.out.1,HE.out.2.1,HE.out.2.2,rfl⟩
end
theorem cOpenT (Gp root:Nat)(w:World):Calls prog 9 #[(.pointer (some ⟨Gp,0,none⟩)),.int .i64 (root:Int)] w λe w'=>e=.returned (.pointer (some ⟨w.heap.size,0,none⟩))∧TB w' w.heap.size Gp root∧Below w.heap.size w w':=by
 have HB:Hid (TB (w.alloc (.cells #[(.pointer (some ⟨Gp,0,none⟩)),.int .i64 (root:Int)] 92)) w.heap.size Gp root):=heap_alloc_new w _;have HW:Hid (Below w.heap.size w (w.alloc (.cells #[(.pointer (some ⟨Gp,0,none⟩)),.int .i64 (root:Int)] 92))):=(Below.refl _ _).alloc (Nat.le_refl _) _;go_enter func9,ntmps9;go_wp2;go_ret;exact⟨rfl,HB.out,HW.out⟩
theorem cCreate (h:TS w B D Gp V K pk m A fl pages)(hm:m<=38000)(hp:pages<58000)(hX:(0::(fl++Z)).Perm (List.range pages)):Calls prog 8 #[(.pointer (some ⟨Gp,0,none⟩))] w λe w'=>∃n:Nat,e=.returned (.tuple #[.int .i64 (n:Int),.int .i64 0])∧crPost w B D Gp V K pk m A fl pages n w':=by
 have hmf:∀(fn:Fn) (first cap:Array Value) (w:World),(Instr.makeFunc fn first cap).run prog w=.ok (.func fn first cap) w:=λ_ _ _ _=>rfl
 have hen:∀args w,(callFunc 31 args).run prog w=.ok (.enter 31 args) w:=enters_of func31 (by kernel_rfl) rfl;obtain⟨W3,hW3⟩:∃W3,((w.alloc (.cells #[(.pointer (some ⟨Gp,0,none⟩)),.int .i64 0] 92)).alloc (.cells #[(.pointer (some ⟨w.heap.size,0,none⟩))] 38)).alloc (.cells #[.int .i64 0] 3)=W3:=⟨_,rfl⟩;have hb3:Below w.heap.size w W3:=by rw[<-hW3];exact(((Below.refl _ _).alloc (Nat.le_refl _) _).alloc (by simp) _).alloc (by simp;omega) _
 have hs3:W3.heap.size=w.heap.size+3:=by rw[<-hW3];simp
 have hb4:Below w.heap.size w (W3.alloc (.cells #[.int .i64 0] 26)):=hb3.alloc (by omega) _;have q0:W3.heap[w.heap.size]?=some (.cells #[(.pointer (some ⟨Gp,0,none⟩)),.int .i64 0] 92 (0,0)):=by
  rw[<-hW3,heap_alloc_old _ _ (by simp;omega),heap_alloc_old _ _ (by simp)];exact heap_alloc_new w _
 have q1:W3.heap[w.heap.size+1]?=some (.cells #[(.pointer (some ⟨w.heap.size,0,none⟩))] 38 (0,0)):=by
  rw[<-hW3,heap_alloc_old _ _ (by simp)];have:=heap_alloc_new (w.alloc (.cells #[(.pointer (some ⟨Gp,0,none⟩)),.int .i64 0] 92)) (.cells #[(.pointer (some ⟨w.heap.size,0,none⟩))] 38);simpa using this
 have q2:W3.heap[w.heap.size+2]?=some (.cells #[.int .i64 0] 3 (0,0)):=by
  rw[<-hW3];have:=heap_alloc_new ((w.alloc (.cells #[(.pointer (some ⟨Gp,0,none⟩)),.int .i64 0] 92)).alloc (.cells #[(.pointer (some ⟨w.heap.size,0,none⟩))] 38)) (.cells #[.int .i64 0] 3);simpa using this
 have old:∀j,j<3->(W3.alloc (.cells #[.int .i64 0] 26)).heap[w.heap.size+j]?=W3.heap[w.heap.size+j]?:=λj hj=>heap_alloc_old _ _ (by omega)
 obtain⟨h4,s4⟩:=h.below hb4;have hTB:TB (W3.alloc (.cells #[.int .i64 0] 26)) w.heap.size Gp 0:=by
  have:=old 0 (by omega);simp only[Nat.add_zero] at this;exact this.trans q0
 have HC:=hide (ccaught 31 hen #[(.pointer (some ⟨w.heap.size+1,0,none⟩)),(.pointer (some ⟨w.heap.size+2,0,none⟩))] W3 w.heap.size Gp 0 q0 (λw'=>∃(n:Nat) (w1:World),crPost (W3.alloc (.cells #[.int .i64 0] 26)) B D Gp V K pk m A fl pages n w1∧w1.heap[w.heap.size+2]?=some (.cells #[.int .i64 0] 3 (0,0))∧(∀V',St2 (W3.alloc (.cells #[.int .i64 0] 26)) w1 B V V'->¬V'.b.vo.ownBlock=some (w.heap.size+2))∧w'=w1.setCell ⟨w.heap.size+2,0,none⟩ (.int .i64 (n:Int))) (ccre1 h4 hm hp hX hTB (by rw[old 1 (by omega)];exact q1) (by rw[old 2 (by omega)];exact q2) (h.newI (by omega))) (λw' hq=>by
  obtain⟨n,w1,⟨V',A',fl',pages',p1,p2,p3⟩,p4,p5,rfl⟩:=hq;rw[Below.heap_setCell _ _ _ _ (by show ¬W3.heap.size=w.heap.size+2;omega)];exact h4.stay p2 (heap_alloc_new W3 _) (by decide)))
 have HL:=hide (λ(w1:World) (n:Nat) (hq:crPost (W3.alloc (.cells #[.int .i64 0] 26)) B D Gp V K pk m A fl pages n w1) (p4:w1.heap[w.heap.size+2]?=some (.cells #[.int .i64 0] 3 (0,0))) (p5:∀V',St2 (W3.alloc (.cells #[.int .i64 0] 26)) w1 B V V'->¬V'.b.vo.ownBlock=some (w.heap.size+2))=>(show crPost w B D Gp V K pk m A fl pages n ((w1.setCell ⟨w.heap.size+2,0,none⟩ (.int .i64 (n:Int))).setCell ⟨W3.heap.size,0,none⟩ (.int .i64 0))∧((w1.setCell ⟨w.heap.size+2,0,none⟩ (.int .i64 (n:Int))).setCell ⟨W3.heap.size,0,none⟩ (.int .i64 0)).cell? ⟨w.heap.size+2,0,none⟩=some (.int .i64 (n:Int)) from by
  obtain⟨V',A',fl',pages',p1,p2,p3⟩:=hq;have g1:=set_grown w1 (w.heap.size+2) 0 (.int .i64 (n:Int));have t1:=p1.setI p4 (p5 V' p2) g1;have s1:=(s4.trans p2).other g1 (by omega) h.lo;have b1:(w1.setCell ⟨w.heap.size+2,0,none⟩ (.int .i64 (n:Int))).heap[W3.heap.size]?=some (.cells #[.int .i64 0] 26 (0,0)):=by
   rw[Below.heap_setCell _ _ _ _ (by show ¬W3.heap.size=w.heap.size+2;omega)];exact h4.stay p2 (heap_alloc_new W3 _) (by decide)
  have g2:=set_grown (w1.setCell ⟨w.heap.size+2,0,none⟩ (.int .i64 (n:Int))) W3.heap.size 0 (.int .i64 0);refine⟨⟨V',A',fl',pages',t1.other g2 ⟨_,b1⟩ (by decide),s1.other g2 (by omega) h.lo,p3⟩,?_⟩;have p6:((w1.setCell ⟨w.heap.size+2,0,none⟩ (.int .i64 (n:Int))).setCell ⟨W3.heap.size,0,none⟩ (.int .i64 0)).heap[w.heap.size+2]?=some (.cells #[.int .i64 (n:Int)] 3 (0,0)):=by
   rw[Below.heap_setCell _ _ _ _ (by show ¬w.heap.size+2=W3.heap.size;omega),set_blk p4];rfl
  simp[World.cell?,p6]))
 rw[<-hW3] at HC HL;subst hW3;clear h hX hb3 hs3 hb4 q0 q1 q2 old h4 s4 hen hTB;go_enter func8,ntmps8;go_wp2_with fail
 refine HC.out.mono ?_;rintro e w5⟨rfl,w4,⟨n,w1,p1,p2,p3,hw4⟩,hw5⟩;have HE:Hid (crPost w B D Gp V K pk m A fl pages n w5):=by rw[hw5,hw4];exact(HL.out w1 n p1 p2 p3).1
 have hcb:w5.cell? ⟨w.heap.size+2,0,none⟩=some (.int .i64 (n:Int)):=by rw[hw5,hw4];exact(HL.out w1 n p1 p2 p3).2
 clear p1 p2 p3 hw4 hw5 HC HL;go_wp2
 go_ret2
 exact⟨n,rfl,HE.out⟩
theorem BS_at {P:ByteArray->ByteArray->α->Prop}:∀(l:List (ByteArray×α)) (hi:ByteArray),BS P l hi->∀(i:Nat) (h:i<l.length),P l[i].1 (nxt (l.drop (i+1)) hi) l[i].2
 | [],_,_,_,h=>absurd h (by simp)
 | p::r,hi,hb,0,_=>hb.2.1
 | p::r,hi,hb,i+1,h=>BS_at r hi hb.2.2.2 i (by simpa using h)
theorem BS_ok {P:ByteArray->ByteArray->α->Prop}{l:List (ByteArray×α)}(hb:BS P l hi)(i:Nat)(h:i+1<l.length):okK l[i+1].1:=by
 cases l with
 | nil=>simp at h
 | cons p r=>exact hb.2.2.1 _ (by simp)
theorem nxt_at (l:List (ByteArray×α))(hi:ByteArray)(i:Nat)(h:i<l.length):nxt (l.drop i) hi=l[i].1:=by
 rw[List.drop_eq_getElem_cons h];rfl
theorem inline_val {i:It}(h:okI i)(hp:i.pgs=[]):(restB (cellI i)).extract 1 (restB (cellI i)).size=i.val:=by
 obtain⟨-,-,-,e⟩:=cellI_key h;have e2:restI i=⟨#[0]⟩++i.val:=by unfold restI;rw[hp]
 rw[e,e2];exact ex_end ⟨#[0]⟩ i.val
theorem cvalueOf (h:TS w B D Gp V K pk m A fl pages)(hm:m<=40000)(ht:TB w tb Gp root)(i:It)(hi:okI i)(hs:∀p∈i.pgs,p<pages)(hA:∀q∈nodI i,A q.1=q.2):Calls prog 139 #[(.pointer (some ⟨tb,0,none⟩)),.string (cellI i)] w λe w'=>e=.returned (.string i.val)∧∃V',TS w' B D Gp V' K pk m A fl pages∧St2 w w' B V V':=by
 have hpg:=h.flsmall.2;by_cases hp:i.pgs=[]
 ·obtain⟨⟨a1,a2⟩,a3,a4⟩:=inline_cell hi hp;have HI:=hide (cisInPages (cellI i) w a1 (by omega) a3);rw[a4] at HI;have HR:=hide (crestOf (cellI i) w a1 (by omega));have HV:=hide (inline_val hi hp);have H0:=hide (show ∃V',TS w B D Gp V' K pk m A fl pages∧St2 w w B V V' from⟨V,h,St2.refl _ _ _⟩);have a5:(restB (cellI i)).size<=240:=by
   have:(restB (cellI i)).size=(cellI i).size-kS (cellI i):=by unfold restB;rw[ByteArray.size_extract];omega
   omega
  generalize restB (cellI i)=r at *;have a6:(1:Int)<=(r.size:Int):=by omega
  clear h ht hi hs hA hp a1 a4;go_enter func139,ntmps139;go_wp2_with fail
  refine HI.out.mono ?_;rintro e w1⟨rfl,rfl⟩;go_wp2_with fail
  refine HR.out.mono ?_;rintro e w2⟨rfl,rfl⟩;go_wp2_with fail
  go_ret;exact⟨by rw[HV.out];rfl,H0.out⟩
 ·obtain⟨⟨f1,f2,f3⟩,f4,f5,f6,f7,f8,f9⟩:=long_cell hi hp (λp hp=>by have:=hs p hp;omega);have HI:=hide (cisInPages (cellI i) w f1 (by omega) (by omega));rw[f5] at HI;have HF:=hide (cfollow h hm ht i hi hp hs hA);clear h ht hi hs hA hp f1 f2 f3 f4 f5 f6 f7 f8 f9;go_enter func139,ntmps139;go_wp2_with fail
  refine HI.out.mono ?_;rintro e w1⟨rfl,rfl⟩;go_wp2_with fail
  refine HF.out.mono ?_;rintro e w2⟨s,rfl,V2,q1,q2,q3,q4⟩;have HQ:=hide (And.intro q1 q2);clear q1 q2 q3 q4 HF;go_wp2_with fail
  go_ret;exact⟨rfl,V2,HQ.out.1,HQ.out.2⟩
def GetR (es:List Ent)(k v:ByteArray)(is:Bool):Prop:=∃p s,((es=p++s∧is=false∧v=⟨#[]⟩)∨(es=p++(k,v)::s∧is=true))∧(∀e∈p,klt e.1 k=true)∧∀e∈s,klt k e.1=true
def rdPost (w:World)(B D Gp:Nat)(V:PV)(K:Pgs)(pk m:Nat)(A:Nat->PgV)(fl:List Nat)(pages:Nat)(w':World):Prop:=∃V',TS w' B D Gp V' K pk m A fl pages∧St2 w w' B V V'
theorem ctget [Oth](h:TS w B D Gp V K pk m A fl pages)(hm:m<=40000){t:T d}(hT:Tr A fl pages os t es)(ht:TB w tb Gp (numT d t))(k:ByteArray)(hd:d<=20):Calls prog 84 #[(.pointer (some ⟨tb,0,none⟩)),.string k] w λe w'=>∃(v:ByteArray) (is:Bool),e=.returned (.tuple #[.string v,.bool is])∧GetR es k v is∧rdPost w B D Gp V K pk m A fl pages w':=by
 have HPA:=hide (cpath h (by omega) hT ht k (by omega));have HT:=hide (And.intro h ht);clear h hT ht;go_enter func84,ntmps84;go_wp2_with fail
 refine HPA.out.mono ?_;rintro e w1⟨V1,c,x,l,s,rfl,k1,k2,hW,hdep,hrow⟩;obtain⟨l0,z,rfl,hpm,hnz,hl0,hlk,hlo,hhd,hzs⟩:=hW.leaf k1;obtain⟨g,cap,rfl,hcl⟩:=rowP_last hrow;have hlen:l0.length=d:=by
  have q:=congrArg List.length hl0;rw[List.length_map] at q;have:=nvs_len c (numT 0 x);omega
 have hbx:Bnd 0 c.lo c.hi x:=hW.sx.wf.at;have hsort:=(keys_sort 0 hbx).2.1;have hcx:(cellsT 0 x).length<=1000:=used_few hW.ok.high;have HLA:=hide (clastN g 0 l0.length cap z.p w1 (by omega) hcl);have HFI:=hide (cfindN (NDb.nr hnz) (leaf_cells hbx) hcx (by show((cellsT 0 x).map keyB).Pairwise _;rw[leaf_keys hbx];exact hsort) k);have e1:(nvT 0 x c.lo c.hi 0).cells.map keyB=x.its.map (·.key):=leaf_keys hbx;rw[e1] at HFI;obtain⟨a,b,hab,hpos,ha,hb,hpre,hsuf,hkb⟩:=hW.about;rw[hpos] at HFI;have hent:es=c.pre++entI x.its++c.suf:=hW.sx.wf.ent.symm;have HQ:=hide (show(∀e∈c.pre++entI a,klt e.1 k=true)∧(∀e∈entI b++c.suf,klt k e.1=true) from⟨hpre,hsuf⟩);rcases hab with⟨hits,hhas⟩ | ⟨j,hjk,hits,hhas⟩
 ·rw[hhas] at HFI;have HE:Hid (∀Y,Below w1.heap.size w1 Y->GetR es k ⟨#[]⟩ false∧rdPost w B D Gp V K pk m A fl pages Y):=λY hY=>⟨⟨c.pre++entI a,entI b++c.suf,.inl ⟨by rw[hent,hits];simp[entI],rfl,rfl⟩,HQ.out.1,HQ.out.2⟩,V1,(k1.below hY).1,k2.trans (k1.below hY).2⟩
  clear k1 k2 hW hdep hrow hpm hnz hl0 hlk hlo hhd hzs hlen hbx hsort hcx e1 hpos ha hb hpre hsuf hkb hcl HPA hent hits hhas HT;go_wp2_with fail
  refine HLA.out.mono ?_;rintro e w2⟨rfl,hw⟩;rw[hw];clear hw;go_wp2_with fail
  refine HFI.out.mono ?_;rintro e w3⟨rfl,hb3⟩;have HE2:=hide (HE.out _ hb3);clear hb3;go_wp2_with fail
  refine bodyPost_ret (v:=.tuple #[.string ⟨#[]⟩,.bool false]) (by simp[results,results84,go_sem, *]) rfl ?_;exact⟨⟨#[]⟩,false,rfl,HE2.out.1,HE2.out.2⟩
 ·rw[hhas] at HFI;have hx:x=(⟨x.num,x.link,a++j::b⟩:Lf):=by rw[<-hits]
  have hbi:BI c.lo x.its c.hi:=hbx;have hj:okI j:=(BI_mem hbi j (by rw[hits];simp)).1;have hsx:=hW.sx;rw[hx] at hsx;have hcells:cellsT 0 x=(a++j::b).map cellI:=by show x.its.map cellI=_;rw[hits]
  have hlt:a.length<(cellsT 0 x).length:=by rw[hcells];simp
  have htx:tx (cellsT 0 x) a.length=cellI j:=by
   rw[hcells,tx_map cellI (by simp)];simp
  have hA:∀q∈nodI j,A q.1=q.2:=λq hq=>hsx.rep q (by
   show q∈(a++j::b).flatMap nodI++c.nod x.num;simp[List.flatMap_append,hq])
  have hs:∀p∈j.pgs,p<pages:=λp hp=>by
   rw[<-nodI_fst hj] at hp;obtain⟨q,hq,rfl⟩:=List.mem_map.1 hp;refine hsx.lt ?_;have:q.1∈(restN c (⟨x.num,x.link,a++j::b⟩:T 0)).map (·.1):=List.mem_map.2 ⟨q,by
    show q∈(a++j::b).flatMap nodI++c.nod x.num;simp[List.flatMap_append,hq],rfl⟩
   simp[this]
  obtain⟨aa,cc,nb,st⟩:=NDb.nr hnz;have HG:Hid (GetR es k j.val true):=⟨c.pre++entI a,entI b++c.suf,.inr ⟨by rw[hent,hits];simp[entI,hjk],rfl⟩,HQ.out.1,HQ.out.2⟩;have HV:=hide (λ(Y:World) (hY:Below w1.heap.size w1 Y)=>cvalueOf (k1.below hY).1 (by omega) (k1.stayTB (k1.below hY).2 (HT.out.1.stayTB k2 HT.out.2)) j hj hs hA);have HP:=hide (λ(Y:World) (hY:Below w1.heap.size w1 Y) (Z:World) (V2:PV) (q1:TS Z B D Gp V2 K pk m A fl pages) (q2:St2 Y Z B V1 V2)=>(show rdPost w B D Gp V K pk m A fl pages Z from⟨V2,q1,(k2.trans (k1.below hY).2).trans q2⟩));have HNB:=hide (And.intro nb (And.intro st (And.intro hlt htx)));clear k1 k2 hW hdep hrow hpm hnz hl0 hlk hlo hhd hzs hlen hbx hsort e1 hpos ha hb hpre hsuf hkb hcl HPA hent hhas HT hbi hsx hA hs hj nb st hx;go_wp2_with fail
  refine HLA.out.mono ?_;rintro e w2⟨rfl,hw⟩;rw[hw];clear hw;go_wp2_with fail
  refine HFI.out.mono ?_;rintro e w3⟨rfl,hb3⟩;obtain⟨nb,st,hlt,htx⟩:=HNB.out;obtain⟨n0,n1,n2,n3,n4,n5,n6,n7,n8⟩:=nb.cells;have n2':w3.cell? ⟨z.p,2,none⟩=some (.slice aa (cellsT 0 x).length cc):=(hb3.cell (p:=⟨z.p,2,none⟩) n8).trans n2;rcases st with st | ⟨g2,off,cur,rfl,hg2,hc2⟩
  ·have st:cellsT 0 x=[]:=st;rw[st] at hlt;exact absurd hlt (by simp)
  ·have ce:w1.cell? ⟨g2,off+a.length,none⟩=some (.string (cellI j)):=by
    simp only[World.cell?,hg2];rw[hc2 a.length hlt];show some (Value.string (tx (cellsT 0 x) a.length))=_;rw[htx]
   have ce':w3.cell? ⟨g2,off+a.length,none⟩=some (.string (cellI j)):=(hb3.cell (p:=⟨g2,off+a.length,none⟩) (gl hg2)).trans ce;have HV2:=hide (HV.out w3 hb3);have HP2:=hide (HP.out w3 hb3);have i0:(0:Int)<=(a.length:Int):=by omega
   have i2:(a.length:Int)<((cellsT 0 x).length:Int):=by omega
   generalize (cellsT 0 x).length=cn at *;generalize cellI j=cj at *;clear nb n0 n1 n2 n3 n4 n5 n6 n7 n8 hc2 hg2 ce hb3 HV HP HNB hlt htx hcx;go_wp2_with fail
   refine HV2.out.mono ?_;rintro e w4⟨rfl,V4,q1,q2⟩;have HR:=hide (HP2.out w4 V4 q1 q2);clear q1 q2 HV2 HP2;go_wp2_with fail
   refine bodyPost_ret (v:=.tuple #[.string j.val,.bool true]) (by simp[results,results84,go_sem, *]) rfl ?_;exact⟨j.val,true,rfl,HG.out,HR.out⟩
theorem rdPost.other (h:TS w B D Gp V K pk m A fl pages)(hp:rdPost w B D Gp V K pk m A fl pages w1)(hg:w1.grownBy w2 (some c))(hc:isC w1 c t)(ht:tyQ t=false)(hl:w.heap.size<=c):rdPost w B D Gp V K pk m A fl pages w2:=by
 obtain⟨V',q1,q2⟩:=hp;exact⟨V',q1.other hg hc ht,q2.other hg hl h.lo⟩
theorem rdPost.down (h:TS w B D Gp V K pk m A fl pages)(hX:Below w.heap.size w X)(hp:rdPost X B D Gp V K pk m A fl pages w1):rdPost w B D Gp V K pk m A fl pages w1:=by
 obtain⟨V',q1,q2⟩:=hp;exact⟨V',q1,(h.below hX).2.trans q2⟩
theorem rdPost.below {Y:World}(hp:rdPost w B D Gp V K pk m A fl pages X)(hb:Below X.heap.size X Y):rdPost w B D Gp V K pk m A fl pages Y:=by
 obtain⟨V',q1,q2⟩:=hp;exact⟨V',(q1.below hb).1,q2.trans (q1.below hb).2⟩
theorem rdPost.stay (h:TS X B D Gp V K pk m A fl pages)(hp:rdPost X B D Gp V K pk m A fl pages w1)(hc:X.heap[c]?=some (.cells cs t (0,0)))(ht:tyQ t=false):w1.heap[c]?=some (.cells cs t (0,0)):=by
 obtain⟨V',q1,q2⟩:=hp;exact h.stay q2 hc ht
theorem cget1 [Oth]{b3:Nat}{t:T d}(h:TS X B D Gp V K pk m A fl pages)(hm:m<=40000)(hT:Tr A fl pages os t es)(ht:TB X tb Gp (numT d t))(k:ByteArray)(hd:d<=20)(c0:X.cell? ⟨b0,0,none⟩=some (.pointer (some ⟨tb,0,none⟩)))(c1:X.cell? ⟨b1,0,none⟩=some (.string k))(c2:X.heap[b2]?=some (.cells #[.string ⟨#[]⟩] 9 (0,0)))(c3:X.heap[b3]?=some (.cells #[.bool false] 4 (0,0)))(hne:¬b3=b2):Calls prog 83 #[(.pointer (some ⟨b0,0,none⟩)),(.pointer (some ⟨b1,0,none⟩)),(.pointer (some ⟨b2,0,none⟩)),(.pointer (some ⟨b3,0,none⟩))] X λe w'=>e=.returned (.tuple #[])∧∃(v:ByteArray) (is:Bool) (w1:World),GetR es k v is∧rdPost X B D Gp V K pk m A fl pages w1∧w1.heap[b2]?=some (.cells #[.string ⟨#[]⟩] 9 (0,0))∧w1.heap[b3]?=some (.cells #[.bool false] 4 (0,0))∧w'=(w1.setCell ⟨b2,0,none⟩ (.string v)).setCell ⟨b3,0,none⟩ (.bool is):=by
 have HP:=hide (ctget h hm hT ht k hd);have HS:=hide (λ(w1:World) (hp:rdPost X B D Gp V K pk m A fl pages w1)=>And.intro (hp.stay h c2 (by decide)) (hp.stay h c3 (by decide)));clear h hT ht c2 c3;go_enter func83,ntmps83;go_wp2_with fail
 refine HP.out.mono ?_;rintro e w1⟨v,is,rfl,hg,hp⟩;obtain⟨hb,hb'⟩:=HS.out _ hp;have e0:w1.cell? ⟨b2,0,none⟩=some (.string ⟨#[]⟩):=by simp[World.cell?,hb]
 have e1:w1.frozen? ⟨b2,0,none⟩=false:=by simp[World.frozen?,hb]
 have e2:w1.cell? ⟨b3,0,none⟩=some (.bool false):=by simp[World.cell?,hb']
 have e3:w1.frozen? ⟨b3,0,none⟩=false:=by simp[World.frozen?,hb']
 have hne':¬b2=b3:=λe=>hne e.symm
 have HE:=hide (And.intro hg (And.intro hp (And.intro hb hb')));clear hp hb hb' hg;go_wp2;go_end0;exact⟨rfl,v,is,w1,HE.out.1,HE.out.2.1,HE.out.2.2.1,HE.out.2.2.2,rfl⟩
theorem cGet [Oth]{t:T d}(h:TS w B D Gp V K pk m A fl pages)(hm:m<=40000)(hT:Tr A fl pages os t es)(ht:TB w tb Gp (numT d t))(k:ByteArray)(hk:okK k)(hd:d<=20):Calls prog 39 #[(.pointer (some ⟨tb,0,none⟩)),.string k] w λe w'=>∃(v:ByteArray) (is:Bool),e=.returned (.tuple #[.string v,.bool is,.int .i64 0])∧GetR es k v is∧rdPost w B D Gp V K pk m A fl pages w':=by
 have hmf:∀(fn:Fn) (first cap:Array Value) (w:World),(Instr.makeFunc fn first cap).run prog w=.ok (.func fn first cap) w:=λ_ _ _ _=>rfl
 have hen:∀args w,(callFunc 83 args).run prog w=.ok (.enter 83 args) w:=enters_of func83 (by kernel_rfl) rfl;have HM:=hide (λ(Y:World)=>cmayBe k Y (by have:=hk.2;omega));have hkd:decide (0<k.size∧k.size<=200)=true:=decide_eq_true hk;rw[hkd] at HM;obtain⟨W4,hW4⟩:∃W4,(((w.alloc (.cells #[(.pointer (some ⟨tb,0,none⟩))] 38)).alloc (.cells #[.string k] 9)).alloc (.cells #[.string ⟨#[]⟩] 9)).alloc (.cells #[.bool false] 4)=W4:=⟨_,rfl⟩;have hb4:Below w.heap.size w W4:=by rw[<-hW4];exact((((Below.refl _ _).alloc (Nat.le_refl _) _).alloc (by simp) _).alloc (by simp;omega) _).alloc (by simp;omega) _
 have hs4:W4.heap.size=w.heap.size+4:=by rw[<-hW4];simp
 have hb5:Below w.heap.size w (W4.alloc (.cells #[.int .i64 0] 26)):=hb4.alloc (by omega) _;have q0:W4.heap[w.heap.size]?=some (.cells #[(.pointer (some ⟨tb,0,none⟩))] 38 (0,0)):=by
  rw[<-hW4,heap_alloc_old _ _ (by simp;omega),heap_alloc_old _ _ (by simp;omega),heap_alloc_old _ _ (by simp)];exact heap_alloc_new w _
 have q1:W4.heap[w.heap.size+1]?=some (.cells #[.string k] 9 (0,0)):=by
  rw[<-hW4,heap_alloc_old _ _ (by first | (simp;done) | (simp;omega)),heap_alloc_old _ _ (by simp)];have:=heap_alloc_new (w.alloc (.cells #[(.pointer (some ⟨tb,0,none⟩))] 38)) (.cells #[.string k] 9);simpa using this
 have q2:W4.heap[w.heap.size+1+1]?=some (.cells #[.string ⟨#[]⟩] 9 (0,0)):=by
  rw[<-hW4,heap_alloc_old _ _ (by simp)];have:=heap_alloc_new ((w.alloc (.cells #[(.pointer (some ⟨tb,0,none⟩))] 38)).alloc (.cells #[.string k] 9)) (.cells #[.string ⟨#[]⟩] 9);simpa using this
 have q3:W4.heap[w.heap.size+1+1+1]?=some (.cells #[.bool false] 4 (0,0)):=by
  rw[<-hW4];have:=heap_alloc_new (((w.alloc (.cells #[(.pointer (some ⟨tb,0,none⟩))] 38)).alloc (.cells #[.string k] 9)).alloc (.cells #[.string ⟨#[]⟩] 9)) (.cells #[.bool false] 4);simpa using this
 have old:∀j,j<W4.heap.size->(W4.alloc (.cells #[.int .i64 0] 26)).heap[j]?=W4.heap[j]?:=λj hj=>heap_alloc_old _ _ hj
 obtain⟨h5,s5⟩:=h.below hb5;have HC:=hide (ccaught 83 hen #[(.pointer (some ⟨w.heap.size,0,none⟩)),(.pointer (some ⟨w.heap.size+1,0,none⟩)),(.pointer (some ⟨w.heap.size+1+1,0,none⟩)),(.pointer (some ⟨w.heap.size+1+1+1,0,none⟩))] W4 tb Gp (numT d t) (h.stayTB (h.below hb4).2 ht) (λw'=>∃(v:ByteArray) (is:Bool) (w1:World),GetR es k v is∧rdPost (W4.alloc (.cells #[.int .i64 0] 26)) B D Gp V K pk m A fl pages w1∧w1.heap[w.heap.size+1+1]?=some (.cells #[.string ⟨#[]⟩] 9 (0,0))∧w1.heap[w.heap.size+1+1+1]?=some (.cells #[.bool false] 4 (0,0))∧w'=(w1.setCell ⟨w.heap.size+1+1,0,none⟩ (.string v)).setCell ⟨w.heap.size+1+1+1,0,none⟩ (.bool is)) (cget1 h5 hm hT (h.stayTB s5 ht) k hd (by simp[World.cell?,old w.heap.size (by omega),q0]) (by simp[World.cell?,old (w.heap.size+1) (by omega),q1]) (by rw[old _ (by omega),q2]) (by rw[old _ (by omega),q3]) (by omega)) (λw' hp=>by
  obtain⟨v,is,w1,p0,p1,p2,p3,rfl⟩:=hp;rw[Below.heap_setCell _ _ _ _ (by show ¬W4.heap.size=w.heap.size+1+1+1;omega),Below.heap_setCell _ _ _ _ (by show ¬W4.heap.size=w.heap.size+1+1;omega)];exact p1.stay h5 (heap_alloc_new W4 _) (by decide)))
 have HL:=hide (λ(w1:World) (v:ByteArray) (is:Bool) (p1:rdPost (W4.alloc (.cells #[.int .i64 0] 26)) B D Gp V K pk m A fl pages w1) (p2:w1.heap[w.heap.size+1+1]?=some (.cells #[.string ⟨#[]⟩] 9 (0,0))) (p3:w1.heap[w.heap.size+1+1+1]?=some (.cells #[.bool false] 4 (0,0)))=>(show ∀Y,Y=((w1.setCell ⟨w.heap.size+1+1,0,none⟩ (.string v)).setCell ⟨w.heap.size+1+1+1,0,none⟩ (.bool is)).setCell ⟨W4.heap.size,0,none⟩ (.int .i64 0)->rdPost w B D Gp V K pk m A fl pages Y∧Y.cell? ⟨w.heap.size+1+1,0,none⟩=some (.string v)∧Y.cell? ⟨w.heap.size+1+1+1,0,none⟩=some (.bool is) from by
  rintro Y rfl;have p4:=p1.stay h5 (heap_alloc_new W4 _) (by decide);have a3:(w1.setCell ⟨w.heap.size+1+1,0,none⟩ (.string v)).heap[w.heap.size+1+1+1]?=some (.cells #[.bool false] 4 (0,0)):=by
   rw[Below.heap_setCell _ _ _ _ (by show ¬w.heap.size+1+1+1=w.heap.size+1+1;omega)];exact p3
  have a2:(w1.setCell ⟨w.heap.size+1+1,0,none⟩ (.string v)).heap[w.heap.size+1+1]?=some (.cells #[.string v] 9 (0,0)):=by rw[set_blk p2];rfl
  have a4:((w1.setCell ⟨w.heap.size+1+1,0,none⟩ (.string v)).setCell ⟨w.heap.size+1+1+1,0,none⟩ (.bool is)).heap[W4.heap.size]?=some (.cells #[.int .i64 0] 26 (0,0)):=by
   rw[Below.heap_setCell _ _ _ _ (by show ¬W4.heap.size=w.heap.size+1+1+1;omega),Below.heap_setCell _ _ _ _ (by show ¬W4.heap.size=w.heap.size+1+1;omega)];exact p4
  refine⟨(((p1.down h hb5).other h (set_grown w1 (w.heap.size+1+1) 0 (.string v)) ⟨_,p2⟩ (by decide) (by omega)).other h (set_grown _ (w.heap.size+1+1+1) 0 (.bool is)) ⟨_,a3⟩ (by decide) (by omega)).other h (set_grown _ _ _ _) ⟨_,a4⟩ (by decide) (by omega),?_,?_⟩
  ·have p5:(((w1.setCell ⟨w.heap.size+1+1,0,none⟩ (.string v)).setCell ⟨w.heap.size+1+1+1,0,none⟩ (.bool is)).setCell ⟨W4.heap.size,0,none⟩ (.int .i64 0)).heap[w.heap.size+1+1]?=some (.cells #[.string v] 9 (0,0)):=by
    rw[Below.heap_setCell _ _ _ _ (by show ¬w.heap.size+1+1=W4.heap.size;omega),Below.heap_setCell _ _ _ _ (by show ¬w.heap.size+1+1=w.heap.size+1+1+1;omega)];exact a2
   simp[World.cell?,p5]
  ·have p5:(((w1.setCell ⟨w.heap.size+1+1,0,none⟩ (.string v)).setCell ⟨w.heap.size+1+1+1,0,none⟩ (.bool is)).setCell ⟨W4.heap.size,0,none⟩ (.int .i64 0)).heap[w.heap.size+1+1+1]?=some (.cells #[.bool is] 4 (0,0)):=by
    rw[Below.heap_setCell _ _ _ _ (by show ¬w.heap.size+1+1+1=W4.heap.size;omega),set_blk a3];rfl
   simp[World.cell?,p5]))
 rw[<-hW4] at HC HL;subst hW4;clear h hT ht hk hkd hb4 hs4 hb5 q0 q1 q2 q3 old h5 s5 hen;go_enter func39,ntmps39;go_wp2_with fail
 refine(HM.out _).mono ?_;rintro e w1⟨rfl,hw⟩;rw[hw];clear hw;go_wp2_with fail
 refine HC.out.mono ?_;rintro e w5⟨rfl,w4,⟨v,is,w1,p0,p1,p2,p3,hw4⟩,hw5⟩;obtain⟨r1,r2,r3⟩:=HL.out w1 v is p1 p2 p3 w5 (by rw[hw5,hw4]);have HE:=hide (And.intro p0 r1);clear p0 p1 p2 p3 hw4 hw5 HC HL r1;go_wp2_with fail
 go_region
 all_goals
  go_wp2_with fail
  refine bodyPost_ret (v:=.tuple #[.string v,.bool is,.int .i64 0]) (by simp[results,results39,go_sem, *]) rfl ?_;exact⟨v,is,rfl,HE.out.1,HE.out.2.below ((Below.refl _ _).drew)⟩
def inR (fr ed k:ByteArray):Bool:=!klt k fr && (ed.toList.isEmpty || klt k ed)
def endK (ks:List ByteArray)(ed:ByteArray):Nat:=if ed.toList.isEmpty then ks.length else posK ks ed
section
variable {f:α->ByteArray}
theorem pos_sort:∀{l:List α} {key:ByteArray},(l.map f).Pairwise (λa b=>klt a b=true)->l.filter (λx=>klt (f x) key)=l.take (posK (l.map f) key)∧l.filter (λx=>!klt (f x) key)=l.drop (posK (l.map f) key)
 | [],key,_=>by simp[posK]
 | x :: r, key, h => by
  rw[List.map_cons,List.pairwise_cons] at h;obtain⟨h1,h2⟩:=h;obtain⟨i1,i2⟩:=pos_sort (key:=key) h2;by_cases hx:klt (f x) key=true
  ·have e:posK ((x::r).map f) key=posK (r.map f) key+1:=by
    unfold posK;rw[List.map_cons,List.countP_cons];simp[hx]
   rw[e,List.take_succ_cons,List.drop_succ_cons,<-i1,<-i2];simp[hx]
  ·have hx':klt (f x) key=false:=by simpa using hx
   have hr:∀y∈r,klt (f y) key=false:=λy hy=>by
    cases hk:klt (f y) key with
    | false=>rfl
    | true=>exact absurd (klt_tr (h1 (f y) (List.mem_map.2 ⟨y,hy,rfl⟩)) hk) hx
   have e:posK ((x::r).map f) key=0:=by
    unfold posK;rw[List.countP_eq_zero];intro y hy;rw[List.map_cons,List.mem_cons] at hy;rcases hy with rfl | hy
    ·exact hx
    ·obtain⟨z,hz,rfl⟩:=List.mem_map.1 hy;rw[hr z hz];simp
   rw[e,List.take_zero,List.drop_zero];constructor
   ·rw[List.filter_eq_nil_iff];intro y hy;rw[List.mem_cons] at hy;rcases hy with rfl | hy
    ·exact hx
    ·rw[hr y hy];simp
   ·rw[List.filter_eq_self];intro y hy;rw[List.mem_cons] at hy;rcases hy with rfl | hy
    ·rw[hx'];rfl
    ·rw[hr y hy];rfl
theorem end_sort {l:List α}(h:(l.map f).Pairwise (λa b=>klt a b=true)):l.filter (λx=>ed.toList.isEmpty || klt (f x) ed)=l.take (endK (l.map f) ed):=by
 unfold endK;cases ht:ed.toList.isEmpty with
 | true =>
  rw[if_pos rfl,List.length_map,List.take_length,List.filter_eq_self];intro y _;rfl
 | false =>
  rw[if_neg (by simp)];simpa using(pos_sort (f:=f) (key:=ed) h).1
theorem pos_le {l:List α}:posK (l.map f) key<=l.length:=by
 unfold posK;have:=List.countP_le_length (p:=λk=>klt k key) (l:=l.map f)
 rwa [List.length_map] at this
theorem leaf_range {l:List α}(h:(l.map f).Pairwise (λa b=>klt a b=true)):l.filter (λx=>inR fr ed (f x))=(l.take (endK (l.map f) ed)).drop (posK (l.map f) fr):=by
 have e1:l.filter (λx=>inR fr ed (f x))=(l.filter (λx=>ed.toList.isEmpty || klt (f x) ed)).filter (λx=>!klt (f x) fr):=by
  rw[List.filter_filter];rfl
 have hs:((l.take (endK (l.map f) ed)).map f).Pairwise (λa b=>klt a b=true):=by
  rw[List.map_take];exact h.sublist (List.take_sublist _ _)
 rw[e1,end_sort h,(pos_sort (key:=fr) hs).2];generalize endK (l.map f) ed=e;have e2:=(pos_sort (key:=fr) h).1;have e3:posK ((l.take e).map f) fr=min (posK (l.map f) fr) e:=by
  have a:posK ((l.take e).map f) fr=((l.take e).filter λx=>klt (f x) fr).length:=by
   unfold posK;rw[List.countP_map,List.countP_eq_length_filter];rfl
  rw[a];have b:=(pos_sort (key:=fr) (l:=l.take e) (f:=f) (by rw[List.map_take];exact h.sublist (List.take_sublist _ _))).1;have c:(l.take e).filter (λx=>klt (f x) fr)=(l.filter λx=>klt (f x) fr).take e:=by
   rw[e2,List.take_take];have hle:=pos_le (f:=f) (l:=l) (key:=fr);have hl:l=l.take (posK (l.map f) fr)++l.drop (posK (l.map f) fr):=(List.take_append_drop _ _).symm;have d:=(pos_sort (key:=fr) h).2;by_cases q:e<=posK (l.map f) fr
   ·rw[Nat.min_eq_left q,List.filter_eq_self];intro y hy;have:y∈l.take (posK (l.map f) fr):=(List.take_subset_take_left l q) hy;rw[<-e2,List.mem_filter] at this;exact this.2
   ·have q':posK (l.map f) fr<=e:=by omega
    rw[Nat.min_eq_right q',<-e2]
    conv=>lhs;rw[hl]
    rw[List.take_append,List.filter_append];have g1:(List.take e (l.take (posK (l.map f) fr))).filter (λx=>klt (f x) fr)=l.filter λx=>klt (f x) fr:=by
     rw[List.take_take,Nat.min_eq_right q',<-e2,List.filter_filter];simp
    have g2:(List.take (e-(l.take (posK (l.map f) fr)).length) (l.drop (posK (l.map f) fr))).filter (λx=>klt (f x) fr)=[]:=by
     rw[List.filter_eq_nil_iff];intro y hy;have:y∈l.drop (posK (l.map f) fr):=List.mem_of_mem_take hy;rw[<-d,List.mem_filter] at this;have:=this.2;simpa using this
    rw[g1,g2,List.append_nil]
  rw[c,e2,List.take_take,List.length_take];have hle:=pos_le (f:=f) (l:=l) (key:=fr);omega
 rw[e3];by_cases q:posK (l.map f) fr<=e
 ·rw[Nat.min_eq_left q]
 ·rw[Nat.min_eq_right (by omega),List.drop_eq_nil_of_le (by rw[List.length_take];omega),List.drop_eq_nil_of_le (by rw[List.length_take];omega)]
end
theorem pos_at (h:ks.Pairwise (λa b=>klt a b=true))(i:Nat)(hi:i<ks.length):(i<posK ks key->klt ks[i] key=true)∧(posK ks key<=i->klt ks[i] key=false):=by
 have hm:(ks.map id).Pairwise (λa b=>klt a b=true):=by rw[List.map_id];exact h
 obtain⟨a,b⟩:=pos_sort (f:=id) (key:=key) hm;rw[List.map_id] at a b;constructor
 ·intro q;have:ks[i]∈ks.take (posK ks key):=by
   rw[List.mem_take_iff_getElem];exact⟨i,by omega,rfl⟩
  rw[<-a,List.mem_filter] at this;exact this.2
 ·intro q;have:ks[i]∈ks.drop (posK ks key):=by
   rw[List.mem_drop_iff_getElem];exact⟨i-posK ks key,by omega,by congr 1;omega⟩
  rw[<-b,List.mem_filter] at this;simpa using this.2
theorem cnt_at (h:ks.Pairwise (λa b=>klt a b=true))(i:Nat)(hi:i<ks.length)(q:i<cntK ks key):klt key ks[i]=false:=by
 rw[<-cnt_eq h] at q;by_cases p:i<posK ks key
 ·exact klt_asy ((pos_at h i hi).1 p)
 ·by_cases hh:hasK ks key=true
  ·rw[if_pos hh] at q;have e:i=posK ks key:=by omega
   unfold hasK at hh;have hh:=of_decide_eq_true hh;rw[<-e,List.getElem?_eq_getElem hi] at hh;injection hh with hh;rw[hh,klt_irr]
  ·rw[if_neg hh] at q;omega
theorem kids_range {kids:List (ByteArray×T d)}(hb:BS (Bnd d) kids hi)(hs:(kids.tail.map (·.1)).Pairwise (λa b=>klt a b=true)):(entS kids).filter (λe=>inR fr ed e.1)=(entS ((kids.take (endK (kids.tail.map (·.1)) ed+1)).drop (cntK (kids.tail.map (·.1)) fr))).filter (λe=>inR fr ed e.1):=by
 have hlen:(kids.tail.map (·.1)).length=kids.length-1:=by rw[List.length_map,List.length_tail]
 have key:∀i (h:i+1<kids.length),(kids.tail.map (·.1))[i]'(by omega)=kids[i+1].1:=λi h=>by simp
 have ent:∀i (h:i<kids.length) (e:Ent),e∈entT d kids[i].2->klt e.1 kids[i].1=false∧ltB e.1 (nxt (kids.drop (i+1)) hi):=λi h e he=>by
  have:=ent_in d _ _ _ (BS_at kids hi hb i h) e he;exact⟨this.1,this.2.1⟩
 have low:∀i (h:i<kids.length),i<cntK (kids.tail.map (·.1)) fr->∀e∈entT d kids[i].2,inR fr ed e.1=false:=λi h q e he=>by
  have hc:cntK (kids.tail.map (·.1)) fr<=(kids.tail.map (·.1)).length:=List.countP_le_length;have h1:i+1<kids.length:=by omega
  have a:=(ent i h e he).2;rw[nxt_at kids hi (i+1) h1] at a;have b:=cnt_at hs i (by omega) q;rw[key i h1] at b;have c:klt e.1 kids[i+1].1=true:=by
   rcases a with a|a
   ·have:=(BS_ok hb i h1).1;rw[a] at this;exact absurd this (by decide)
   ·exact a
  have g:klt e.1 fr=true:=klt_le c b;unfold inR;rw[g];rfl
 have high:∀i (h:i<kids.length),endK (kids.tail.map (·.1)) ed+1<=i->∀e∈entT d kids[i].2,inR fr ed e.1=false:=λi h q e he=>by
  unfold endK at q;cases hE:ed.toList.isEmpty with
  | true =>
   rw[hE,if_pos rfl] at q;omega
  | false =>
   rw[hE,if_neg (by simp)] at q;obtain⟨j,rfl⟩:∃j,i=j+1:=⟨i-1,by omega⟩;have a:=(ent (j+1) h e he).1;have b:=(pos_at (key:=ed) hs j (by omega)).2 (by omega);rw[key j h] at b;have g:klt e.1 ed=false:=kle_tr b a;unfold inR;rw[g,hE];simp
 have none:∀l:List (ByteArray×T d),(∀p∈l,∀e∈entT d p.2,inR fr ed e.1=false)->(entS l).filter (λe=>inR fr ed e.1)=[]:=λl hl=>by
  rw[List.filter_eq_nil_iff];intro e he;obtain⟨p,hp,he⟩:=List.mem_flatMap.1 he;rw[hl p hp e he];simp
 generalize endK (kids.tail.map (·.1)) ed+1=en at *;generalize cntK (kids.tail.map (·.1)) fr=fi at *;have e1:kids=kids.take en++kids.drop en:=(List.take_append_drop _ _).symm;have e2:kids.take en=(kids.take en).take fi++(kids.take en).drop fi:=(List.take_append_drop _ _).symm
 conv=>lhs;rw[e1,entS_app,e2,entS_app]
 rw[List.filter_append,List.filter_append,none (kids.drop en) (λp hp e he=>by
  obtain⟨i,h,rfl⟩:=List.mem_drop_iff_getElem.1 hp;exact high _ _ (by omega) e he),none ((kids.take en).take fi) (λp hp e he=>by
  obtain⟨i,h,rfl⟩:=List.mem_take_iff_getElem.1 hp;rw[List.length_take] at h;have hk:i<kids.length:=by omega
  have he:e∈entT d kids[i].2:=by
   have:(kids.take en)[i]'(by rw[List.length_take];omega)=kids[i]:=List.getElem_take;rw[<-this];exact he
  exact low i hk (by omega) e he),List.append_nil,List.nil_append]
structure SeV (w:World) (sb:Nat) (fr ed:ByteArray) (most:Int) (back:Bool) (fv:Value):Prop where
 blk:w.heap[sb]?=some (.cells #[.string fr,.string ed,.int .i64 most,.bool back,fv] 114 (0,0))
theorem SeV.cells (h:SeV w sb fr ed most back fv):w.cell? ⟨sb,0,none⟩=some (.string fr)∧w.cell? ⟨sb,1,none⟩=some (.string ed)∧w.cell? ⟨sb,2,none⟩=some (.int .i64 most)∧w.cell? ⟨sb,3,none⟩=some (.bool back)∧w.cell? ⟨sb,4,none⟩=some fv∧(∀o,w.frozen? ⟨sb,o,none⟩=false)∧sb<w.heap.size:=by
 have e:=h.blk;exact⟨by simp[World.cell?,e],by simp[World.cell?,e],by simp[World.cell?,e],by simp[World.cell?,e],by simp[World.cell?,e],λo=>by simp[World.frozen?,e],(gl e)⟩
theorem SeV.below (h:SeV w sb fr ed most back fv)(hb:Below w.heap.size w w'):SeV w' sb fr ed most back fv:=⟨(hb.block sb h.cells.2.2.2.2.2.2).trans h.blk⟩
theorem NR.below (h:NR w p v)(hb:Below w.heap.size w w'):NR w' p v:=by
 obtain⟨a,c,h1,h2⟩:=h;have h1':w.heap[p]?=_:=h1;refine⟨a,c,(hb.block p (gl h1')).trans h1',?_⟩;rcases h2 with h2|⟨b,off,cur,e,hbk,hc⟩
 ·exact .inl h2
 ·exact .inr ⟨b,off,cur,e,(hb.block b (gl hbk)).trans hbk,hc⟩
theorem pos_len (ks:List ByteArray)(key:ByteArray):posK ks key<=ks.length:=List.countP_le_length
theorem cnt_len (ks:List ByteArray)(key:ByteArray):cntK ks key<=ks.length:=List.countP_le_length
theorem cwithin1 (h:NR w p v)(hk:∀c∈v.cells,kS c<=c.size∧c.size<=240)(hl:v.cells.length<=1000)(hs:(v.cells.map keyB).Pairwise λa b=>klt a b=true)(hv:v.kind=1)(hq:SeV w sb fr ed most back fv):Calls prog 143 #[(.pointer (some ⟨sb,0,none⟩)),(.pointer (some ⟨p,0,none⟩))] w λe w'=>e=.returned (.tuple #[.int .i64 (posK (v.cells.map keyB) fr:Int),.int .i64 (endK (v.cells.map keyB) ed:Int)])∧Below w.heap.size w w':=by
 have HF:=hide (λ(Y:World) (hb:Below w.heap.size w Y) (key:ByteArray)=>cfindN (h.below hb) hk hl hs key);have HQ:=hide (λ(Y:World) (hb:Below w.heap.size w Y)=>(hq.below hb).cells);have HN:=hide (λ(Y:World) (hb:Below w.heap.size w Y)=>h.below hb);obtain⟨a,c,nb,st⟩:=h;obtain⟨n0,n1,n2,n3,n4,n5,n6,n7,n8⟩:=nb.cells;rw[hv] at n0;obtain⟨c0,c1,c2,c3,c4,c5,c6⟩:=hq.cells;have hkl:(v.cells.map keyB).length=v.cells.length:=List.length_map _;unfold endK;rw[hkl];generalize v.cells.map keyB=ks at *;generalize v.cells.length=cn at *;clear hs hk nb st hq n1 n3 n4 n5 n6 n7 c2 c3 c4 c5;cases hE:ed.toList.isEmpty with
 | true =>
  rw[if_pos rfl];go_enter func143,ntmps143;go_wp2_with fail
  refine(HF.out w (Below.refl _ _) fr).mono ?_;rintro e w1⟨rfl,hb⟩;have HB:=hide hb;clear hb;go_wp2_with fail
  refine bodyPost_ret (v:=.tuple #[.int .i64 (posK ks fr:Int),.int .i64 (cn:Int)]) (by simp[results,results143,go_sem, *]) rfl ?_;exact⟨rfl,HB.out⟩
 | false =>
  rw[if_neg (by simp)];go_enter func143,ntmps143;go_wp2_with fail
  refine(HF.out w (Below.refl _ _) ed).mono ?_;rintro e w1⟨rfl,hb⟩;obtain⟨d0,d1,d2,d3,d4,d5,d6⟩:=HQ.out w1 hb;obtain⟨a',c',nb',st'⟩:=HN.out w1 hb;have m0:=nb'.cells.1;rw[hv] at m0;have HB:=hide hb;have HF1:=hide (HF.out w1 hb fr);clear hb nb' st' d2 d3 d4 d5;go_wp2_with fail
  refine HF1.out.mono ?_;rintro e w2⟨rfl,hb2⟩;have HB2:=hide (HB.out.trans (hb2.mono HB.out.size));clear hb2;go_wp2_with fail
  refine bodyPost_ret (v:=.tuple #[.int .i64 (posK ks fr:Int),.int .i64 (posK ks ed:Int)]) (by simp[results,results143,go_sem, *]) rfl ?_;exact⟨rfl,HB2.out⟩
end Go.Proofs.YtiaibgfhigdgdaaGreat
