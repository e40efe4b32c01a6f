/- a part -/
import Derived.Test.YtiaibgfhigdgdaaGreatS9
set_option maxRecDepth 100000
set_option maxHeartbeats 8000000
namespace Go.Proofs.YtiaibgfhigdgdaaGreat
open Go
variable {d n pages p num r c id B D Gp m tb root base:Nat}{A A':Nat→PgV}{fl os os':List Nat}{es:List Ent}{k ka kb:ByteArray}{i:It}{l:List ByteArray}{v:Value}{Q:Exit→Act→World→Prop}{ops:Array Oper}{a0:Act}{wc w w':World}{t0 t1 t2 t3 t4 t5 t6 t7 t:TypeId}{p0 p1 p2 p3 p4 p5 p6 p7:String}{f0 f1 f2 f3 f4 f5 f6 f7:Array Edge}{V V':PV}{K:Pgs}{a:Option Addr}
def restN (c:Cx d)(x:T d):List (Nat×PgV):=(nodT d x).tail++c.nod (numT d x)
def updA (A:Nat→PgV)(n:Nat)(v:PgV):Nat→PgV:=fun x=>if x=n then v else A x
theorem updA_at (A:Nat→PgV)(n:Nat)(v:PgV):updA A n v n=v:=if_pos rfl
theorem updA_ne (A:Nat→PgV){x:Nat}(v:PgV)(h:¬x=n):updA A n v x=A x:=if_neg h
structure Sx (A:Nat→PgV) (fl:List Nat) (pages:Nat) (os:List Nat) {d:Nat} (c:Cx d) (x:T d) (es:List Ent):Prop where
 wf:WfB c x es
 rep:∀p∈restN c x,A p.1=p.2
 perm:(0::(fl++(numT d x::((restN c x).map (·.1)++os)))).Perm (List.range pages)
theorem Sx.nd {c:Cx d}{x:T d}(h:Sx A fl pages os c x es):(0::(fl++(numT d x::((restN c x).map (·.1)++os)))).Nodup:=h.perm.nodup_iff.2 List.nodup_range
theorem Sx.lt {c:Cx d}{x:T d}(h:Sx A fl pages os c x es)(hn:n∈(0::(fl++(numT d x::((restN c x).map (·.1)++os))))):n<pages:=List.mem_range.1 (h.perm.mem_iff.1 hn)
theorem Sx.own {c:Cx d}{x:T d}(h:Sx A fl pages os c x es):numT d x<pages∧0<numT d x:=by
 refine⟨h.lt (by simp),?_⟩;have:=h.nd;rw[List.nodup_cons] at this;have h1:¬numT d x=0:=fun e=>this.1 (by rw[←e];simp)
 omega
theorem Sx.ne {c:Cx d}{x:T d}(h:Sx A fl pages os c x es){p:Nat×PgV}(hp:p∈restN c x):¬p.1=numT d x∧¬p.1=0∧(∀o∈os,¬p.1=o)∧(∀f∈fl,¬p.1=f)∧p.1<pages:=by
 have hm:p.1∈(restN c x).map (·.1):=List.mem_map_of_mem hp;have hn:=h.nd;rw[List.nodup_cons,List.nodup_append,List.nodup_cons,List.nodup_append] at hn;obtain⟨h0,h1,⟨h2,h3,h4,h5⟩,h6⟩:=hn;refine⟨fun e=>h2 (List.mem_append_left _ (e ▸ hm)),fun e=>h0 ?_,fun o ho e=>h5 p.1 hm o ho e,fun f hf e=>h6 f hf p.1 (List.mem_cons_of_mem _ (List.mem_append_left _ hm)) e.symm,h.lt (by simp;right;right;right;left;exact⟨p.2,hp⟩)⟩;rw[←e];exact List.mem_append_right _ (List.mem_cons_of_mem _ (List.mem_append_left _ hm))
theorem Sx.os_ne {c:Cx d}{x:T d}(h:Sx A fl pages os c x es){o:Nat}(ho:o∈os):¬o=numT d x∧¬o=0∧¬o∈fl∧o<pages:=by
 have hn:=h.nd;rw[List.nodup_cons,List.nodup_append,List.nodup_cons,List.nodup_append] at hn;obtain⟨h0,h1,⟨h2,h3,h4,h5⟩,h6⟩:=hn;refine⟨fun e=>h2 (List.mem_append_right _ (e ▸ ho)),fun e=>h0 ?_,fun f=>h6 o f o (List.mem_cons_of_mem _ (List.mem_append_right _ ho)) rfl,h.lt (by simp[ho])⟩;rw[←e];exact List.mem_append_right _ (List.mem_cons_of_mem _ (List.mem_append_right _ ho))
theorem Sx.congr {c:Cx d}{x:T d}(h:Sx A fl pages os c x es)(hA:∀p∈restN c x,A' p.1=A p.1):Sx A' fl pages os c x es:=⟨h.wf,fun p hp=>by rw[hA p hp];exact h.rep p hp,h.perm⟩
theorem Sx.upd {c:Cx d}{x:T d}(h:Sx A fl pages os c x es)(hn:n=0∨n∈fl∨n∈os∨n=numT d x)(v:PgV):Sx (updA A n v) fl pages os c x es:=h.congr fun p hp=>by
 obtain⟨h1,h2,h3,h4,-⟩:=h.ne hp;refine updA_ne _ _ (fun e=>?_);rcases hn with hn|hn|hn|hn
 ·exact h2 (e.trans hn)
 ·exact h4 n hn e
 ·exact h3 n hn e
 ·exact h1 (e.trans hn)
theorem spl_nod (d m r:Nat)(x:T d):(nodT d (splT d m r x).1).tail++(nodT d (splT d m r x).2.2).tail=(nodT d x).tail:=by
 cases d with
 | zero=>show(x.its.take m).flatMap nodI++(x.its.drop m).flatMap nodI=x.its.flatMap nodI;rw[←List.flatMap_append,List.take_append_drop]
 | succ d=>rw[nodT_s,nodT_s,nodT_s,←nodS_app];simp[splT]
theorem mrg_nod (d:Nat)(a b:T d):(nodT d (mrgT d a b)).tail=(nodT d a).tail++(nodT d b).tail:=by
 cases d with
 | zero=>show(a.its++b.its).flatMap nodI=_;rw[List.flatMap_append];rfl
 | succ d=>rw[nodT_s,nodT_s,nodT_s,←nodS_app];rfl
theorem restN_up {s1 s2:List (ByteArray×T d)}{c:Cx (d+1)}{x:T d}:restN (.up num s1 k s2 c) x=(nodT d x).tail++((num,frP s1 k s2 (numT d x))::(nodS s1++nodS s2)++c.nod num):=rfl
theorem restN_s {s:List (ByteArray×T d)}{c:Cx (d+1)}:restN c (⟨num,s⟩:Inn (T d))=nodS s++c.nod num:=rfl
section
variable {s1 s2:List (ByteArray×T d)}{c:Cx (d+1)}{x:T d}
theorem Sx.kids {m:List (ByteArray×T d)}(h:Sx A fl pages os (.up num s1 k s2 c) x es){t1 t2:List (ByteArray×T d)}(hw:WfB c (⟨num,t1++m++t2⟩:Inn (T d)) es)(hrep:∀p∈nodS t1++nodS m++nodS t2++c.nod num,A' p.1=p.2)(hp:((nodS t1++nodS m++nodS t2).map (·.1)++os').Perm (((nodT d x++(nodS s1++nodS s2)).map (·.1))++os)):Sx A' fl pages os' c (⟨num,t1++m++t2⟩:Inn (T d)) es:=by
 have e1:restN c (⟨num,t1++m++t2⟩:Inn (T d))=nodS t1++nodS m++nodS t2++c.nod num:=by rw[restN_s,nodS_app,nodS_app]
 refine⟨hw,by rw[e1];exact hrep,?_⟩;refine List.Perm.trans ?_ h.perm;refine List.Perm.cons _ (List.Perm.append_left _ ?_);rw[e1,restN_up];show(num::(((nodS t1++nodS m++nodS t2)++c.nod num).map (·.1)++os')).Perm (numT d x::(((nodT d x).tail++((num,frP s1 k s2 (numT d x))::(nodS s1++nodS s2)++c.nod num)).map (·.1)++os));have e2:(numT d x::(((nodT d x).tail++((num,frP s1 k s2 (numT d x))::(nodS s1++nodS s2)++c.nod num)).map (·.1)++os))=(nodT d x).map (·.1)++(num::((nodS s1++nodS s2).map (·.1)++((c.nod num).map (·.1)++os))):=by
  rw[nodT_eq];simp
 rw[e2];refine List.Perm.trans ?_ List.perm_middle.symm;refine List.Perm.cons _ ?_;have q1:(((nodS t1++nodS m++nodS t2)++c.nod num).map (·.1)++os').Perm ((c.nod num).map (·.1)++((nodS t1++nodS m++nodS t2).map (·.1)++os')):=by
  rw[List.map_append,List.append_assoc];have:=List.perm_append_comm (l₁:=(nodS t1++nodS m++nodS t2).map (·.1)) (l₂:=(c.nod num).map (·.1));rw[←List.append_assoc,←List.append_assoc];exact this.append_right _
 have q2:((nodT d x).map (·.1)++((nodS s1++nodS s2).map (·.1)++((c.nod num).map (·.1)++os))).Perm ((c.nod num).map (·.1)++(((nodT d x++(nodS s1++nodS s2)).map (·.1))++os)):=by
  have:=List.perm_append_comm (l₁:=(nodT d x++(nodS s1++nodS s2)).map (·.1)) (l₂:=(c.nod num).map (·.1));have:=this.append_right os;simpa using this
 exact q1.trans ((hp.append_left _).trans q2.symm)
theorem Sx.up (h:Sx A fl pages os (.up num s1 k s2 c) x es)(hA:A (numT d x)=pgT d x):Sx A fl pages os c (frm num s1 k x s2) es:=by
 have e:frm num s1 k x s2=(⟨num,s1++[(k,x)]++s2⟩:Inn (T d)):=by simp[frm]
 rw[e];have e1:nodS [(k,x)]=nodT d x:=by simp[nodS]
 refine h.kids (t1:=s1) (t2:=s2) (m:=[(k,x)]) (by rw[←e];exact h.wf.up) (fun p hp=>?_) ?_
 ·rw[e1] at hp;simp only[List.mem_append] at hp;rw[nodT_eq,List.mem_cons] at hp;rcases hp with((hp | hp | hp) | hp) | hp
  ·exact h.rep p (by rw[restN_up];simp[hp])
  ·rw[hp];exact hA
  ·exact h.rep p (by rw[restN_up];simp[hp])
  ·exact h.rep p (by rw[restN_up];simp[hp])
  ·exact h.rep p (by rw[restN_up];simp[hp])
 ·rw[e1];refine List.Perm.append_right _ (List.Perm.map _ ?_);have:=List.perm_append_comm (l₁:=nodS s1) (l₂:=nodT d x);have:=this.append_right (nodS s2);simpa using this
theorem Sx.split (h:Sx A fl pages (r::os) (.up num s1 k s2 c) x es)(m:Nat)(hm:0<m∧m<(cellsT d x).length):Sx (updA (updA A (numT d x) (pgT d (splT d m r x).1)) r (pgT d (splT d m r x).2.2)) fl pages os c (⟨num,s1++[(k,(splT d m r x).1),((splT d m r x).2.1,(splT d m r x).2.2)]++s2⟩:Inn (T d)) es:=by
 have hw:WfB c (⟨num,s1++[(k,x)]++s2⟩:Inn (T d)) es:=by have:=h.wf.up;rw[show frm num s1 k x s2=(⟨num,s1++[(k,x)]++s2⟩:Inn (T d)) by simp[frm]] at this;exact this
 have hws:=hw.split m r hm;have e1:nodS [(k,(splT d m r x).1),((splT d m r x).2.1,(splT d m r x).2.2)]=nodT d (splT d m r x).1++nodT d (splT d m r x).2.2:=by simp[nodS]
 have hn:=spl_nod d m r x;have hnum:=spl_num d m r x;have hr:=h.os_ne (o:=r) (by simp);refine h.kids hws (fun p hp=>?_) ?_
 ·rw[e1] at hp;simp only[List.mem_append] at hp;rw[nodT_eq d (splT d m r x).1,nodT_eq d (splT d m r x).2.2] at hp;simp only[List.mem_cons] at hp;have hk:p∈restN (.up num s1 k s2 c) x→updA (updA A (numT d x) (pgT d (splT d m r x).1)) r (pgT d (splT d m r x).2.2) p.1=p.2:=fun hp=>by
   obtain⟨n1,n2,n3,-⟩:=h.ne hp;rw[updA_ne _ _ (n3 r (by simp)),updA_ne _ _ n1];exact h.rep p hp
  have hsub:∀p,p∈(nodT d (splT d m r x).1).tail∨p∈(nodT d (splT d m r x).2.2).tail→p∈(nodT d x).tail:=fun p hp=>by rw[←hn];exact List.mem_append.2 hp
  rcases hp with((hp|(hp|hp)|hp|hp)|hp)|hp
  ·exact hk (by rw[restN_up];simp[hp])
  ·rw[hp];show updA _ r _ (numT d (splT d m r x).1)=_;rw[hnum.1,updA_ne _ _ (fun e=>hr.1 e.symm),updA_at]
  ·exact hk (by rw[restN_up];exact List.mem_append_left _ (hsub p (.inl hp)))
  ·rw[hp];show updA _ r _ (numT d (splT d m r x).2.2)=_;rw[hnum.2,updA_at]
  ·exact hk (by rw[restN_up];exact List.mem_append_left _ (hsub p (.inr hp)))
  ·exact hk (by rw[restN_up];simp[hp])
  ·exact hk (by rw[restN_up];simp[hp])
 ·rw[e1,nodT_eq d (splT d m r x).1,nodT_eq d (splT d m r x).2.2,nodT_eq d x,←hn];simp only[List.map_append,List.map_cons,hnum.1,hnum.2,List.cons_append,List.append_assoc];refine List.perm_middle.trans (List.Perm.cons _ ?_);have p1:((nodS s1).map (·.1)++((nodT d (splT d m r x).1).tail.map (·.1)++r::((nodT d (splT d m r x).2.2).tail.map (·.1)++((nodS s2).map (·.1)++os)))).Perm (r::((nodS s1).map (·.1)++((nodT d (splT d m r x).1).tail.map (·.1)++((nodT d (splT d m r x).2.2).tail.map (·.1)++((nodS s2).map (·.1)++os))))):=by
   rw[←List.append_assoc];refine List.perm_middle.trans ?_;rw[List.append_assoc]
  refine p1.trans ?_;have p2:((nodT d (splT d m r x).1).tail.map (·.1)++((nodT d (splT d m r x).2.2).tail.map (·.1)++((nodS s1).map (·.1)++((nodS s2).map (·.1)++r::os)))).Perm (r::((nodT d (splT d m r x).1).tail.map (·.1)++((nodT d (splT d m r x).2.2).tail.map (·.1)++((nodS s1).map (·.1)++((nodS s2).map (·.1)++os))))):=by
   have:∀(a b c e o:List Nat),(a++(b++(c++(e++r::o)))).Perm (r::(a++(b++(c++(e++o))))):=fun a b c e o=>by
    have:=List.perm_middle (l₁:=a++b++c++e) (l₂:=o) (a:=r);simpa using this
   exact this _ _ _ _ _
  refine List.Perm.trans ?_ p2.symm;refine List.Perm.cons _ ?_;have:∀(a b c e:List Nat),(a++(b++(c++e))).Perm (b++(c++(a++e))):=fun a b c e=>by
   have:=(List.perm_append_comm (l₁:=a) (l₂:=b++c)).append_right e;simpa using this
  exact this _ _ _ _
end
theorem perm_pull (a b c:List Nat)(x y:Nat)(o:List Nat):(a++(x::b++y::c)++o).Perm (x::y::(a++(b++c)++o)):=by
 have h1:(a++(x::b++y::c)++o).Perm (x::(a++(b++y::c)++o)):=by
  simp
 refine h1.trans (List.Perm.cons _ ?_);have:=List.perm_middle (l₁:=a++b) (l₂:=c++o) (a:=y);simpa using this
section
variable {s1 s2:List (ByteArray×T d)}{c:Cx (d+1)}{x:T d}{t1 t2:List (ByteArray×T d)}{a b:T d}
theorem Sx.nums (h:Sx A fl pages os (.up num s1 k s2 c) x es):(((nodT d x++(nodS s1++nodS s2))++c.nod num).map (·.1)++os).Nodup:=by
 have hn:=h.nd;rw[List.nodup_cons,List.nodup_append] at hn;have hn:=hn.2.2.1;rw[restN_up] at hn;have e2:(numT d x::(((nodT d x).tail++((num,frP s1 k s2 (numT d x))::(nodS s1++nodS s2)++c.nod num)).map (·.1)++os))=(nodT d x).map (·.1)++(num::((nodS s1++nodS s2).map (·.1)++((c.nod num).map (·.1)++os))):=by
  rw[nodT_eq];simp
 rw[e2] at hn;have:=(List.perm_middle.nodup_iff.1 hn);rw[List.nodup_cons] at this;simpa using this.2
def restP (t1:List (ByteArray×T d))(a b:T d)(t2:List (ByteArray×T d))(l:List (Nat×PgV)):List (Nat×PgV):=nodS t1++((nodT d a).tail++(nodT d b).tail)++nodS t2++l
theorem Sx.pairR (h:Sx A fl pages os (.up num s1 k s2 c) x es)(hp:(nodT d x++(nodS s1++nodS s2)).Perm (nodS t1++(nodT d a++nodT d b)++nodS t2))(hx:x=a∨x=b):(numT d a::numT d b::((restP t1 a b t2 (c.nod num)).map (·.1)++os)).Nodup∧∀p∈restP t1 a b t2 (c.nod num),A p.1=p.2:=by
 have hn:=h.nums;have q:(((nodT d x++(nodS s1++nodS s2))++c.nod num).map (·.1)++os).Perm (numT d a::numT d b::((restP t1 a b t2 (c.nod num)).map (·.1)++os)):=by
  have h1:=((hp.append_right (c.nod num)).map (·.1)).append_right os;refine h1.trans ?_;rw[nodT_eq d a,nodT_eq d b];have:=perm_pull ((nodS t1).map (·.1)) ((nodT d a).tail.map (·.1)) ((nodT d b).tail.map (·.1)) (numT d a) (numT d b) ((nodS t2++c.nod num).map (·.1)++os);simpa[restP] using this
 have hnd:=q.nodup_iff.1 hn;refine⟨hnd,fun p hpm=>?_⟩;have hm:p.1∈(restP t1 a b t2 (c.nod num)).map (·.1):=List.mem_map_of_mem hpm;rw[List.nodup_cons,List.nodup_cons] at hnd;have n1:¬p.1=numT d a:=fun e=>hnd.1 (by rw[←e];exact List.mem_cons_of_mem _ (List.mem_append_left _ hm))
 have n2:¬p.1=numT d b:=fun e=>hnd.2.1 (by rw[←e];exact List.mem_append_left _ hm)
 have hin:p∈nodT d x++(nodS s1++nodS s2)∨p∈c.nod num:=by
  unfold restP at hpm;rcases List.mem_append.1 hpm with hpm | hpm
  ·left;rw[hp.mem_iff,nodT_eq d a,nodT_eq d b];simp only[List.mem_append,List.mem_cons] at hpm ⊢;rcases hpm with(hpm | hpm | hpm) | hpm
   ·exact .inl (.inl hpm)
   ·exact .inl (.inr (.inl (.inr hpm)))
   ·exact .inl (.inr (.inr (.inr hpm)))
   ·exact .inr hpm
  ·exact .inr hpm
 refine h.rep p ?_;rw[restN_up];rcases hin with hin | hin
 ·rw[nodT_eq d x,List.cons_append,List.mem_cons] at hin;rcases hin with hin | hin
  ·refine absurd (congrArg Prod.fst hin) ?_;rcases hx with rfl | rfl
   ·exact n1
   ·exact n2
  ·simp only[List.mem_append,List.mem_cons] at hin ⊢;rcases hin with hin | hin | hin
   ·exact .inl hin
   ·exact .inr (.inl (.inr (.inl hin)))
   ·exact .inr (.inl (.inr (.inr hin)))
 ·simp[hin]
theorem Sx.merge (h:Sx A fl pages os (.up num s1 k s2 c) x es)(hp:(nodT d x++(nodS s1++nodS s2)).Perm (nodS t1++(nodT d a++nodT d b)++nodS t2))(hx:x=a∨x=b)(hw:WfB c (⟨num,t1++[(ka,a),(kb,b)]++t2⟩:Inn (T d)) es):Sx (updA A (numT d a) (pgT d (mrgT d a b))) fl pages (numT d b::os) c (⟨num,t1++[(ka,mrgT d a b)]++t2⟩:Inn (T d)) es:=by
 obtain⟨hnd,hrep⟩:=h.pairR hp hx;rw[List.nodup_cons] at hnd;have e1:nodS [(ka,mrgT d a b)]=nodT d (mrgT d a b):=by simp[nodS]
 have hA:∀p∈restP t1 a b t2 (c.nod num),updA A (numT d a) (pgT d (mrgT d a b)) p.1=p.2:=fun p hpm=>by
  rw[updA_ne]
  ·exact hrep p hpm
  ·exact fun e=>hnd.1 (by rw[←e];exact List.mem_cons_of_mem _ (List.mem_append_left _ (List.mem_map_of_mem hpm)))
 refine h.kids hw.merge (fun p hpm=>?_) ?_
 ·rw[e1,nodT_eq,mrg_nod] at hpm;simp only[List.mem_append,List.mem_cons] at hpm;rcases hpm with((hpm | hpm | hpm | hpm) | hpm) | hpm
  ·exact hA p (by simp[restP,hpm])
  ·rw[hpm,mrg_num];exact updA_at _ _ _
  ·exact hA p (by simp[restP,hpm])
  ·exact hA p (by simp[restP,hpm])
  ·exact hA p (by simp[restP,hpm])
  ·exact hA p (by simp[restP,hpm])
 ·refine List.Perm.trans ?_ ((hp.map (·.1)).append_right os).symm;rw[e1,nodT_eq d (mrgT d a b),mrg_nod,mrg_num,nodT_eq d a,nodT_eq d b];have h1:=perm_pull ((nodS t1).map (·.1)) ((nodT d a).tail.map (·.1)) ((nodT d b).tail.map (·.1)) (numT d a) (numT d b) ((nodS t2).map (·.1)++os);have h2:((nodS t1).map (·.1)++(numT d a::((nodT d a).tail.map (·.1)++(nodT d b).tail.map (·.1)))++((nodS t2).map (·.1)++numT d b::os)).Perm (numT d a::numT d b::((nodS t1).map (·.1)++((nodT d a).tail.map (·.1)++(nodT d b).tail.map (·.1))++((nodS t2).map (·.1)++os))):=by
   have g1:=List.perm_middle (l₁:=(nodS t1).map (·.1)) (l₂:=((nodT d a).tail.map (·.1)++(nodT d b).tail.map (·.1))++((nodS t2).map (·.1)++numT d b::os)) (a:=numT d a);have g2:=List.perm_middle (l₁:=(nodS t1).map (·.1)++((nodT d a).tail.map (·.1)++(nodT d b).tail.map (·.1))++(nodS t2).map (·.1)) (l₂:=os) (a:=numT d b);have g3:((nodS t1).map (·.1)++(numT d a::((nodT d a).tail.map (·.1)++(nodT d b).tail.map (·.1)))++((nodS t2).map (·.1)++numT d b::os)).Perm (numT d a::((nodS t1).map (·.1)++(((nodT d a).tail.map (·.1)++(nodT d b).tail.map (·.1))++((nodS t2).map (·.1)++numT d b::os)))):=by
    rw[List.append_assoc];exact g1
   refine g3.trans (List.Perm.cons _ ?_);have g4:=g2;simp only[List.append_assoc] at g4 ⊢;exact g4
  have h3:=h2.trans h1.symm;simpa using h3
theorem Sx.share (h:Sx A fl pages os (.up num s1 k s2 c) x es)(hp:(nodT d x++(nodS s1++nodS s2)).Perm (nodS t1++(nodT d a++nodT d b)++nodS t2))(hx:x=a∨x=b)(hw:WfB c (⟨num,t1++[(ka,a),(kb,b)]++t2⟩:Inn (T d)) es)(m:Nat)(hm:0<m∧m<(cellsT d (mrgT d a b)).length):Sx (updA (updA A (numT d a) (pgT d (splT d m (numT d b) (mrgT d a b)).1)) (numT d b) (pgT d (splT d m (numT d b) (mrgT d a b)).2.2)) fl pages os c (⟨num,t1++[(ka,(splT d m (numT d b) (mrgT d a b)).1),((splT d m (numT d b) (mrgT d a b)).2.1,(splT d m (numT d b) (mrgT d a b)).2.2)]++t2⟩:Inn (T d)) es:=by
 obtain⟨hnd,hrep⟩:=h.pairR hp hx;rw[List.nodup_cons,List.nodup_cons] at hnd;have hws:=hw.merge.split m (numT d b) hm;have hn:=spl_nod d m (numT d b) (mrgT d a b);have hnum:=spl_num d m (numT d b) (mrgT d a b);rw[mrg_nod] at hn;rw[mrg_num] at hnum;generalize (splT d m (numT d b) (mrgT d a b)).1=x1 at *;generalize (splT d m (numT d b) (mrgT d a b)).2.1=k2 at *;generalize (splT d m (numT d b) (mrgT d a b)).2.2=x2 at *;have e1:nodS [(ka,x1),(k2,x2)]=nodT d x1++nodT d x2:=by simp[nodS]
 have hA:∀p∈restP t1 a b t2 (c.nod num),updA (updA A (numT d a) (pgT d x1)) (numT d b) (pgT d x2) p.1=p.2:=fun p hpm=>by
  have hm:p.1∈(restP t1 a b t2 (c.nod num)).map (·.1):=List.mem_map_of_mem hpm;rw[updA_ne,updA_ne]
  ·exact hrep p hpm
  ·exact fun e=>hnd.1 (by rw[←e];exact List.mem_cons_of_mem _ (List.mem_append_left _ hm))
  ·exact fun e=>hnd.2.1 (by rw[←e];exact List.mem_append_left _ hm)
 have hab:¬numT d a=numT d b:=fun e=>hnd.1 (by rw[e];exact List.mem_cons_self ..)
 have hsub:∀p,p∈(nodT d x1).tail∨p∈(nodT d x2).tail→p∈(nodT d a).tail∨p∈(nodT d b).tail:=fun p hpm=>by
  rw[←List.mem_append,←hn];exact List.mem_append.2 hpm
 refine h.kids hws (fun p hpm=>?_) ?_
 ·rw[e1,nodT_eq d x1,nodT_eq d x2] at hpm;simp only[List.mem_append,List.mem_cons] at hpm;rcases hpm with((hpm | (hpm | hpm) | hpm | hpm) | hpm) | hpm
  ·exact hA p (by simp[restP,hpm])
  ·rw[hpm,hnum.1,updA_ne _ _ hab];exact updA_at _ _ _
  ·exact hA p (by rcases hsub p (.inl hpm) with q | q<;>simp[restP,q])
  ·rw[hpm,hnum.2];exact updA_at _ _ _
  ·exact hA p (by rcases hsub p (.inr hpm) with q | q<;>simp[restP,q])
  ·exact hA p (by simp[restP,hpm])
  ·exact hA p (by simp[restP,hpm])
 ·refine List.Perm.trans ?_ ((hp.map (·.1)).append_right os).symm;rw[e1,nodT_eq d x1,nodT_eq d x2,nodT_eq d a,nodT_eq d b,hnum.1,hnum.2];have h1:=perm_pull ((nodS t1).map (·.1)) ((nodT d a).tail.map (·.1)) ((nodT d b).tail.map (·.1)) (numT d a) (numT d b) ((nodS t2).map (·.1)++os);have h2:=perm_pull ((nodS t1).map (·.1)) ((nodT d x1).tail.map (·.1)) ((nodT d x2).tail.map (·.1)) (numT d a) (numT d b) ((nodS t2).map (·.1)++os);rw[←List.map_append,hn,List.map_append] at h2;have h3:=h2.trans h1.symm;simpa using h3
end
theorem pair_left (s1 s2:List (ByteArray×T d))(ka:ByteArray)(a x:T d):(nodT d x++(nodS (s1++[(ka,a)])++nodS s2)).Perm (nodS s1++(nodT d a++nodT d x)++nodS s2):=by
 rw[nodS_app];have e:nodS [(ka,a)]=nodT d a:=by simp[nodS]
 rw[e];have:=(List.perm_append_comm (l₁:=nodT d x) (l₂:=nodS s1++nodT d a)).append_right (nodS s2);simpa using this
theorem pair_right (s1 s2:List (ByteArray×T d))(kb:ByteArray)(b x:T d):(nodT d x++(nodS s1++nodS ((kb,b)::s2))).Perm (nodS s1++(nodT d x++nodT d b)++nodS s2):=by
 rw[nodS_cons];have:=(List.perm_append_comm (l₁:=nodT d x) (l₂:=nodS s1)).append_right (nodT d b++nodS s2);simpa using this
theorem WfB.left {s1 s2:List (ByteArray×T d)}{c:Cx (d+1)}{a x:T d}(h:WfB (.up num (s1++[(ka,a)]) k s2 c) x es):WfB c (⟨num,s1++[(ka,a),(k,x)]++s2⟩:Inn (T d)) es:=by
 have:=h.up;rw[show frm num (s1++[(ka,a)]) k x s2=(⟨num,s1++[(ka,a),(k,x)]++s2⟩:Inn (T d)) by simp[frm]] at this;exact this
theorem WfB.right {s1 s2:List (ByteArray×T d)}{c:Cx (d+1)}{b x:T d}(h:WfB (.up num s1 k ((kb,b)::s2) c) x es):WfB c (⟨num,s1++[(k,x),(kb,b)]++s2⟩:Inn (T d)) es:=by
 have:=h.up;rw[show frm num s1 k x ((kb,b)::s2)=(⟨num,s1++[(k,x),(kb,b)]++s2⟩:Inn (T d)) by simp[frm]] at this;exact this
def midC (l:List ByteArray):Nat:=(List.range l.length).countP fun i=>!decide (usedC l≤2*usedC (l.take (i+1)))
theorem usedC_mono (l:List ByteArray){i j:Nat}(h:i≤j):usedC (l.take i)≤usedC (l.take j):=by
 have:l.take j=l.take i++(l.take j).drop i:=by
  have:=List.take_append_drop i (l.take j);rw[List.take_take,Nat.min_eq_left h] at this;exact this.symm
 rw[this,usedC_app];omega
theorem cnt_first:∀(n:Nat) (p:Nat→Bool),(∀i j,i≤j→p j=true→p i=true)→(∃i,i<n∧p i=false)→(List.range n).countP p<n∧p ((List.range n).countP p)=false∧∀i,i<(List.range n).countP p→p i=true
 | 0,_,_,⟨i,hi,_⟩=>absurd hi (Nat.not_lt_zero _)
 | n + 1, p, hm, ⟨i, hi, hp⟩ => by
  rw[List.range_succ,List.countP_append];by_cases h:∃i,i<n∧p i=false
  ·obtain⟨a,b,c⟩:=cnt_first n p hm h;obtain⟨j,hj,hj'⟩:=h;have hn:p n=false:=by
    cases q:p n with
    | false=>rfl
    | true=>have:=hm j n (by omega) q;rw[hj'] at this;cases this
   have e:(List.range n).countP p+[n].countP p=(List.range n).countP p:=by simp[hn]
   rw[e];exact⟨by omega,b,c⟩
  ·have hall:∀i,i<n→p i=true:=fun i hi=>by
    cases q:p i with
    | true=>rfl
    | false=>exact absurd ⟨i,hi,q⟩ h
   have e0:i=n:=by
    by_cases e:i=n
    ·exact e
    ·have:=hall i (by omega);rw[hp] at this;cases this
   subst e0;have e1:(List.range i).countP p=i:=by
    have:=List.countP_eq_length.2 (fun(a:Nat) (ha:a∈List.range i)=>hall a (List.mem_range.1 ha));rw[List.length_range] at this;exact this
   have e:(List.range i).countP p+[i].countP p=i:=by rw[e1];simp[hp]
   rw[e];exact⟨by omega,hp,hall⟩
theorem mid_in (h:0<usedC l):midC l<l.length∧2*usedC (l.take (midC l))<usedC l∧usedC l≤2*usedC (l.take (midC l+1)):=by
 have hn:∃i,i<l.length∧(!decide (usedC l≤2*usedC (l.take (i+1))))=false:=by
  cases l with
  | nil=>simp[usedC] at h
  | cons a l=>exact⟨l.length,by simp,by simp;omega⟩
 obtain⟨h1,h2,h3⟩:=cnt_first l.length (fun i=>!decide (usedC l≤2*usedC (l.take (i+1)))) (fun i j hij hp=>by
  simp at hp ⊢;have:=usedC_mono l (show i+1≤j+1 by omega);omega) hn
 refine⟨h1,?_,by simpa[midC] using h2⟩;cases hq:midC l with
 | zero=>simpa[usedC] using h
 | succ k =>
  have:=h3 k (by have:midC l=_:=rfl;unfold midC at hq;omega);simpa using this
theorem used_take (h:∀c∈l,c.size≤240)(i:Nat):usedC (l.take (i+1))≤usedC (l.take i)+244:=by
 rw[List.take_add_one,usedC_app];cases hq:l[i]? with
 | none=>simp[usedC]
 | some c=>have:=h c (List.mem_of_getElem? hq);simp[usedC];omega
theorem mid_ok (hs:∀c∈l,c.size≤240)(h1:1012<usedC l)(h2:usedC l≤1500):0<midC l∧midC l<l.length∧(180≤usedC (l.take (midC l))∧usedC (l.take (midC l))≤1012)∧(180≤usedC (l.drop (midC l))∧usedC (l.drop (midC l))≤1012)∧(180≤usedC (l.drop (midC l+1))∧usedC (l.drop (midC l+1))≤1012):=by
 obtain⟨a,b,c⟩:=mid_in (l:=l) (by omega);have d:=used_take hs (midC l);have e:∀i,usedC (l.take i)+usedC (l.drop i)=usedC l:=fun i=>by rw[←usedC_app,List.take_append_drop]
 have e1:=e (midC l);have e2:=e (midC l+1);refine⟨?_,a,⟨by omega,by omega⟩,⟨by omega,by omega⟩,by omega,by omega⟩;cases hq:midC l with
 | zero =>
  rw[hq] at c d;have e0:usedC (l.take 0)=0:=rfl;rw[e0] at d;omega
 | succ k=>omega
theorem cells_spl (d m r:Nat)(x:T d):cellsT d (splT d m r x).1=(cellsT d x).take m∧cellsT d (splT d m r x).2.2=(cellsT d x).drop (m+kindT d-1):=by
 cases d with
 | zero=>exact⟨by simp[cellsT,splT,List.map_take],by simp[cellsT,splT,List.map_drop,kindT]⟩
 | succ d =>
  refine⟨?_,?_⟩
  ·simp only[cellsT,splT];cases x.kids with
   | nil=>simp
   | cons p r=>simp[List.map_take]
  ·simp only[cellsT,splT,kindT];rw[List.map_tail,List.map_drop,List.map_tail];cases x.kids with
   | nil=>simp
   | cons p r=>simp
theorem cells_mrg0 (a b:T 0):cellsT 0 (mrgT 0 a b)=cellsT 0 a++cellsT 0 b:=by simp[cellsT,mrgT]
theorem cells_mrg1 (a b:T (d+1))(ha:¬a.kids=[])(hb:∃p r,b.kids=p::r∧p.1=kb):cellsT (d+1) (mrgT (d+1) a b)=cellsT (d+1) a++childB kb (linkT (d+1) b)::cellsT (d+1) b:=by
 obtain⟨p,r,e,rfl⟩:=hb;simp only[cellsT,mrgT,linkT];rw[e];cases hq:a.kids with
 | nil=>exact absurd hq ha
 | cons q s=>simp
theorem filK_spl (d m r:Nat)(x:T d)(h:FilK d x):FilK d (splT d m r x).1∧FilK d (splT d m r x).2.2:=by
 cases d with
 | zero=>exact⟨trivial,trivial⟩
 | succ d=>exact⟨fun p hp=>h p (List.mem_of_mem_take hp),fun p hp=>h p (List.mem_of_mem_drop hp)⟩
theorem filK_mrg (d:Nat)(a b:T d)(ha:FilK d a)(hb:FilK d b):FilK d (mrgT d a b):=by
 cases d with
 | zero=>trivial
 | succ d=>exact fun p hp=>(List.mem_append.1 hp).elim (ha p) (hb p)
theorem cellI_sz (h:okI i):(cellI i).size≤240:=by
 have hp:=h.pgs;have hk:=h.key;unfold cellI;cases hq:i.pgs with
 | nil =>
  rw[hq] at hp;have:2+i.key.size+i.val.size≤240:=by
   by_cases e:2+i.key.size+i.val.size≤240
   ·exact e
   ·rw[if_neg e] at hp;simp at hp;have:=hk.2;omega
  show(inlineB i.key i.val).size≤240;unfold inlineB;rw[ByteArray.size_append,ByteArray.size_append,keyedB_sz];have e1:(⟨#[0]⟩:ByteArray).size=1:=rfl;rw[e1];omega
 | cons p r =>
  show(longB i.key i.val.size p).size≤240;unfold longB;rw[ByteArray.size_append,ByteArray.size_append,keyedB_sz,fourB_sz];have e1:∀x y:UInt8,(⟨#[1,x,y]⟩:ByteArray).size=3:=fun _ _=>rfl
  rw[e1];have:=hk.2;omega
theorem cells_sz (d:Nat){lo hi:ByteArray}{x:T d}(h:Bnd d lo hi x):∀c∈cellsT d x,c.size≤240:=by
 cases d with
 | zero =>
  intro c hc;simp only[cellsT,List.mem_map] at hc;obtain⟨i,hi',rfl⟩:=hc;exact cellI_sz (BI_mem h i hi').1
 | succ d =>
  intro c hc;obtain⟨⟨p,r,e,hp⟩,hb⟩:=h;simp only[cellsT,List.mem_map] at hc;obtain⟨q,hq,rfl⟩:=hc;rw[e] at hq hb;have:=(hb.2.2.1 q hq).2;rw[childB_sz];omega
theorem WfB.sz {c:Cx d}{x:T d}(h:WfB c x es):∀y∈cellsT d x,y.size≤240:=by
 obtain⟨lo,hi,_,hb⟩:=h.bnd;exact cells_sz d hb
theorem fil_spl (d r:Nat)(x:T d)(hs:∀y∈cellsT d x,y.size≤240)(hf:FilK d x)(h1:1012<usedC (cellsT d x))(h2:usedC (cellsT d x)≤1500):FilN d (splT d (midC (cellsT d x)) r x).1∧FilN d (splT d (midC (cellsT d x)) r x).2.2:=by
 obtain⟨a1,a2,a3,a4,a5⟩:=mid_ok hs h1 h2;obtain⟨c1,c2⟩:=cells_spl d (midC (cellsT d x)) r x;obtain⟨f1,f2⟩:=filK_spl d (midC (cellsT d x)) r x hf;rw[FilN_iff,FilN_iff,c1,c2];refine⟨⟨a3,f1⟩,?_,f2⟩;cases d with
 | zero=>exact a4
 | succ d=>exact a5
structure OkN {d:Nat} (c:Cx d) (x:T d):Prop where
 kids:FilK d x
 low:c.isTop=true∨180≤usedC (cellsT d x)
 high:usedC (cellsT d x)≤1012
 some:d=0∨¬cellsT d x=[]
structure Tr (A:Nat→PgV) (fl:List Nat) (pages:Nat) (os:List Nat) {d:Nat} (t:T d) (es:List Ent):Prop where
 sx:Sx A fl pages os (.top d) t es
 own:A (numT d t)=pgT d t
 ok:OkN (.top d) t
theorem fr_used {s1 s2:List (ByteArray×T d)}(x:T d):usedC (frP s1 k s2 0).cells=usedC (cellsT (d+1) (frm num s1 k x s2)):=by
 have hu:∀n m,usedC (frP s1 k s2 n).cells=usedC (frP s1 k s2 m).cells:=fun n m=>by
  have hc:∀q:ByteArray,(childB q n).size=(childB q m).size:=fun q=>by rw[childB_sz,childB_sz]
  cases s1 with
  | nil=>simp[frP,usedC]
  | cons p r=>simp[frP,usedC,hc]
 rw[hu 0 (numT d x),frP_eq num];rfl
theorem frm_some {s1 s2:List (ByteArray×T d)}{x:T d}(h:¬(s1=[]∧s2=[])):¬cellsT (d+1) (frm num s1 k x s2)=[]:=by
 intro e;have:=congrArg List.length e;simp[cellsT,frm] at this;exact h ⟨this.1,this.2⟩
theorem Sx.whole:∀{d:Nat} (c:Cx d) (x:T d),Sx A fl pages os c x es→A (numT d x)=pgT d x→OkN c x→c.two→∃(D:Nat) (t:T D),Tr A fl pages os t es∧numT D t=c.root (numT d x):=by
 refine Cx.ind (P:=fun d c=>∀x:T d,Sx A fl pages os c x es→A (numT d x)=pgT d x→OkN c x→c.two→∃(D:Nat) (t:T D),Tr A fl pages os t es∧numT D t=c.root (numT d x)) ?_ ?_
 ·exact fun d x h hA hk _=>⟨d,x,⟨h,hA,hk⟩,rfl⟩
 ·intro d num s1 k s2 c ih x h hA hk ht;have hf:=h.wf.fil;have hown:A num=pgT (d+1) (frm num s1 k x s2):=by
   have:=h.rep (num,frP s1 k s2 (numT d x)) (by rw[restN_up];simp);rw[frP_eq num] at this;exact this
  have hx:FilN d x:=(FilN_iff d x).2 ⟨⟨hk.low.resolve_left (fun e=>Bool.noConfusion e),hk.high⟩,hk.kids⟩;have hu:=fr_used (num:=num) (s1:=s1) (s2:=s2) (k:=k) x;refine ih (frm num s1 k x s2) (h.up hA) hown ⟨fun p hp=>?_,by rw[←hu];exact hf.2.2.1.1,by rw[←hu];exact hf.2.2.1.2,.inr (frm_some ht.1)⟩ ht.2
  ·have hp:p∈s1++(k,x)::s2:=hp;simp only[List.mem_append,List.mem_cons] at hp;rcases hp with hp | hp | hp
   ·exact hf.1 p hp
   ·rw[hp];exact hx
   ·exact hf.2.1 p hp
theorem Sx.down {s1 s2:List (ByteArray×T d)}{c:Cx (d+1)}{x:T d}(h:Sx A fl pages os c (frm num s1 k x s2) es)(hA:A num=pgT (d+1) (frm num s1 k x s2))(hk:OkN c (frm num s1 k x s2)):Sx A fl pages os (.up num s1 k s2 c) x es∧A (numT d x)=pgT d x∧OkN (.up num s1 k s2 c) x:=by
 have hw:=h.wf.down hk.kids ⟨hk.low,hk.high⟩;have e:restN c (frm num s1 k x s2)=nodS s1++(nodT d x++nodS s2)++c.nod num:=by
  show nodS (s1++(k,x)::s2)++c.nod num=_;rw[nodS_app,nodS_cons]
 have hfx:FilN d x:=hk.kids (k,x) (by show _∈s1++(k,x)::s2;simp);have hfx:=(FilN_iff d x).1 hfx;have hown:A (numT d x)=pgT d x:=h.rep (numT d x,pgT d x) (by rw[e,nodT_eq];simp);refine⟨⟨hw,fun p hp=>?_,?_⟩,hown,⟨hfx.2,.inr hfx.1.1,hfx.1.2,?_⟩⟩
 ·rw[restN_up] at hp;have hr:=h.rep p;rw[e,nodT_eq] at hr;simp only[List.mem_append,List.mem_cons] at hp hr;rcases hp with hp | (hp | hp | hp) | hp
  ·exact hr (.inl (.inr (.inl (.inr hp))))
  ·rw[hp];show A num=_;rw[hA,frP_eq num]
  ·exact hr (.inl (.inl hp))
  ·exact hr (.inl (.inr (.inr hp)))
  ·exact hr (.inr hp)
 ·refine List.Perm.trans ?_ h.perm;refine List.Perm.cons _ (List.Perm.append_left _ ?_);rw[e,restN_up];show(numT d x::(((nodT d x).tail++((num,frP s1 k s2 (numT d x))::(nodS s1++nodS s2)++c.nod num)).map (·.1)++os)).Perm (num::((nodS s1++(nodT d x++nodS s2)++c.nod num).map (·.1)++os));have e2:(numT d x::(((nodT d x).tail++((num,frP s1 k s2 (numT d x))::(nodS s1++nodS s2)++c.nod num)).map (·.1)++os))=(nodT d x).map (·.1)++(num::((nodS s1++nodS s2).map (·.1)++((c.nod num).map (·.1)++os))):=by
   rw[nodT_eq];simp
  rw[e2];refine List.perm_middle.trans (List.Perm.cons _ ?_);have q:∀a b c e:List Nat,(a++(b++c++e)).Perm (b++(a++c)++e):=fun a b c e=>by
   have:=(List.perm_append_comm (l₁:=a) (l₂:=b)).append_right (c++e);simpa using this
  have:=q ((nodT d x).map (·.1)) ((nodS s1).map (·.1)) ((nodS s2).map (·.1)) ((c.nod num).map (·.1)++os);simpa using this
 ·cases d with
  | zero=>exact .inl rfl
  | succ d=>exact .inr fun e=>by have:=hfx.1.1;rw[e] at this;simp[usedC] at this
def renT:(d:Nat)→Nat→T d→T d
 | 0,n,x=>⟨n,x.link,x.its⟩
 | _+1,n,x=>⟨n,x.kids⟩
theorem ren_num (d n:Nat)(x:T d):numT d (renT d n x)=n:=by cases d<;>rfl
theorem ren_pg (d n:Nat)(x:T d):pgT d (renT d n x)=pgT d x:=by cases d<;>rfl
theorem ren_cells (d n:Nat)(x:T d):cellsT d (renT d n x)=cellsT d x:=by cases d<;>rfl
theorem ren_nod (d n:Nat)(x:T d):(nodT d (renT d n x)).tail=(nodT d x).tail:=by cases d<;>rfl
theorem ren_ent (d n:Nat)(x:T d):entT d (renT d n x)=entT d x:=by cases d<;>rfl
theorem ren_bnd (d n:Nat)(x:T d)(lo hi:ByteArray):Bnd d lo hi (renT d n x)↔Bnd d lo hi x:=by cases d<;>exact Iff.rfl
theorem ren_filK (d n:Nat)(x:T d):FilK d (renT d n x)↔FilK d x:=by cases d<;>exact Iff.rfl
theorem ren_lk (d n:Nat)(x:T d)(nx:Nat)(h:lk (lvsT d x) nx):lk (lvsT d (renT d n x)) nx:=by cases d<;>exact h
theorem Sx.grow {x:T d}(h:Sx A fl pages (n::os) (.top d) x es):Sx (updA A (numT d x) (frP (d:=d) [] ⟨#[]⟩ [] n)) fl pages os (.up (numT d x) [] ⟨#[]⟩ [] (.top (d+1))) (renT d n x) es:=by
 obtain⟨lo,hi,⟨rfl,rfl⟩,hb⟩:=h.wf.bnd;have e1:restN (.top d) x=(nodT d x).tail:=by simp[restN,nod1]
 refine⟨⟨⟨⟨#[]⟩,⟨#[]⟩,bnd2.2 ⟨⟨#[]⟩,⟨#[]⟩,⟨rfl,rfl⟩,rfl,rfl,trivial,trivial,.inl rfl,rfl,by simp,by simp,.inl rfl⟩,(ren_bnd d n x _ _).2 hb⟩,fil2.2 ⟨by simp,by simp,⟨.inl rfl,by simp[frP,usedC]⟩,trivial⟩,?_,?_⟩,fun p hp=>?_,?_⟩
 ·rw[ren_ent];exact h.wf.ent
 ·have:=h.wf.lks;simp only[lpre1,lpre2,lsuf1,lsuf2,lvsS,List.flatMap_nil,List.nil_append,List.append_nil] at this ⊢;exact ren_lk d n x 0 this
 ·rw[restN_up,ren_nod] at hp;simp only[List.mem_append,List.mem_cons,nodS,nod1,List.flatMap_nil,List.append_nil,List.not_mem_nil,or_false] at hp;rcases hp with hp | hp
  ·rw[updA_ne _ _ (h.ne (by rw[e1];exact hp)).1];exact h.rep p (by rw[e1];exact hp)
  ·rw[hp,ren_num];exact updA_at _ _ _
 ·refine List.Perm.trans ?_ h.perm;refine List.Perm.cons _ (List.Perm.append_left _ ?_);rw[e1,restN_up,ren_nod,ren_num];simp only[nodS,nod1,List.flatMap_nil,List.append_nil,List.map_append,List.map_cons,List.map_nil,List.cons_append,List.nil_append,List.append_assoc];have q:∀(a o:List Nat) (u v:Nat),(u::(a++v::o)).Perm (v::(a++u::o)):=fun a o u v=>by
   refine(List.Perm.cons _ List.perm_middle).trans (List.Perm.trans (List.Perm.swap _ _ _) (List.Perm.cons _ List.perm_middle.symm))
  exact q _ _ _ _
theorem Sx.rootSplit {x:T d}(h:Sx A fl pages (r::n::os) (.top d) x es)(m:Nat)(hm:0<m∧m<(cellsT d x).length):Sx (updA (updA A n (pgT d (splT d m r (renT d n x)).1)) r (pgT d (splT d m r (renT d n x)).2.2)) fl pages os (.top (d+1)) (⟨numT d x,[(⟨#[]⟩,(splT d m r (renT d n x)).1),((splT d m r (renT d n x)).2.1,(splT d m r (renT d n x)).2.2)]⟩:Inn (T d)) es:=by
 have h1:Sx A fl pages (n::r::os) (.top d) x es:=⟨h.wf,h.rep,h.perm.symm.trans (List.Perm.cons _ (List.Perm.append_left _ (List.Perm.cons _ (List.Perm.append_left _ (List.Perm.swap _ _ _))))) |>.symm⟩;have h2:=h1.grow.split (r:=r) m (by rw[ren_cells];exact hm);have hn:¬n=numT d x:=(h1.os_ne (o:=n) (by simp)).1;have hr:¬r=numT d x:=(h1.os_ne (o:=r) (by simp)).1;rw[ren_num] at h2;refine h2.congr (fun p hp=>?_);have hne:=(h2.ne hp).1;have hne:¬p.1=numT d x:=hne;unfold updA;rw[if_neg hne]
theorem Sx.shrink {lo:ByteArray}{y:T d}(h:Sx A fl pages os (.top (d+1)) (⟨num,[(lo,y)]⟩:Inn (T d)) es):Sx A fl pages (numT d y::os) (.top d) (renT d num y) es:=by
 obtain⟨lo',hi',⟨rfl,rfl⟩,⟨p,r,e,hp⟩,hb⟩:=h.wf.bnd;have e:[(lo,y)]=p::r:=e;simp at e;have hlo:lo=⟨#[]⟩:=by rw[←hp,←e.1]
 have hb:BS (Bnd d) [(lo,y)] ⟨#[]⟩:=hb;have hby:=hb.2.1;rw[hlo] at hby;have e1:restN (.top (d+1)) (⟨num,[(lo,y)]⟩:Inn (T d))=nodT d y:=by simp[restN_s,nodS,nod1]
 have e2:restN (.top d) (renT d num y)=(nodT d y).tail:=by simp[restN,nod1,ren_nod]
 refine⟨⟨⟨⟨#[]⟩,⟨#[]⟩,⟨rfl,rfl⟩,(ren_bnd d num y _ _).2 hby⟩,trivial,?_,?_⟩,fun p hp=>?_,?_⟩
 ·have:=h.wf.ent;rw[entT_s] at this;rw[ren_ent];simpa[pre1,suf1,entS] using this
 ·have:=h.wf.lks;rw[lvsT_s] at this;simp only[lpre1,lsuf1,lvsS,List.flatMap_cons,List.flatMap_nil,List.nil_append,List.append_nil] at this ⊢;exact ren_lk d num y 0 this
 ·rw[e2] at hp;exact h.rep p (by rw[e1,nodT_eq];exact List.mem_cons_of_mem _ hp)
 ·refine List.Perm.trans ?_ h.perm;refine List.Perm.cons _ (List.Perm.append_left _ ?_);rw[e2,e1,ren_num,nodT_eq d y];show(num::((nodT d y).tail.map (·.1)++numT d y::os)).Perm (num::(numT d y::(nodT d y).tail.map (·.1)++os));exact List.Perm.cons _ List.perm_middle
theorem Sx.leaf {c:Cx 0}{x:T 0}{its:List It}{fl':List Nat}{pages':Nat}{es':List Ent}(h:Sx A fl pages os c x es)(hb:∀lo hi,c.bnd lo hi→BI lo x.its hi→BI lo its hi)(he:es'=c.pre++its.map (fun i=>(i.key,i.val))++c.suf)(hA:∀p∈its.flatMap nodI++c.nod x.num,A' p.1=p.2)(hp:(0::(fl'++(x.num::((its.flatMap nodI++c.nod x.num).map (·.1)++os')))).Perm (List.range pages')):Sx A' fl' pages' os' c (⟨x.num,x.link,its⟩:Lf) es':=by
 obtain⟨lo,hi,h1,h2⟩:=h.wf.bnd;exact⟨⟨⟨lo,hi,h1,hb lo hi h1 h2⟩,h.wf.fil,he.symm,h.wf.lks⟩,hA,hp⟩
theorem many_in:∀(d:Nat) (t:T d),FilN d t→2 ^ d≤(entT d t).length
 | 0, t, h => by
  have:¬t.its=[]:=fun e=>by have:=h.1;simp[cellsT,usedC,e] at this
  have:=List.length_pos_iff.2 this;simp[entT];omega
 | d + 1, t, h => by
  match hq:t.kids with
  | []=>have:=h.1.1;simp[cellsT,usedC,hq] at this
  | [p]=>have:=h.1.1;simp[cellsT,usedC,hq] at this
  | p :: q :: r =>
   have h1:=many_in d p.2 (h.2 p (by rw[hq];simp));have h2:=many_in d q.2 (h.2 q (by rw[hq];simp));rw[entT_s,hq,entS_cons,entS_cons];simp only[List.length_append];rw[Nat.pow_succ];omega
theorem OkN.many {t:T d}(h:OkN (.top d) t):d=0∨2 ^ d≤(entT d t).length:=by
 cases d with
 | zero=>exact .inl rfl
 | succ d =>
  right;have hs:=h.some.resolve_left (by simp)
  match hq:t.kids with
  | []=>exact absurd (by simp[cellsT,hq]) hs
  | [p]=>exact absurd (by simp[cellsT,hq]) hs
  | p :: q :: r =>
   have h1:=many_in d p.2 (h.kids p (by rw[hq];simp));have h2:=many_in d q.2 (h.kids q (by rw[hq];simp));rw[entT_s,hq,entS_cons,entS_cons];simp only[List.length_append];rw[Nat.pow_succ];omega
open Go.RowKit Go.Lib
attribute [local go_sem ↓] Go.wp_at_zero Go.wp_at_succ
theorem ex_aux (a b:ByteArray):a.data.extract a.size (a.size+b.size)++b.data.extract 0 b.size=b.data:=by
 have h1:a.data.extract a.size (a.size+b.size)=#[]:=by
  apply Array.eq_empty_of_size_eq_zero;rw[Array.size_extract];show min (a.size+b.size) a.size-a.size=0;omega
 have h2:b.data.extract 0 b.size=b.data:=Array.extract_size;rw[h1,h2,Array.empty_append]
theorem ex_mid (a b c:ByteArray):(a++b++c).extract a.size (a.size+b.size)=b:=by
 apply ByteArray.ext;simp[ByteArray.data_extract,ByteArray.data_append,Array.extract_append];exact ex_aux a b
theorem ex_end (a b:ByteArray):(a++b).extract a.size (a++b).size=b:=by
 apply ByteArray.ext;simp[ByteArray.data_extract,ByteArray.data_append,Array.extract_append];exact ex_aux a b
theorem bytS_one (x:UInt8)(r:ByteArray):bytS (⟨#[x]⟩++r) 0=x.toNat:=by
 rw[byt_left (by show 0<1;decide)];rfl
theorem app_assoc (a b c:ByteArray):a++b++c=a++(b++c):=by
 apply ByteArray.ext;simp[ByteArray.data_append]
theorem kS_keyed (hk:k.size≤200)(r:ByteArray):kS (keyedB k++r)=1+k.size:=by
 unfold kS keyedB;rw[app_assoc,bytS_one];have:(k.size.toUInt8).toNat=k.size%256:=rfl;rw[this];omega
theorem keyB_keyed (hk:k.size≤200)(r:ByteArray):keyB (keyedB k++r)=k:=by
 unfold keyB;rw[kS_keyed hk];exact ex_mid ⟨#[k.size.toUInt8]⟩ k r
theorem restB_keyed (hk:k.size≤200)(r:ByteArray):restB (keyedB k++r)=r:=by
 unfold restB;rw[kS_keyed hk,←keyedB_sz];exact ex_end (keyedB k) r
theorem keyedB_kS (hk:okK k)(r:ByteArray):kS (keyedB k++r)≤(keyedB k++r).size∧isKeyedB (keyedB k++r)=true:=by
 have h1:=kS_keyed hk.2 r;have h2:(keyedB k++r).size=1+k.size+r.size:=by rw[ByteArray.size_append,keyedB_sz]
 refine⟨by omega,?_⟩;unfold isKeyedB;have h3:bytS (keyedB k++r) 0=k.size:=by unfold kS at h1;omega
 have:=hk.1;have:=hk.2;rw[h3,h1,h2];simp;omega
def restI (i:It):ByteArray:=match i.pgs with
 | []=>⟨#[0]⟩++i.val
 | p::_=>⟨#[1,(i.val.size/256).toUInt8,i.val.size.toUInt8]⟩++fourB p
theorem cellI_eq (i:It):cellI i=keyedB i.key++restI i:=by
 unfold cellI restI;cases i.pgs with
 | nil=>exact app_assoc _ _ _
 | cons p r=>exact app_assoc _ _ _
theorem cellI_key (h:okI i):keyB (cellI i)=i.key∧kS (cellI i)≤(cellI i).size∧isKeyedB (cellI i)=true∧restB (cellI i)=restI i:=by
 rw[cellI_eq];exact⟨keyB_keyed h.key.2 _,(keyedB_kS h.key _).1,(keyedB_kS h.key _).2,restB_keyed h.key.2 _⟩
theorem childB_key (h:okK k)(n:Nat):keyB (childB k n)=k∧kS (childB k n)≤(childB k n).size∧isKeyedB (childB k n)=true∧restB (childB k n)=fourB n:=
 ⟨keyB_keyed h.2 _,(keyedB_kS h _).1,(keyedB_kS h _).2,restB_keyed h.2 _⟩
theorem num_four (h:n<4294967296):numB (fourB n) 0=n:=by
 have b0:bytS (fourB n) 0=n/16777216%256:=rfl;have b1:bytS (fourB n) 1=n/65536%256:=rfl;have b2:bytS (fourB n) 2=n/256%256:=rfl;have b3:bytS (fourB n) 3=n%256:=rfl;show((((0*256+bytS (fourB n) (0+0))*256+bytS (fourB n) (0+1))*256+bytS (fourB n) (0+2))*256+bytS (fourB n) (0+3))=n;rw[b0,b1,b2,b3];omega
theorem num_end (a:ByteArray)(h:n<4294967296):numB (a++fourB n) ((a++fourB n).size-4)=n:=by
 have hs:(a++fourB n).size-4=a.size:=by rw[ByteArray.size_append,fourB_sz];omega
 rw[hs];refine Eq.trans ?_ (num_four h);exact num_same fun i hi=>by rw[Nat.zero_add];exact byt_right
theorem num_child (k:ByteArray)(h:n<4294967296):numB (childB k n) ((childB k n).size-4)=n:=num_end _ h
theorem num_long (k:ByteArray)(s:Nat)(h:n<4294967296):numB (longB k s n) ((longB k s n).size-4)=n:=num_end _ h
def cellsU (l:List UInt8):Array Value:=(l.map fun b=>Value.int .u8 (b.toNat:Int)).toArray
theorem text_of (X:World)(l:List UInt8)(n:Nat)(hn:l.length=n)(cs:Array Value)(h:cs=cellsU l):(convert 59 9 (.slice (some ⟨X.heap.size,0,none⟩) n n)).run Tryz.prog (X.alloc (.cells cs 5))=.ok (.string ⟨l.toArray⟩) (X.alloc (.cells cs 5)):=by
 subst h hn;have:=run_convert_bytes_back (P:=Tryz.prog) (X.alloc (.cells (cellsU l) 5)) 59 9 5 ⟨X.heap.size,0,none⟩ l.length l Tryz.underlying59 Tryz.underlying5 Tryz.underlying9 (fun j hj=>by
  rw[Addr.add_lit];have hc:(X.alloc (.cells (cellsU l) 5)).cell? ⟨X.heap.size,0+j,none⟩=(cellsU l)[j]?:=by simp only[World.cell?,World.alloc_heap_new];simp
  rw[hc];simp[cellsU,hj])
 exact this
theorem text_in {Y w1:World}(l:List UInt8)(n:Nat)(hn:l.length=n)(g:Nat)(hg:Y.heap[g]?=some (.cells (cellsU l) 5 (0,0)))(hb:Below Y.heap.size Y w1):(convert 59 9 (.slice (some ⟨g,0,none⟩) n n)).run Tryz.prog w1=.ok (.string ⟨l.toArray⟩) w1:=by
 subst hn;refine run_convert_bytes_back (P:=Tryz.prog) w1 59 9 5 ⟨g,0,none⟩ l.length l Tryz.underlying59 Tryz.underlying5 Tryz.underlying9 (fun j hj=>?_);rw[Addr.add_lit];have hc:w1.cell? ⟨g,0+j,none⟩=(cellsU l)[j]?:=by
  have:=hb.block g (Array.getElem?_eq_some_iff.1 hg).1;simp only[World.cell?,this,hg];simp
 rw[hc];simp[cellsU,hj]
theorem u8_of (h:n<256):((n.toUInt8).toNat:Int)=(n:Int):=by
 have:(n.toUInt8).toNat=n%256:=rfl;rw[this];omega
theorem ckeyed (k:ByteArray)(w:World)(hk:k.size≤200):Calls Tryz.prog 182 #[.string k] w fun e w'=>e=.returned (.string (keyedB k))∧Below w.heap.size w w':=by
 have ht:=text_of w [k.size.toUInt8] 1 rfl #[.int .u8 (k.size:Int)] (by unfold cellsU;simp only[List.map_cons,List.map_nil];rw[u8_of (by omega)]);go_enter Tryz.func182,Tryz.ntmps182;go_wp2;go_ret;exact⟨rfl,(Below.refl _ _).alloc (Nat.le_refl _) _⟩
theorem cchild (k:ByteArray)(p:Nat)(w:World)(hk:k.size≤200):Calls Tryz.prog 185 #[.string k,.int .i64 (p:Int)] w fun e w'=>e=.returned (.string (childB k p))∧Below w.heap.size w w':=by
 have sk:=keyedB_sz k;have sf:=fourB_sz p;go_enter Tryz.func185,Tryz.ntmps185;go_wp2_with fail
 refine(ckeyed k _ hk).mono ?_;rintro e w1⟨rfl,hb1⟩;go_wp2_with fail
 refine(cfourT p _).mono ?_;rintro e w2⟨rfl,hb2⟩;go_wp2_with fail
 go_ret;exact⟨rfl,hb1.trans (hb2.mono hb1.size)⟩
theorem cisInPages (c:ByteArray)(w:World)(hc:kS c≤c.size)(hs:c.size≤1099511627776)(hr:0<(restB c).size):Calls Tryz.prog 159 #[.string c] w fun e w'=>e=.returned (.bool (bytS (restB c) 0 == 1))∧w'=w:=by
 have HC:=hide (crestOf c w hc hs);generalize restB c=r at *;go_enter Tryz.func159,Tryz.ntmps159;go_wp2_with fail
 refine HC.out.mono ?_;rintro e w1⟨rfl,hw⟩;rw[hw];clear hw;go_wp2_with fail
 go_ret;exact⟨by rw[bytS_get hr];cases hq:((bytS r 0:Int) == 1)<;>simp at hq ⊢<;>omega,rfl⟩
theorem clongSize (c:ByteArray)(w:World)(hc:kS c≤c.size)(hs:c.size≤1099511627776)(hr:3≤(restB c).size):Calls Tryz.prog 188 #[.string c] w fun e w'=>e=.returned (.int .i64 ((bytS (restB c) 1*256+bytS (restB c) 2:Nat):Int))∧∃q,w'=w.drewN q:=by
 have HC:=hide (crestOf c w hc hs);generalize restB c=r at *;have b1:=bytS_lt r 1;have b2:=bytS_lt r 2;have g1:=bytS_get (show 1<r.size by omega);have g2:=bytS_get (show 2<r.size by omega);have hj:=join_i64 (bytS r 1) (bytS r 2) b2 (by omega);go_enter Tryz.func188,Tryz.ntmps188;go_wp2_with fail
 refine HC.out.mono ?_;rintro e w1⟨rfl,hw⟩;rw[hw];clear hw;go_wp2_with fail
 go_quiet (fail)
 go_wp2_with fail
 go_ret;exact⟨by rw[Int.natCast_add,Int.natCast_mul];rfl,⟨_,rfl⟩⟩
theorem rt_mv (X:World)(a:Act)(d:Nat)(t:TypeId)(p:String)(f:Array Edge)(i:Nat)(he:a.eval (.tmp i)=v):(execOp a.eval { dst:=some d,op:=.move (.tmp i),type:=t,pos:=p,after:=f,guard:=none }).run Tryz.prog X=.ok (.value v) X:=by
 subst he;simp only[execOp];go_simp
theorem rt_as (X:World)(a:Act)(d:Nat)(t:TypeId)(p:String)(f:Array Edge)(i:Nat)(he:a.eval (.tmp i)=v):(execOp a.eval { dst:=some d,op:=.assign (.tmp i),type:=t,pos:=p,after:=f,guard:=none }).run Tryz.prog X=.ok (.value v) X:=by
 subst he;simp only[execOp];go_simp
theorem rt_add (X:World)(a:Act)(d:Nat)(t:TypeId)(p:String)(f:Array Edge)(i j:Nat)(x y:ByteArray)(hz:x.size+y.size≤1000000)(hi:a.eval (.tmp i)=.string x)(hj:a.eval (.tmp j)=.string y):(execOp a.eval { dst:=some d,op:=.binOp .add 9 (.tmp i) (.tmp j) 9,type:=t,pos:=p,after:=f,guard:=none }).run Tryz.prog X=.ok (.value (.string (x++y))) X:=by
 have h1:(x.size:Int)+(y.size:Int)≤9223372036854775807:=by omega
 have h2:x.size+y.size≤9223372036854775807:=by omega
 simp only[execOp,hi,hj];go_simp
theorem rt_cK (X:World)(a:Act)(d:Nat)(t:TypeId)(p:String)(f:Array Edge)(i:Nat)(he:a.eval (.tmp i)=v):(execOp a.eval { dst:=some d,op:=.call { callee:=.value (.func 182),args:=#[.tmp i],argTypes:=#[9]},type:=t,pos:=p,after:=f,guard:=none }).run Tryz.prog X=.ok (.enter 182 #[v]) X:=by
 subst he;simp only[execOp];go_simp
theorem rt_cF (X:World)(a:Act)(d:Nat)(t:TypeId)(p:String)(f:Array Edge)(i:Nat)(he:a.eval (.tmp i)=v):(execOp a.eval { dst:=some d,op:=.call { callee:=.value (.func 183),args:=#[.tmp i],argTypes:=#[3]},type:=t,pos:=p,after:=f,guard:=none }).run Tryz.prog X=.ok (.enter 183 #[v]) X:=by
 subst he;simp only[execOp];go_simp
theorem rt_cv (X:World)(a:Act)(d:Nat)(t:TypeId)(p:String)(f:Array Edge)(i g n:Nat)(l:List UInt8)(hn:l.length=n)(hc:X.heap[g]?=some (.cells (cellsU l) 5 (0,0)))(he:a.eval (.tmp i)=.slice (some ⟨g,0,none⟩) n n):(execOp a.eval { dst:=some d,op:=.convert 59 9 (.tmp i),type:=t,pos:=p,after:=f,guard:=none }).run Tryz.prog X=.ok (.value (.string ⟨l.toArray⟩)) X:=by
 have h:=text_in l n hn g hc (Below.refl X.heap.size X);simp only[execOp,he,Sem.run_bind,h,Result.andThen_ok,Sem.run_pure]
theorem rt_b1 (X:World)(a:Act)(d:Nat)(t:TypeId)(p:String)(f:Array Edge):(execOp a.eval { dst:=some d,op:=.buildSlice 59 1 #[(0,.const (.int .u8 0))],type:=t,pos:=p,after:=f,guard:=none }).run Tryz.prog X=.ok (.value (.slice (some ⟨X.heap.size,0,none⟩) 1 1)) (X.alloc (.cells (cellsU [0]) 5)):=by
 simp only[execOp];go_simp;rfl
theorem rt_b3 (X:World)(a:Act)(d:Nat)(t:TypeId)(p:String)(f:Array Edge)(i j x y:Nat)(hi:a.eval (.tmp i)=.int .u8 (x.toUInt8.toNat:Int))(hj:a.eval (.tmp j)=.int .u8 (y.toUInt8.toNat:Int)):(execOp a.eval { dst:=some d,op:=.buildSlice 59 3 #[(0,.const (.int .u8 1)),(1,.tmp i),(2,.tmp j)],type:=t,pos:=p,after:=f,guard:=none }).run Tryz.prog X=.ok (.value (.slice (some ⟨X.heap.size,0,none⟩) 3 3)) (X.alloc (.cells (cellsU [1,x.toUInt8,y.toUInt8]) 5)):=by
 have hi':a.tmps[i]?.getD undef=.int .u8 (x.toUInt8.toNat:Int):=by simpa[Act.eval] using hi
 have hj':a.tmps[j]?.getD undef=.int .u8 (y.toUInt8.toNat:Int):=by simpa[Act.eval] using hj
 clear hi hj;generalize x.toUInt8=x8 at *;generalize y.toUInt8=y8 at *;simp only[execOp];go_simp;rfl
theorem rt_sh (X:World)(a:Act)(d:Nat)(t:TypeId)(p:String)(f:Array Edge)(i n:Nat)(he:a.eval (.tmp i)=.int .i64 (n:Int)):(execOp a.eval { dst:=some d,op:=.binOp .shr 3 (.tmp i) (.const (.int .u64 8)) 158,type:=t,pos:=p,after:=f,guard:=none }).run Tryz.prog X=.ok (.value (.int .i64 ((n/256:Nat):Int))) X:=by
 simp only[execOp,he];go_simp
theorem rt_c8 (X:World)(a:Act)(d:Nat)(t:TypeId)(p:String)(f:Array Edge)(i n:Nat)(he:a.eval (.tmp i)=.int .i64 (n:Int)):(execOp a.eval { dst:=some d,op:=.convert 3 5 (.tmp i),type:=t,pos:=p,after:=f,guard:=none }).run Tryz.prog X=.ok (.value (.int .u8 (n.toUInt8.toNat:Int))) X:=by
 have e1:IntKind.u8.wrap ((n:Nat):Int)=(n.toUInt8.toNat:Int):=by
  have:n.toUInt8.toNat=n%256:=rfl;rw[IntKind.wrap_u8',this];omega
 simp only[execOp,he];go_simp
def WregI (wc:World)(k v:ByteArray)(L:Nat→Bool)(a:Act)(X:World):Prop:=
 Below wc.heap.size wc X ∧
 (L 0=true→a.eval (.tmp 5)=.string k) ∧
 (L 1=true→a.eval (.tmp 6)=.string (keyedB k)) ∧
 (L 2=true→∃g,a.eval (.tmp 7)=.slice (some ⟨g,0,none⟩) 1 1∧g<X.heap.size∧X.heap[g]?=some (.cells (cellsU [0]) 5 (0,0))) ∧
 (L 3=true→a.eval (.tmp 8)=.string ⟨#[0]⟩) ∧
 (L 4=true→a.eval (.tmp 9)=.string (keyedB k++⟨#[0]⟩)) ∧
 (L 5=true→a.eval (.tmp 10)=.string v) ∧
 (L 6=true→a.eval (.tmp 11)=.string (keyedB k++⟨#[0]⟩++v)) ∧
 (L 7=true→a.eval (.tmp 4)=.string (keyedB k++⟨#[0]⟩++v))
def IregI (wc:World)(k v:ByteArray)(a0:Act)(L:Nat→Bool)(a:Act)(X:World):Prop:=Fr [5,6,7,8,9,10,11,4] a0 a∧WregI wc k v L a X
theorem regI (k v:ByteArray)(hk:k.size≤200)(hv:v.size≤3000)(hsz:11<a0.tmps.size)(e0:a0.eval (.tmp 0)=.string k)(e1:a0.eval (.tmp 1)=.string v)(hops:ops=#[⟨some 5,.move (.tmp 0),t0,p0,f0,none⟩,⟨some 6,.call { callee:=.value (.func 182),args:=#[.tmp 5],argTypes:=#[9]},t1,p1,f1,none⟩,⟨some 7,.buildSlice 59 1 #[(0,.const (.int .u8 0))],t2,p2,f2,none⟩,⟨some 8,.convert 59 9 (.tmp 7),t3,p3,f3,none⟩,⟨some 9,.binOp .add 9 (.tmp 6) (.tmp 8) 9,t4,p4,f4,none⟩,⟨some 10,.move (.tmp 1),t5,p5,f5,none⟩,⟨some 11,.binOp .add 9 (.tmp 9) (.tmp 10) 9,t6,p6,f6,none⟩,⟨some 4,.assign (.tmp 11),t7,p7,f7,none⟩])(hb:backB ops=true)(d1:depB f1 [0]=true)(d3:depB f3 [2]=true)(d4:depB f4 [1,3]=true)(d6:depB f6 [4,5]=true)(d7:depB f7 [6]=true)(hm:Tryz.prog.follows .mixedOrders=true)(hQ:∀(u5 u6 u7 u8 u9 u10 u11:Value) X,Below wc.heap.size wc X→Q .normal ⟨sets [(5,u5),(6,u6),(7,u7),(8,u8),(9,u9),(10,u10),(11,u11),(4,.string (keyedB k++⟨#[0]⟩++v))] a0.tmps,a0.defers⟩ X):(Code.region id ops true).wp Tryz.prog Q a0 wc:=by
 refine wp_region_inv hm (IregI wc k v) (backB_spec hb) ?_ ?_ ?_
 ·refine⟨Fr.refl _ _,(Below.refl _ _).drew,?_⟩;refine⟨?_,?_,?_,?_,?_,?_,?_,?_⟩<;>intro h<;>exact absurd h (by decide)
 ·intro L a X hI q o ho hL hd;obtain⟨hF,hB,g0,g1,g2,g3,g4,g5,g6,g7⟩:=hI;have hs:a.tmps.size=a0.tmps.size:=hF.2.1;have E0:a.eval (.tmp 0)=.string k:=by rw[hF.eval (by decide),e0]
  have E1:a.eval (.tmp 1)=.string v:=by rw[hF.eval (by decide),e1]
  subst hops;obtain _ | _ | _ | _ | _ | _ | _ | _ | q:=q
  ·cases ho;refine wpOp_value rfl rfl (rt_mv X a 5 _ _ _ 0 E0) ?_;show IregI _ _ _ a0 (upd L 0) (a.put (some 5) _) _;exact⟨hF.put (by decide) _,hB,(fun _=>eval_put_same (by omega) _),(fun h=>by rw[eval_put_ne (by decide)];exact g1 h),(fun h=>by obtain⟨g,e,z,r⟩:=g2 h;exact⟨g,by rw[eval_put_ne (by decide)];exact e,z,r⟩),(fun h=>by rw[eval_put_ne (by decide)];exact g3 h),(fun h=>by rw[eval_put_ne (by decide)];exact g4 h),(fun h=>by rw[eval_put_ne (by decide)];exact g5 h),(fun h=>by rw[eval_put_ne (by decide)];exact g6 h),(fun h=>by rw[eval_put_ne (by decide)];exact g7 h)⟩
  ·cases ho;have hdj:=depB_spec d1 hd;refine wpOp_call (R:=fun u X'=>u=.string (keyedB k)∧Below X.heap.size X X') rfl rfl (rt_cK X a 6 _ _ _ 5 (g0 (hdj 0 (by decide)))) ((ckeyed k X hk).mono fun e X' h=>⟨_,h.1,rfl,h.2⟩) ?_;rintro u X'⟨rfl,hb'⟩;show IregI _ _ _ a0 (upd L 1) (a.put (some 6) _) _;exact⟨hF.put (by decide) _,keepBelow hB hb',(fun h=>by rw[eval_put_ne (by decide)];exact g0 h),(fun _=>eval_put_same (by omega) _),(fun h=>by obtain⟨g,e,z,r⟩:=g2 h;exact⟨g,by rw[eval_put_ne (by decide)];exact e,keepSize hb' z,(hb'.block g z).trans r⟩),(fun h=>by rw[eval_put_ne (by decide)];exact g3 h),(fun h=>by rw[eval_put_ne (by decide)];exact g4 h),(fun h=>by rw[eval_put_ne (by decide)];exact g5 h),(fun h=>by rw[eval_put_ne (by decide)];exact g6 h),(fun h=>by rw[eval_put_ne (by decide)];exact g7 h)⟩
  ·cases ho;have hb':Below X.heap.size X (X.alloc (.cells (cellsU [0]) 5)):=(Below.refl _ _).alloc (Nat.le_refl _) _;refine wpOp_value rfl rfl (rt_b1 X a 7 _ _ _) ?_;show IregI _ _ _ a0 (upd L 2) (a.put (some 7) _) _;exact⟨hF.put (by decide) _,keepBelow hB hb',(fun h=>by rw[eval_put_ne (by decide)];exact g0 h),(fun h=>by rw[eval_put_ne (by decide)];exact g1 h),(fun _=>⟨X.heap.size,eval_put_same (by omega) _,by simp,World.alloc_heap_new X _⟩),(fun h=>by rw[eval_put_ne (by decide)];exact g3 h),(fun h=>by rw[eval_put_ne (by decide)];exact g4 h),(fun h=>by rw[eval_put_ne (by decide)];exact g5 h),(fun h=>by rw[eval_put_ne (by decide)];exact g6 h),(fun h=>by rw[eval_put_ne (by decide)];exact g7 h)⟩
  ·cases ho;have hdj:=depB_spec d3 hd;obtain⟨g,xg,zg,r0⟩:=g2 (hdj 2 (by decide));refine wpOp_value rfl rfl (rt_cv X a 8 _ _ _ 7 g 1 [0] rfl r0 xg) ?_;show IregI _ _ _ a0 (upd L 3) (a.put (some 8) _) _;exact⟨hF.put (by decide) _,hB,(fun h=>by rw[eval_put_ne (by decide)];exact g0 h),(fun h=>by rw[eval_put_ne (by decide)];exact g1 h),(fun h=>by obtain⟨g,e,z,r⟩:=g2 h;exact⟨g,by rw[eval_put_ne (by decide)];exact e,z,r⟩),(fun _=>eval_put_same (by omega) _),(fun h=>by rw[eval_put_ne (by decide)];exact g4 h),(fun h=>by rw[eval_put_ne (by decide)];exact g5 h),(fun h=>by rw[eval_put_ne (by decide)];exact g6 h),(fun h=>by rw[eval_put_ne (by decide)];exact g7 h)⟩
  ·cases ho;have hdj:=depB_spec d4 hd;refine wpOp_value rfl rfl (rt_add X a 9 _ _ _ 6 8 _ _ (by rw[keyedB_sz];show _+1≤_;omega) (g1 (hdj 1 (by decide))) (g3 (hdj 3 (by decide)))) ?_;show IregI _ _ _ a0 (upd L 4) (a.put (some 9) _) _;exact⟨hF.put (by decide) _,hB,(fun h=>by rw[eval_put_ne (by decide)];exact g0 h),(fun h=>by rw[eval_put_ne (by decide)];exact g1 h),(fun h=>by obtain⟨g,e,z,r⟩:=g2 h;exact⟨g,by rw[eval_put_ne (by decide)];exact e,z,r⟩),(fun h=>by rw[eval_put_ne (by decide)];exact g3 h),(fun _=>eval_put_same (by omega) _),(fun h=>by rw[eval_put_ne (by decide)];exact g5 h),(fun h=>by rw[eval_put_ne (by decide)];exact g6 h),(fun h=>by rw[eval_put_ne (by decide)];exact g7 h)⟩
  ·cases ho;refine wpOp_value rfl rfl (rt_mv X a 10 _ _ _ 1 E1) ?_;show IregI _ _ _ a0 (upd L 5) (a.put (some 10) _) _;exact⟨hF.put (by decide) _,hB,(fun h=>by rw[eval_put_ne (by decide)];exact g0 h),(fun h=>by rw[eval_put_ne (by decide)];exact g1 h),(fun h=>by obtain⟨g,e,z,r⟩:=g2 h;exact⟨g,by rw[eval_put_ne (by decide)];exact e,z,r⟩),(fun h=>by rw[eval_put_ne (by decide)];exact g3 h),(fun h=>by rw[eval_put_ne (by decide)];exact g4 h),(fun _=>eval_put_same (by omega) _),(fun h=>by rw[eval_put_ne (by decide)];exact g6 h),(fun h=>by rw[eval_put_ne (by decide)];exact g7 h)⟩
  ·cases ho;have hdj:=depB_spec d6 hd;refine wpOp_value rfl rfl (rt_add X a 11 _ _ _ 9 10 _ _ (by rw[ByteArray.size_append,keyedB_sz];show _+1+_≤_;omega) (g4 (hdj 4 (by decide))) (g5 (hdj 5 (by decide)))) ?_;show IregI _ _ _ a0 (upd L 6) (a.put (some 11) _) _;exact⟨hF.put (by decide) _,hB,(fun h=>by rw[eval_put_ne (by decide)];exact g0 h),(fun h=>by rw[eval_put_ne (by decide)];exact g1 h),(fun h=>by obtain⟨g,e,z,r⟩:=g2 h;exact⟨g,by rw[eval_put_ne (by decide)];exact e,z,r⟩),(fun h=>by rw[eval_put_ne (by decide)];exact g3 h),(fun h=>by rw[eval_put_ne (by decide)];exact g4 h),(fun h=>by rw[eval_put_ne (by decide)];exact g5 h),(fun _=>eval_put_same (by omega) _),(fun h=>by rw[eval_put_ne (by decide)];exact g7 h)⟩
  ·cases ho;have hdj:=depB_spec d7 hd;refine wpOp_value rfl rfl (rt_as X a 4 _ _ _ 11 (g6 (hdj 6 (by decide)))) ?_;show IregI _ _ _ a0 (upd L 7) (a.put (some 4) _) _;exact⟨hF.put (by decide) _,hB,(fun h=>by rw[eval_put_ne (by decide)];exact g0 h),(fun h=>by rw[eval_put_ne (by decide)];exact g1 h),(fun h=>by obtain⟨g,e,z,r⟩:=g2 h;exact⟨g,by rw[eval_put_ne (by decide)];exact e,z,r⟩),(fun h=>by rw[eval_put_ne (by decide)];exact g3 h),(fun h=>by rw[eval_put_ne (by decide)];exact g4 h),(fun h=>by rw[eval_put_ne (by decide)];exact g5 h),(fun h=>by rw[eval_put_ne (by decide)];exact g6 h),(fun _=>eval_put_same (by omega) _)⟩
  ·cases ho
 ·intro L a X hI hall;subst hops;obtain⟨hF,hB,g0,g1,g2,g3,g4,g5,g6,g7⟩:=hI;have hs:a.tmps.size=a0.tmps.size:=hF.2.1;have hv:=g7 (hall 7 (by simp));rw[hF.eq [(5,a.eval (.tmp 5)),(6,a.eval (.tmp 6)),(7,a.eval (.tmp 7)),(8,a.eval (.tmp 8)),(9,a.eval (.tmp 9)),(10,a.eval (.tmp 10)),(11,a.eval (.tmp 11)),(4,.string (keyedB k++⟨#[0]⟩++v))] (by simp) (by simp[hv];omega)];exact hQ _ _ _ _ _ _ _ X hB
theorem cinline (k v:ByteArray)(w:World)(hk:k.size≤200)(hv:v.size≤3000):Calls Tryz.prog 153 #[.string k,.string v] w fun e w'=>e=.returned (.string (inlineB k v))∧Below w.heap.size w w':=by
 go_enter Tryz.func153,Tryz.ntmps153;go_wp2_with fail
 refine regI k v hk hv (by simp) rfl rfl rfl (by kernel_rfl) (by kernel_rfl) (by kernel_rfl) (by kernel_rfl) (by kernel_rfl) (by kernel_rfl) (by kernel_rfl) ?_;intro u5 u6 u7 u8 u9 u10 u11 X hX;have HX:=hide (hX);have HI:=hide (show keyedB k++⟨#[0]⟩++v=inlineB k v from rfl);rw[HI.out];clear hX;simp only[sets,List.setIfInBounds_toArray,List.set_cons_zero,List.set_cons_succ];go_wp2;go_ret;exact⟨rfl,HX.out⟩
def WregL (wc:World)(k:ByteArray)(n pg:Nat)(L:Nat→Bool)(a:Act)(X:World):Prop:=
 Below wc.heap.size wc X ∧
 (L 0=true→a.eval (.tmp 7)=.string k) ∧
 (L 1=true→a.eval (.tmp 8)=.string (keyedB k)) ∧
 (L 2=true→a.eval (.tmp 9)=.int .i64 (n:Int)) ∧
 (L 3=true→a.eval (.tmp 10)=.int .i64 ((n/256:Nat):Int)) ∧
 (L 4=true→a.eval (.tmp 11)=.int .u8 ((n/256).toUInt8.toNat:Int)) ∧
 (L 5=true→a.eval (.tmp 12)=.int .i64 (n:Int)) ∧
 (L 6=true→a.eval (.tmp 13)=.int .u8 (n.toUInt8.toNat:Int)) ∧
 (L 7=true→∃g,a.eval (.tmp 14)=.slice (some ⟨g,0,none⟩) 3 3∧g<X.heap.size∧X.heap[g]?=some (.cells (cellsU [1,(n/256).toUInt8,n.toUInt8]) 5 (0,0))) ∧
 (L 8=true→a.eval (.tmp 15)=.string ⟨#[1,(n/256).toUInt8,n.toUInt8]⟩) ∧
 (L 9=true→a.eval (.tmp 16)=.string (keyedB k++⟨#[1,(n/256).toUInt8,n.toUInt8]⟩)) ∧
 (L 10=true→a.eval (.tmp 17)=.int .i64 (pg:Int)) ∧
 (L 11=true→a.eval (.tmp 18)=.string (fourB pg)) ∧
 (L 12=true→a.eval (.tmp 19)=.string (keyedB k++⟨#[1,(n/256).toUInt8,n.toUInt8]⟩++fourB pg)) ∧
 (L 13=true→a.eval (.tmp 6)=.string (keyedB k++⟨#[1,(n/256).toUInt8,n.toUInt8]⟩++fourB pg))
def IregL (wc:World)(k:ByteArray)(n pg:Nat)(a0:Act)(L:Nat→Bool)(a:Act)(X:World):Prop:=Fr [7,8,9,10,11,12,13,14,15,16,17,18,19,6] a0 a∧WregL wc k n pg L a X
theorem regL (k:ByteArray)(n pg:Nat)(hk:k.size≤200)(hsz:19<a0.tmps.size)(e0:a0.eval (.tmp 0)=.string k)(e1:a0.eval (.tmp 1)=.int .i64 (n:Int))(e2:a0.eval (.tmp 2)=.int .i64 (pg:Int)){t8 t9 t10 t11 t12 t13:TypeId}{p8 p9 p10 p11 p12 p13:String}{f8 f9 f10 f11 f12 f13:Array Edge}(hops:ops=#[⟨some 7,.move (.tmp 0),t0,p0,f0,none⟩,⟨some 8,.call { callee:=.value (.func 182),args:=#[.tmp 7],argTypes:=#[9]},t1,p1,f1,none⟩,⟨some 9,.move (.tmp 1),t2,p2,f2,none⟩,⟨some 10,.binOp .shr 3 (.tmp 9) (.const (.int .u64 8)) 158,t3,p3,f3,none⟩,⟨some 11,.convert 3 5 (.tmp 10),t4,p4,f4,none⟩,⟨some 12,.move (.tmp 1),t5,p5,f5,none⟩,⟨some 13,.convert 3 5 (.tmp 12),t6,p6,f6,none⟩,⟨some 14,.buildSlice 59 3 #[(0,.const (.int .u8 1)),(1,.tmp 11),(2,.tmp 13)],t7,p7,f7,none⟩,⟨some 15,.convert 59 9 (.tmp 14),t8,p8,f8,none⟩,⟨some 16,.binOp .add 9 (.tmp 8) (.tmp 15) 9,t9,p9,f9,none⟩,⟨some 17,.move (.tmp 2),t10,p10,f10,none⟩,⟨some 18,.call { callee:=.value (.func 183),args:=#[.tmp 17],argTypes:=#[3]},t11,p11,f11,none⟩,⟨some 19,.binOp .add 9 (.tmp 16) (.tmp 18) 9,t12,p12,f12,none⟩,⟨some 6,.assign (.tmp 19),t13,p13,f13,none⟩])(hb:backB ops=true)(d1:depB f1 [0]=true)(d3:depB f3 [2]=true)(d4:depB f4 [3]=true)(d6:depB f6 [5]=true)(d7:depB f7 [4,6]=true)(d8:depB f8 [7]=true)(d9:depB f9 [1,8]=true)(d11:depB f11 [10]=true)(d12:depB f12 [9,11]=true)(d13:depB f13 [12]=true)(hm:Tryz.prog.follows .mixedOrders=true)(hQ:∀(u7 u8 u9 u10 u11 u12 u13 u14 u15 u16 u17 u18 u19:Value) X,Below wc.heap.size wc X→Q .normal ⟨sets [(7,u7),(8,u8),(9,u9),(10,u10),(11,u11),(12,u12),(13,u13),(14,u14),(15,u15),(16,u16),(17,u17),(18,u18),(19,u19),(6,.string (keyedB k++⟨#[1,(n/256).toUInt8,n.toUInt8]⟩++fourB pg))] a0.tmps,a0.defers⟩ X):(Code.region id ops true).wp Tryz.prog Q a0 wc:=by
 refine wp_region_inv hm (IregL wc k n pg) (backB_spec hb) ?_ ?_ ?_
 ·refine⟨Fr.refl _ _,(Below.refl _ _).drew,?_⟩;refine⟨?_,?_,?_,?_,?_,?_,?_,?_,?_,?_,?_,?_,?_,?_⟩<;>intro h<;>exact absurd h (by decide)
 ·intro L a X hI q o ho hL hd;obtain⟨hF,hB,g0,g1,g2,g3,g4,g5,g6,g7,g8,g9,g10,g11,g12,g13⟩:=hI;have hs:a.tmps.size=a0.tmps.size:=hF.2.1;have E0:a.eval (.tmp 0)=.string k:=by rw[hF.eval (by decide),e0]
  have E1:a.eval (.tmp 1)=.int .i64 (n:Int):=by rw[hF.eval (by decide),e1]
  have E2:a.eval (.tmp 2)=.int .i64 (pg:Int):=by rw[hF.eval (by decide),e2]
  subst hops;obtain _ | _ | _ | _ | _ | _ | _ | _ | _ | _ | _ | _ | _ | _ | q:=q
  ·cases ho;refine wpOp_value rfl rfl (rt_mv X a 7 _ _ _ 0 E0) ?_;show IregL _ _ _ _ a0 (upd L 0) (a.put (some 7) _) _;exact⟨hF.put (by decide) _,hB,(fun _=>eval_put_same (by omega) _),(fun h=>by rw[eval_put_ne (by decide)];exact g1 h),(fun h=>by rw[eval_put_ne (by decide)];exact g2 h),(fun h=>by rw[eval_put_ne (by decide)];exact g3 h),(fun h=>by rw[eval_put_ne (by decide)];exact g4 h),(fun h=>by rw[eval_put_ne (by decide)];exact g5 h),(fun h=>by rw[eval_put_ne (by decide)];exact g6 h),(fun h=>by obtain⟨g,e,z,r⟩:=g7 h;exact⟨g,by rw[eval_put_ne (by decide)];exact e,z,r⟩),(fun h=>by rw[eval_put_ne (by decide)];exact g8 h),(fun h=>by rw[eval_put_ne (by decide)];exact g9 h),(fun h=>by rw[eval_put_ne (by decide)];exact g10 h),(fun h=>by rw[eval_put_ne (by decide)];exact g11 h),(fun h=>by rw[eval_put_ne (by decide)];exact g12 h),(fun h=>by rw[eval_put_ne (by decide)];exact g13 h)⟩
  ·cases ho;have hdj:=depB_spec d1 hd;refine wpOp_call (R:=fun u X'=>u=.string (keyedB k)∧Below X.heap.size X X') rfl rfl (rt_cK X a 8 _ _ _ 7 (g0 (hdj 0 (by decide)))) ((ckeyed k X hk).mono fun e X' h=>⟨_,h.1,rfl,h.2⟩) ?_;rintro u X'⟨rfl,hb'⟩;show IregL _ _ _ _ a0 (upd L 1) (a.put (some 8) _) _;exact⟨hF.put (by decide) _,keepBelow hB hb',(fun h=>by rw[eval_put_ne (by decide)];exact g0 h),(fun _=>eval_put_same (by omega) _),(fun h=>by rw[eval_put_ne (by decide)];exact g2 h),(fun h=>by rw[eval_put_ne (by decide)];exact g3 h),(fun h=>by rw[eval_put_ne (by decide)];exact g4 h),(fun h=>by rw[eval_put_ne (by decide)];exact g5 h),(fun h=>by rw[eval_put_ne (by decide)];exact g6 h),(fun h=>by obtain⟨g,e,z,r⟩:=g7 h;exact⟨g,by rw[eval_put_ne (by decide)];exact e,keepSize hb' z,(hb'.block g z).trans r⟩),(fun h=>by rw[eval_put_ne (by decide)];exact g8 h),(fun h=>by rw[eval_put_ne (by decide)];exact g9 h),(fun h=>by rw[eval_put_ne (by decide)];exact g10 h),(fun h=>by rw[eval_put_ne (by decide)];exact g11 h),(fun h=>by rw[eval_put_ne (by decide)];exact g12 h),(fun h=>by rw[eval_put_ne (by decide)];exact g13 h)⟩
  ·cases ho;refine wpOp_value rfl rfl (rt_mv X a 9 _ _ _ 1 E1) ?_;show IregL _ _ _ _ a0 (upd L 2) (a.put (some 9) _) _;exact⟨hF.put (by decide) _,hB,(fun h=>by rw[eval_put_ne (by decide)];exact g0 h),(fun h=>by rw[eval_put_ne (by decide)];exact g1 h),(fun _=>eval_put_same (by omega) _),(fun h=>by rw[eval_put_ne (by decide)];exact g3 h),(fun h=>by rw[eval_put_ne (by decide)];exact g4 h),(fun h=>by rw[eval_put_ne (by decide)];exact g5 h),(fun h=>by rw[eval_put_ne (by decide)];exact g6 h),(fun h=>by obtain⟨g,e,z,r⟩:=g7 h;exact⟨g,by rw[eval_put_ne (by decide)];exact e,z,r⟩),(fun h=>by rw[eval_put_ne (by decide)];exact g8 h),(fun h=>by rw[eval_put_ne (by decide)];exact g9 h),(fun h=>by rw[eval_put_ne (by decide)];exact g10 h),(fun h=>by rw[eval_put_ne (by decide)];exact g11 h),(fun h=>by rw[eval_put_ne (by decide)];exact g12 h),(fun h=>by rw[eval_put_ne (by decide)];exact g13 h)⟩
  ·cases ho;have hdj:=depB_spec d3 hd;refine wpOp_value rfl rfl (rt_sh X a 10 _ _ _ 9 n (g2 (hdj 2 (by decide)))) ?_;show IregL _ _ _ _ a0 (upd L 3) (a.put (some 10) _) _;exact⟨hF.put (by decide) _,hB,(fun h=>by rw[eval_put_ne (by decide)];exact g0 h),(fun h=>by rw[eval_put_ne (by decide)];exact g1 h),(fun h=>by rw[eval_put_ne (by decide)];exact g2 h),(fun _=>eval_put_same (by omega) _),(fun h=>by rw[eval_put_ne (by decide)];exact g4 h),(fun h=>by rw[eval_put_ne (by decide)];exact g5 h),(fun h=>by rw[eval_put_ne (by decide)];exact g6 h),(fun h=>by obtain⟨g,e,z,r⟩:=g7 h;exact⟨g,by rw[eval_put_ne (by decide)];exact e,z,r⟩),(fun h=>by rw[eval_put_ne (by decide)];exact g8 h),(fun h=>by rw[eval_put_ne (by decide)];exact g9 h),(fun h=>by rw[eval_put_ne (by decide)];exact g10 h),(fun h=>by rw[eval_put_ne (by decide)];exact g11 h),(fun h=>by rw[eval_put_ne (by decide)];exact g12 h),(fun h=>by rw[eval_put_ne (by decide)];exact g13 h)⟩
  ·cases ho;have hdj:=depB_spec d4 hd;refine wpOp_value rfl rfl (rt_c8 X a 11 _ _ _ 10 (n/256) (g3 (hdj 3 (by decide)))) ?_;show IregL _ _ _ _ a0 (upd L 4) (a.put (some 11) _) _;exact⟨hF.put (by decide) _,hB,(fun h=>by rw[eval_put_ne (by decide)];exact g0 h),(fun h=>by rw[eval_put_ne (by decide)];exact g1 h),(fun h=>by rw[eval_put_ne (by decide)];exact g2 h),(fun h=>by rw[eval_put_ne (by decide)];exact g3 h),(fun _=>eval_put_same (by omega) _),(fun h=>by rw[eval_put_ne (by decide)];exact g5 h),(fun h=>by rw[eval_put_ne (by decide)];exact g6 h),(fun h=>by obtain⟨g,e,z,r⟩:=g7 h;exact⟨g,by rw[eval_put_ne (by decide)];exact e,z,r⟩),(fun h=>by rw[eval_put_ne (by decide)];exact g8 h),(fun h=>by rw[eval_put_ne (by decide)];exact g9 h),(fun h=>by rw[eval_put_ne (by decide)];exact g10 h),(fun h=>by rw[eval_put_ne (by decide)];exact g11 h),(fun h=>by rw[eval_put_ne (by decide)];exact g12 h),(fun h=>by rw[eval_put_ne (by decide)];exact g13 h)⟩
  ·cases ho;refine wpOp_value rfl rfl (rt_mv X a 12 _ _ _ 1 E1) ?_;show IregL _ _ _ _ a0 (upd L 5) (a.put (some 12) _) _;exact⟨hF.put (by decide) _,hB,(fun h=>by rw[eval_put_ne (by decide)];exact g0 h),(fun h=>by rw[eval_put_ne (by decide)];exact g1 h),(fun h=>by rw[eval_put_ne (by decide)];exact g2 h),(fun h=>by rw[eval_put_ne (by decide)];exact g3 h),(fun h=>by rw[eval_put_ne (by decide)];exact g4 h),(fun _=>eval_put_same (by omega) _),(fun h=>by rw[eval_put_ne (by decide)];exact g6 h),(fun h=>by obtain⟨g,e,z,r⟩:=g7 h;exact⟨g,by rw[eval_put_ne (by decide)];exact e,z,r⟩),(fun h=>by rw[eval_put_ne (by decide)];exact g8 h),(fun h=>by rw[eval_put_ne (by decide)];exact g9 h),(fun h=>by rw[eval_put_ne (by decide)];exact g10 h),(fun h=>by rw[eval_put_ne (by decide)];exact g11 h),(fun h=>by rw[eval_put_ne (by decide)];exact g12 h),(fun h=>by rw[eval_put_ne (by decide)];exact g13 h)⟩
  ·cases ho;have hdj:=depB_spec d6 hd;refine wpOp_value rfl rfl (rt_c8 X a 13 _ _ _ 12 n (g5 (hdj 5 (by decide)))) ?_;show IregL _ _ _ _ a0 (upd L 6) (a.put (some 13) _) _;exact⟨hF.put (by decide) _,hB,(fun h=>by rw[eval_put_ne (by decide)];exact g0 h),(fun h=>by rw[eval_put_ne (by decide)];exact g1 h),(fun h=>by rw[eval_put_ne (by decide)];exact g2 h),(fun h=>by rw[eval_put_ne (by decide)];exact g3 h),(fun h=>by rw[eval_put_ne (by decide)];exact g4 h),(fun h=>by rw[eval_put_ne (by decide)];exact g5 h),(fun _=>eval_put_same (by omega) _),(fun h=>by obtain⟨g,e,z,r⟩:=g7 h;exact⟨g,by rw[eval_put_ne (by decide)];exact e,z,r⟩),(fun h=>by rw[eval_put_ne (by decide)];exact g8 h),(fun h=>by rw[eval_put_ne (by decide)];exact g9 h),(fun h=>by rw[eval_put_ne (by decide)];exact g10 h),(fun h=>by rw[eval_put_ne (by decide)];exact g11 h),(fun h=>by rw[eval_put_ne (by decide)];exact g12 h),(fun h=>by rw[eval_put_ne (by decide)];exact g13 h)⟩
  ·cases ho;have hdj:=depB_spec d7 hd;have hb':Below X.heap.size X (X.alloc (.cells (cellsU [1,(n/256).toUInt8,n.toUInt8]) 5)):=(Below.refl _ _).alloc (Nat.le_refl _) _;refine wpOp_value rfl rfl (rt_b3 X a 14 _ _ _ 11 13 (n/256) n (g4 (hdj 4 (by decide))) (g6 (hdj 6 (by decide)))) ?_;show IregL _ _ _ _ a0 (upd L 7) (a.put (some 14) _) _;exact⟨hF.put (by decide) _,keepBelow hB hb',(fun h=>by rw[eval_put_ne (by decide)];exact g0 h),(fun h=>by rw[eval_put_ne (by decide)];exact g1 h),(fun h=>by rw[eval_put_ne (by decide)];exact g2 h),(fun h=>by rw[eval_put_ne (by decide)];exact g3 h),(fun h=>by rw[eval_put_ne (by decide)];exact g4 h),(fun h=>by rw[eval_put_ne (by decide)];exact g5 h),(fun h=>by rw[eval_put_ne (by decide)];exact g6 h),(fun _=>⟨X.heap.size,eval_put_same (by omega) _,by simp,World.alloc_heap_new X _⟩),(fun h=>by rw[eval_put_ne (by decide)];exact g8 h),(fun h=>by rw[eval_put_ne (by decide)];exact g9 h),(fun h=>by rw[eval_put_ne (by decide)];exact g10 h),(fun h=>by rw[eval_put_ne (by decide)];exact g11 h),(fun h=>by rw[eval_put_ne (by decide)];exact g12 h),(fun h=>by rw[eval_put_ne (by decide)];exact g13 h)⟩
  ·cases ho;have hdj:=depB_spec d8 hd;obtain⟨g,xg,zg,r0⟩:=g7 (hdj 7 (by decide));refine wpOp_value rfl rfl (rt_cv X a 15 _ _ _ 14 g 3 [1,(n/256).toUInt8,n.toUInt8] rfl r0 xg) ?_;show IregL _ _ _ _ a0 (upd L 8) (a.put (some 15) _) _;exact⟨hF.put (by decide) _,hB,(fun h=>by rw[eval_put_ne (by decide)];exact g0 h),(fun h=>by rw[eval_put_ne (by decide)];exact g1 h),(fun h=>by rw[eval_put_ne (by decide)];exact g2 h),(fun h=>by rw[eval_put_ne (by decide)];exact g3 h),(fun h=>by rw[eval_put_ne (by decide)];exact g4 h),(fun h=>by rw[eval_put_ne (by decide)];exact g5 h),(fun h=>by rw[eval_put_ne (by decide)];exact g6 h),(fun h=>by obtain⟨g,e,z,r⟩:=g7 h;exact⟨g,by rw[eval_put_ne (by decide)];exact e,z,r⟩),(fun _=>eval_put_same (by omega) _),(fun h=>by rw[eval_put_ne (by decide)];exact g9 h),(fun h=>by rw[eval_put_ne (by decide)];exact g10 h),(fun h=>by rw[eval_put_ne (by decide)];exact g11 h),(fun h=>by rw[eval_put_ne (by decide)];exact g12 h),(fun h=>by rw[eval_put_ne (by decide)];exact g13 h)⟩
  ·cases ho;have hdj:=depB_spec d9 hd;refine wpOp_value rfl rfl (rt_add X a 16 _ _ _ 8 15 _ _ (by rw[keyedB_sz];show _+3≤_;omega) (g1 (hdj 1 (by decide))) (g8 (hdj 8 (by decide)))) ?_;show IregL _ _ _ _ a0 (upd L 9) (a.put (some 16) _) _;exact⟨hF.put (by decide) _,hB,(fun h=>by rw[eval_put_ne (by decide)];exact g0 h),(fun h=>by rw[eval_put_ne (by decide)];exact g1 h),(fun h=>by rw[eval_put_ne (by decide)];exact g2 h),(fun h=>by rw[eval_put_ne (by decide)];exact g3 h),(fun h=>by rw[eval_put_ne (by decide)];exact g4 h),(fun h=>by rw[eval_put_ne (by decide)];exact g5 h),(fun h=>by rw[eval_put_ne (by decide)];exact g6 h),(fun h=>by obtain⟨g,e,z,r⟩:=g7 h;exact⟨g,by rw[eval_put_ne (by decide)];exact e,z,r⟩),(fun h=>by rw[eval_put_ne (by decide)];exact g8 h),(fun _=>eval_put_same (by omega) _),(fun h=>by rw[eval_put_ne (by decide)];exact g10 h),(fun h=>by rw[eval_put_ne (by decide)];exact g11 h),(fun h=>by rw[eval_put_ne (by decide)];exact g12 h),(fun h=>by rw[eval_put_ne (by decide)];exact g13 h)⟩
  ·cases ho;refine wpOp_value rfl rfl (rt_mv X a 17 _ _ _ 2 E2) ?_;show IregL _ _ _ _ a0 (upd L 10) (a.put (some 17) _) _;exact⟨hF.put (by decide) _,hB,(fun h=>by rw[eval_put_ne (by decide)];exact g0 h),(fun h=>by rw[eval_put_ne (by decide)];exact g1 h),(fun h=>by rw[eval_put_ne (by decide)];exact g2 h),(fun h=>by rw[eval_put_ne (by decide)];exact g3 h),(fun h=>by rw[eval_put_ne (by decide)];exact g4 h),(fun h=>by rw[eval_put_ne (by decide)];exact g5 h),(fun h=>by rw[eval_put_ne (by decide)];exact g6 h),(fun h=>by obtain⟨g,e,z,r⟩:=g7 h;exact⟨g,by rw[eval_put_ne (by decide)];exact e,z,r⟩),(fun h=>by rw[eval_put_ne (by decide)];exact g8 h),(fun h=>by rw[eval_put_ne (by decide)];exact g9 h),(fun _=>eval_put_same (by omega) _),(fun h=>by rw[eval_put_ne (by decide)];exact g11 h),(fun h=>by rw[eval_put_ne (by decide)];exact g12 h),(fun h=>by rw[eval_put_ne (by decide)];exact g13 h)⟩
  ·cases ho;have hdj:=depB_spec d11 hd;refine wpOp_call (R:=fun u X'=>u=.string (fourB pg)∧Below X.heap.size X X') rfl rfl (rt_cF X a 18 _ _ _ 17 (g10 (hdj 10 (by decide)))) ((cfourT pg X).mono fun e X' h=>⟨_,h.1,rfl,h.2⟩) ?_;rintro u X'⟨rfl,hb'⟩;show IregL _ _ _ _ a0 (upd L 11) (a.put (some 18) _) _;exact⟨hF.put (by decide) _,keepBelow hB hb',(fun h=>by rw[eval_put_ne (by decide)];exact g0 h),(fun h=>by rw[eval_put_ne (by decide)];exact g1 h),(fun h=>by rw[eval_put_ne (by decide)];exact g2 h),(fun h=>by rw[eval_put_ne (by decide)];exact g3 h),(fun h=>by rw[eval_put_ne (by decide)];exact g4 h),(fun h=>by rw[eval_put_ne (by decide)];exact g5 h),(fun h=>by rw[eval_put_ne (by decide)];exact g6 h),(fun h=>by obtain⟨g,e,z,r⟩:=g7 h;exact⟨g,by rw[eval_put_ne (by decide)];exact e,keepSize hb' z,(hb'.block g z).trans r⟩),(fun h=>by rw[eval_put_ne (by decide)];exact g8 h),(fun h=>by rw[eval_put_ne (by decide)];exact g9 h),(fun h=>by rw[eval_put_ne (by decide)];exact g10 h),(fun _=>eval_put_same (by omega) _),(fun h=>by rw[eval_put_ne (by decide)];exact g12 h),(fun h=>by rw[eval_put_ne (by decide)];exact g13 h)⟩
  ·cases ho;have hdj:=depB_spec d12 hd;refine wpOp_value rfl rfl (rt_add X a 19 _ _ _ 16 18 _ _ (by rw[ByteArray.size_append,keyedB_sz,fourB_sz];show _+3+4≤_;omega) (g9 (hdj 9 (by decide))) (g11 (hdj 11 (by decide)))) ?_;show IregL _ _ _ _ a0 (upd L 12) (a.put (some 19) _) _;exact⟨hF.put (by decide) _,hB,(fun h=>by rw[eval_put_ne (by decide)];exact g0 h),(fun h=>by rw[eval_put_ne (by decide)];exact g1 h),(fun h=>by rw[eval_put_ne (by decide)];exact g2 h),(fun h=>by rw[eval_put_ne (by decide)];exact g3 h),(fun h=>by rw[eval_put_ne (by decide)];exact g4 h),(fun h=>by rw[eval_put_ne (by decide)];exact g5 h),(fun h=>by rw[eval_put_ne (by decide)];exact g6 h),(fun h=>by obtain⟨g,e,z,r⟩:=g7 h;exact⟨g,by rw[eval_put_ne (by decide)];exact e,z,r⟩),(fun h=>by rw[eval_put_ne (by decide)];exact g8 h),(fun h=>by rw[eval_put_ne (by decide)];exact g9 h),(fun h=>by rw[eval_put_ne (by decide)];exact g10 h),(fun h=>by rw[eval_put_ne (by decide)];exact g11 h),(fun _=>eval_put_same (by omega) _),(fun h=>by rw[eval_put_ne (by decide)];exact g13 h)⟩
  ·cases ho;have hdj:=depB_spec d13 hd;refine wpOp_value rfl rfl (rt_as X a 6 _ _ _ 19 (g12 (hdj 12 (by decide)))) ?_;show IregL _ _ _ _ a0 (upd L 13) (a.put (some 6) _) _;exact⟨hF.put (by decide) _,hB,(fun h=>by rw[eval_put_ne (by decide)];exact g0 h),(fun h=>by rw[eval_put_ne (by decide)];exact g1 h),(fun h=>by rw[eval_put_ne (by decide)];exact g2 h),(fun h=>by rw[eval_put_ne (by decide)];exact g3 h),(fun h=>by rw[eval_put_ne (by decide)];exact g4 h),(fun h=>by rw[eval_put_ne (by decide)];exact g5 h),(fun h=>by rw[eval_put_ne (by decide)];exact g6 h),(fun h=>by obtain⟨g,e,z,r⟩:=g7 h;exact⟨g,by rw[eval_put_ne (by decide)];exact e,z,r⟩),(fun h=>by rw[eval_put_ne (by decide)];exact g8 h),(fun h=>by rw[eval_put_ne (by decide)];exact g9 h),(fun h=>by rw[eval_put_ne (by decide)];exact g10 h),(fun h=>by rw[eval_put_ne (by decide)];exact g11 h),(fun h=>by rw[eval_put_ne (by decide)];exact g12 h),(fun _=>eval_put_same (by omega) _)⟩
  ·cases ho
 ·intro L a X hI hall;subst hops;obtain⟨hF,hB,g0,g1,g2,g3,g4,g5,g6,g7,g8,g9,g10,g11,g12,g13⟩:=hI;have hs:a.tmps.size=a0.tmps.size:=hF.2.1;have hv:=g13 (hall 13 (by simp));rw[hF.eq [(7,a.eval (.tmp 7)),(8,a.eval (.tmp 8)),(9,a.eval (.tmp 9)),(10,a.eval (.tmp 10)),(11,a.eval (.tmp 11)),(12,a.eval (.tmp 12)),(13,a.eval (.tmp 13)),(14,a.eval (.tmp 14)),(15,a.eval (.tmp 15)),(16,a.eval (.tmp 16)),(17,a.eval (.tmp 17)),(18,a.eval (.tmp 18)),(19,a.eval (.tmp 19)),(6,.string (keyedB k++⟨#[1,(n/256).toUInt8,n.toUInt8]⟩++fourB pg))] (by simp) (by simp[hv];omega)];exact hQ _ _ _ _ _ _ _ _ _ _ _ _ _ X hB
theorem clong (k:ByteArray)(n q:Nat)(w:World)(hk:k.size≤200):Calls Tryz.prog 154 #[.string k,.int .i64 (n:Int),.int .i64 (q:Int)] w fun e w'=>e=.returned (.string (longB k n q))∧Below w.heap.size w w':=by
 go_enter Tryz.func154,Tryz.ntmps154;go_wp2_with fail
 refine regL k n q hk (by simp) rfl rfl rfl rfl (by kernel_rfl) (by kernel_rfl) (by kernel_rfl) (by kernel_rfl) (by kernel_rfl) (by kernel_rfl) (by kernel_rfl) (by kernel_rfl) (by kernel_rfl) (by kernel_rfl) (by kernel_rfl) (by kernel_rfl) ?_;intro u7 u8 u9 u10 u11 u12 u13 u14 u15 u16 u17 u18 u19 X hX;have HX:=hide (hX);have HI:=hide (show keyedB k++⟨#[1,(n/256).toUInt8,n.toUInt8]⟩++fourB q=longB k n q from rfl);rw[HI.out];clear hX;simp only[sets,List.setIfInBounds_toArray,List.set_cons_zero,List.set_cons_succ];go_wp2;go_ret;exact⟨rfl,HX.out⟩
open Go.Maps Go.Sort
def pgX (v:PgV):ByteArray:=⟨(sealed v.kind v.link v.cells.length (tx v.cells)).toArray⟩
structure okP (v:PgV):Prop where
 kind:1≤v.kind∧v.kind≤5
 link:v.link≤2147483647
 used:usedC v.cells≤1012
theorem len_cons (a:ByteArray)(l:List ByteArray):∀k,len (tx (a::l)) (k+1)=a.size+len (tx l) k
 | 0=>by simp[len,tx]
 | k + 1 => by
  show len (tx (a::l)) (k+1)+(tx (a::l) (k+1)).size=_;rw[len_cons a l k];show _+(tx l k).size=a.size+(len (tx l) k+(tx l k).size);omega
theorem used_len:∀l:List ByteArray,4*l.length+len (tx l) l.length=usedC l
 | []=>rfl
 | a :: l => by
  rw[List.length_cons,len_cons,usedC_cons,←used_len l];omega
theorem pgX_size {v:PgV}(h:okP v):(pgX v).size=1024:=by unfold pgX;rw[size_mk,sealed_len (by rw[used_len];exact h.used)]
theorem pgX_none (K Lk:Nat):pgX ⟨K,Lk,[]⟩=pgB K Lk:=pgB_any K Lk _
theorem range_tx (l:List ByteArray):(List.range l.length).map (tx l)=l:=by
 apply List.ext_getElem
 ·simp
 ·intro i h1 h2;simp[tx,h2]
theorem pgX_good {v:PgV}(h:okP v):good (pgX v)∧byt (pgX v) 4=v.kind∧four (pgX v) 8=v.link∧cls (pgX v)=v.cells:=
 have hu:4*v.cells.length+len (tx v.cells) v.cells.length≤1012:=by rw[used_len];exact h.used
 ⟨sealed_good h.kind h.link hu,sealed_kind hu h.kind.2,sealed_link hu h.link,by unfold pgX;rw[sealed_cls hu,range_tx]⟩
def flc (A:Nat→PgV):List Nat→Prop
 | []=>True
 | f::r=>A f=⟨3,r.headD 0,[]⟩∧flc A r
structure TS (w:World) (B D Gp:Nat) (V:PV) (K:Pgs) (pk m:Nat) (A:Nat→PgV) (fl:List Nat) (pages:Nat):Prop where
 po:∃C,PO w B D Gp V C K pk m∧∀n,n<pages→C (n:Int)=some (pgX (A n))∧okP (A n)
 pg:V.P.pages=pages
 fr:V.P.free=fl.headD 0
 zero:A 0=⟨4,fl.headD 0,[]⟩
 fls:flc A fl
 flin:∀f∈fl,0<f∧f<pages
 nf:NoF V.S
 fnd:fl.Nodup
section
variable {pk:Nat}
theorem TS.lo (h:TS w B D Gp V K pk m A fl pages):B≤w.heap.size:=by obtain⟨C,h,-⟩:=h.po;exact h.lo
theorem TS.below (h:TS w B D Gp V K pk m A fl pages)(hb:Below w.heap.size w w'):TS w' B D Gp V K pk m A fl pages∧St2 w w' B V V:=by
 obtain⟨C,h1,h2⟩:=h.po;exact⟨⟨⟨C,(h1.below hb).1,h2⟩,h.pg,h.fr,h.zero,h.fls,h.flin,h.nf,h.fnd⟩,(h1.below hb).2⟩
theorem TS.other (h:TS w B D Gp V K pk m A fl pages)(hg:w.grownBy w' (some c))(hc:isC w c t)(ht:tyQ t=false):TS w' B D Gp V K pk m A fl pages:=by
 obtain⟨C,h1,h2⟩:=h.po;exact⟨⟨C,h1.other hg hc ht,h2⟩,h.pg,h.fr,h.zero,h.fls,h.flin,h.nf,h.fnd⟩
theorem TS.stay {cs:Array Value}(h:TS w B D Gp V K pk m A fl pages)(hs:St2 w w' B V V')(hc:w.heap[c]?=some (.cells cs t (0,0)))(ht:tyQ t=false):w'.heap[c]?=some (.cells cs t (0,0)):=by
 obtain⟨C,h1,h2⟩:=h.po;exact h1.stay hs hc ht
theorem TS.mono {m':Nat}(h:TS w B D Gp V K pk m A fl pages)(hm:m≤m'):TS w B D Gp V K pk m' A fl pages:=by
 obtain⟨C,h1,h2⟩:=h.po;exact⟨⟨C,h1.mono hm,h2⟩,h.pg,h.fr,h.zero,h.fls,h.flin,h.nf,h.fnd⟩
theorem TS.flsmall (h:TS w B D Gp V K pk m A fl pages):fl.headD 0≤2147483647∧pages≤59000:=by
 obtain⟨C,h1,h2⟩:=h.po;have:=h1.pi.pg;have hp:=h.pg;refine⟨?_,by omega⟩;cases fl with
 | nil=>exact Nat.zero_le _
 | cons f r=>have:=(h.flin f (List.mem_cons_self ..)).2;show f≤_;omega
end
def TB (w:World)(tb Gp root:Nat):Prop:=w.heap[tb]?=some (.cells #[(.pointer (some ⟨Gp,0,none⟩)),.int .i64 (root:Int)] 92 (0,0))
theorem TB.cells (h:TB w tb Gp root):w.cell? ⟨tb,0,none⟩=some (.pointer (some ⟨Gp,0,none⟩))∧w.cell? ⟨tb,1,none⟩=some (.int .i64 (root:Int))∧tb<w.heap.size:=by
 have h:w.heap[tb]?=_:=h;exact⟨by simp[World.cell?,h],by simp[World.cell?,h],(Array.getElem?_eq_some_iff.1 h).1⟩
theorem ccheck (w:World):Calls Tryz.prog 73 #[.int .i64 0] w fun e w'=>e=.returned (.tuple #[])∧w'=w:=by
 go_enter Tryz.func73,Tryz.ntmps73;go_wp2;go_end0;exact⟨rfl,rfl⟩
section
variable {pk:Nat}
theorem ctread (h:TS w B D Gp V K pk m A fl pages)(hm:m≤50000)(ht:TB w tb Gp root)(n:Nat)(hn:n<pages):Calls Tryz.prog 163 #[(.pointer (some ⟨tb,0,none⟩)),.int .i64 (n:Int)] w fun e w'=>∃V' v,e=.returned (.agg #[.int .i64 ((A n).kind:Int),.int .i64 ((A n).link:Int),v])∧TS w' B D Gp V' K pk m A fl pages∧St2 w w' B V V'∧w'.ownsRow w.heap.size 9 1 v (A n).cells.length (valsS (A n).cells):=by
 obtain⟨t0,t1,tlt⟩:=ht.cells;have hb:Below w.heap.size w (w.alloc (.cells #[.int .i64 0,.int .i64 0,.slice none 0 0] 82)):=((Below.refl _ _).alloc (Nat.le_refl _) _);obtain⟨h1,s1⟩:=h.below hb;obtain⟨C,p1,hC⟩:=h1.po;have HR:=hide (creadP p1 hm (n:Int) (by omega) (by rw[h1.pg];omega));have HX:=hide (Bx3.new w (.int .i64 0) (.int .i64 0) (.slice none 0 0));have H1:=hide (h1);have HS1:=hide (s1);have HP1:=hide (p1);have HC:=hide (hC);have HN:=hide (hn);have HCn:=hide (hC n hn);have HLO:=hide (h.lo);clear h h1 s1 p1 hC hb hn ht;go_enter Tryz.func163,Tryz.ntmps163;go_wp2_with fail
 refine HR.out.mono ?_;rintro e w1⟨V1,k1,k2,k3,k4,(⟨t,k5,rfl⟩ | ⟨rfl,k5⟩)⟩
 ·rw[HCn.out.1] at k5;injection k5 with k5;subst k5;have HX1:=hide (HP1.out.stay k2 HX.out (by decide));have HQ1:=hide (show TS w1 B D Gp V1 K pk m A fl pages from⟨⟨C,k1,HC.out⟩,k3.trans H1.out.pg,k4.trans H1.out.fr,H1.out.zero,H1.out.fls,H1.out.flin,k2.nf H1.out.nf,H1.out.fnd⟩);have HS2:=hide (HS1.out.trans k2);clear k1 k2 k3 k4 HR;go_wp2_with fail
  refine(ccheck _).mono ?_;rintro e w2⟨rfl,hw⟩;rw[hw];clear hw;go_wp2_with fail
  refine(copenq (pgX (A n)) _ (pgX_size HCn.out.2)).mono ?_;rintro e w3⟨(⟨_,v,rfl,ho⟩ | ⟨k,_⟩),hb3⟩
  ·obtain⟨g1,g2,g3,g4⟩:=pgX_good HCn.out.2;rw[g4] at ho;rw[g2,g3];obtain⟨a,c,rfl,-⟩:=sta_own (L:=(A n).cells) ho;have HO:=hide (ho);have hX3:Bx3 w3 w.heap.size (.int .i64 0) (.int .i64 0) (.slice none 0 0):=Bx3.below HX1.out hb3;have x0:=hX3.c0;have x1:=hX3.c1;have x2:=hX3.c2;have y0:=hX3.fz 0;have y1:=hX3.fz 1;have y2:=hX3.fz 2;have hXlt:=hX3.lt;have HB3:=hide (hb3);generalize hkd:(A n).kind=kd at *;generalize hlk:(A n).link=lk at *;generalize hcl:(A n).cells=cl at *;have HE:=hide (show(A n).kind=kd∧(A n).link=lk∧(A n).cells=cl from⟨hkd,hlk,hcl⟩);have hg:=grown_put w3 w.heap.size (.int .i64 (kd:Int)) (.int .i64 (lk:Int)) (.slice a cl.length c);obtain⟨q3,r3⟩:=HQ1.out.below hb3;have q4:=q3.other hg ⟨_,hX3⟩ (by decide);have r4:=(HS2.out.trans r3).other hg (Nat.le_refl _) HLO.out;have ho4:=own_put hX3 ho (.int .i64 (kd:Int)) (.int .i64 (lk:Int)) (.slice a cl.length c);generalize hW4:((w3.setCell ⟨w.heap.size,0,none⟩ (.int .i64 (kd:Int))).setCell ⟨w.heap.size,1,none⟩ (.int .i64 (lk:Int))).setCell ⟨w.heap.size,2,none⟩ (.slice a cl.length c)=W4 at *;have HW4:=hide (hW4);obtain⟨q5,r5⟩:=q4.below (w':=W4.alloc (.cells #[.int .i64 (kd:Int),.int .i64 (lk:Int),.slice a cl.length c] 82)) ((Below.refl _ _).alloc (Nat.le_refl _) _);have HQ5:=hide (q5);have HS5:=hide (r4.trans r5);have HO5:=hide (own_mono (own_below ho4 (W':=W4.alloc (.cells #[.int .i64 (kd:Int),.int .i64 (lk:Int),.slice a cl.length c] 82)) ((Below.refl _ _).alloc (Nat.le_refl _) _)) (show w.heap.size≤w1.heap.size from Nat.le_trans (by simp) (HS2.out.bel.size)));clear g1 g2 g3 g4 ho hb3 hkd hlk hcl q3 r3 q4 r4 ho4 q5 r5 hW4 hg hX3 HO;go_wp2_with fail
   refine(ccheck _).mono ?_;rintro e w4⟨rfl,hw⟩;rw[hw];clear hw;go_wp2;rw[HW4.out];exact bodyPost_ret (v:=.agg #[.int .i64 (kd:Int),.int .i64 (lk:Int),.slice a cl.length c]) (by simp[results,Tryz.results163,go_sem,←HW4.out, *]) rfl ⟨V1,_,by rw[HE.out.1,HE.out.2.1],HQ5.out,HS5.out,by rw[HE.out.2.2];exact HO5.out⟩
  ·exact absurd (pgX_good HCn.out.2).1 k
 ·have:=(k2.nf H1.out.nf).2;rw[k5] at this;cases this
end
structure NV where
 kind:Nat
 link:Nat
 cells:List ByteArray
 num:Nat
 low:ByteArray
 high:ByteArray
 taken:Nat
def ndC (v:NV)(s:Value):Array Value:=#[.int .i64 (v.kind:Int),.int .i64 (v.link:Int),s,.int .i64 (v.num:Int),.string v.low,.string v.high,.int .i64 (v.taken:Int)]
def NB (w:World)(p:Nat)(v:NV)(s:Value):Prop:=w.heap[p]?=some (.cells (ndC v s) 98 (0,0))
theorem NB.cells {v:NV}{s:Value}(h:NB w p v s):w.cell? ⟨p,0,none⟩=some (.int .i64 (v.kind:Int))∧w.cell? ⟨p,1,none⟩=some (.int .i64 (v.link:Int))∧w.cell? ⟨p,2,none⟩=some s∧w.cell? ⟨p,3,none⟩=some (.int .i64 (v.num:Int))∧w.cell? ⟨p,4,none⟩=some (.string v.low)∧w.cell? ⟨p,5,none⟩=some (.string v.high)∧w.cell? ⟨p,6,none⟩=some (.int .i64 (v.taken:Int))∧(∀k,w.frozen? ⟨p,k,none⟩=false)∧p<w.heap.size:=by
 have h:w.heap[p]?=_:=h;refine⟨?_,?_,?_,?_,?_,?_,?_,fun k=>by simp[World.frozen?,h],(Array.getElem?_eq_some_iff.1 h).1⟩<;>simp[World.cell?,h,ndC]
def StB (w:World)(a:Option Addr)(l:List ByteArray):Prop:=l=[]∨∃b off cur,a=some ⟨b,off,none⟩∧w.heap[b]?=some (.cells cur 9 (0,0))∧∀i,i<l.length→cur[off+i]?=some (.string (tx l i))
theorem StB.sta (h:StB w a l):StA w a l.length (tx l):=by
 rcases h with rfl|⟨b,off,cur,rfl,hb,hc⟩
 ·exact .inl rfl
 ·exact .inr ⟨b,off,rfl,(Array.getElem?_eq_some_iff.1 hb).1,fun i hi=>by simp only[World.cell?,hb];exact hc i hi⟩
theorem StB.own {s:Value}(h:w.ownsRow base 9 1 s l.length (valsS l)):∃a c,s=.slice a l.length c∧StB w a l∧l.length≤c∧c≤maxLen:=by
 rcases h.2 with⟨rfl,h0⟩|⟨g,cap,cur,rfl,hg,hh,h1,h2,h3,h4⟩
 ·exact⟨none,0,by rw[h0],.inl (List.length_eq_zero_iff.1 h0),by omega,Nat.zero_le _⟩
 ·refine⟨_,cap,rfl,.inr ⟨g,0,cur,rfl,hh,fun i hi=>?_⟩,h1,h2⟩;have:(cur.toList.take (l.length*1))[i]?=(valsS l)[i]?:=by rw[h4]
  rw[List.getElem?_take] at this;simp only[Nat.mul_one,hi,if_true] at this;rw[Nat.zero_add,←Array.getElem?_toList,this];simp[valsS,tx,hi]
def ND (w:World)(B p:Nat)(v:NV):Prop:=∃s,NB w p v s∧w.ownsRow B 9 1 s v.cells.length (valsS v.cells)
def NR (w:World)(p:Nat)(v:NV):Prop:=∃a c,NB w p v (.slice a v.cells.length c)∧StB w a v.cells
theorem ND.nr {v:NV}(h:ND w B p v):NR w p v:=by
 obtain⟨s,h1,h2⟩:=h;obtain⟨a,c,rfl,h3,-⟩:=StB.own h2;exact⟨a,c,h1,h3⟩
def NRs (w:World)(p:Nat)(v:NV):Prop:=∃a c,NB w p v (.slice a v.cells.length c)∧StB w a v.cells∧∃g off:Nat,a=some ⟨g,off,none⟩
theorem NRs.nr {v:NV}(h:NRs w p v):NR w p v:=by
 obtain⟨a,c,h1,h2,-⟩:=h;exact⟨a,c,h1,h2⟩
theorem NR.s {v:NV}(h:NR w p v)(h0:0<v.cells.length):NRs w p v:=by
 obtain⟨a,c,h1,h2⟩:=h;refine⟨a,c,h1,h2,?_⟩;rcases h2 with e|⟨b,off,_,e,_⟩
 ·rw[e] at h0;exact absurd h0 (by simp)
 ·exact⟨b,off,e⟩
def pgN (v:NV):PgV:=⟨v.kind,v.link,v.cells⟩
section
variable {pk:Nat}
theorem TS.stayNB {v:NV}{s:Value}(h:TS w B D Gp V K pk m A fl pages)(hs:St2 w w' B V V')(hn:NB w p v s):NB w' p v s:=h.stay hs hn (by decide)
theorem TS.stayTB (h:TS w B D Gp V K pk m A fl pages)(hs:St2 w w' B V V')(hn:TB w tb Gp root):TB w' tb Gp root:=h.stay hs hn (by decide)
theorem TS.staySt (h:TS w B D Gp V K pk m A fl pages)(hs:St2 w w' B V V')(hn:StB w a l):StB w' a l:=by
 rcases hn with hn|⟨b,off,cur,e,hb,hc⟩
 ·exact .inl hn
 ·exact .inr ⟨b,off,cur,e,h.stay hs hb (by decide),hc⟩
theorem TS.stayR {s:Value}{xs:List Value}(h:TS w B D Gp V K pk m A fl pages)(hs:St2 w w' B V V')(hr:w.ownsRow base 9 1 s n xs):w'.ownsRow base 9 1 s n xs:=by
 rcases hr.2 with⟨e,h0⟩|⟨g,cap,cur,e,hg,hh,h1⟩
 ·exact⟨hr.1,.inl ⟨e,h0⟩⟩
 ·exact⟨hr.1,.inr ⟨g,cap,cur,e,hg,h.stay hs hh (by decide),h1⟩⟩
theorem TS.stayND {v:NV}(h:TS w B D Gp V K pk m A fl pages)(hs:St2 w w' B V V'){b:Nat}(hn:ND w b p v):ND w' b p v:=by
 obtain⟨s,h1,h2⟩:=hn;exact⟨s,h.stayNB hs h1,h.stayR hs h2⟩
theorem TS.stayNR {v:NV}(h:TS w B D Gp V K pk m A fl pages)(hs:St2 w w' B V V')(hn:NR w p v):NR w' p v:=by
 obtain⟨a,c,h1,h2⟩:=hn;exact⟨a,c,h.stayNB hs h1,h.staySt hs h2⟩
theorem TS.stayNRs {v:NV}(h:TS w B D Gp V K pk m A fl pages)(hs:St2 w w' B V V')(hn:NRs w p v):NRs w' p v:=by
 obtain⟨a,c,h1,h2,h3⟩:=hn;exact⟨a,c,h.stayNB hs h1,h.staySt hs h2,h3⟩
structure AllR (A:Nat→PgV) (fl:List Nat) (pages n:Nat) (A':Nat→PgV) (fl':List Nat) (pages':Nat):Prop where
 same:∀x,¬x=0→¬x=n→A' x=A x
 perm:∀X:List Nat,(0::(fl++X)).Perm (List.range pages)→(0::(fl'++(n::X))).Perm (List.range pages')
 pos:0<n∧n<pages'
 pgs:pages≤pages'∧pages'≤pages+1
theorem flc_congr:∀{l:List Nat},flc A l→(∀x∈l,A' x=A x)→flc A' l
 | [],_,_=>trivial
 | f::r,⟨h1,h2⟩,h=>⟨by rw[h f (List.mem_cons_self ..)];exact h1,flc_congr h2 fun x hx=>h x (List.mem_cons_of_mem _ hx)⟩
theorem wth_nat (C:Pgs)(n x:Nat)(s:ByteArray):wth C (n:Int) s (x:Int)=if x=n then some s else C (x:Int):=by
 by_cases e:x=n
 ·subst e;rw[wth_at,if_pos rfl]
 ·rw[wth_ne _ _ (by omega),if_neg e]
end
end Go.Proofs.YtiaibgfhigdgdaaGreat
