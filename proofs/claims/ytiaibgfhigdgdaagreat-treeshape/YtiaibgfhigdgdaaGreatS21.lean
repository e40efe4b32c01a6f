/- a part -/
import Derived.Test.YtiaibgfhigdgdaaGreatS20
import Derived.Deep.CutBlock
set_option maxRecDepth 100000
set_option maxHeartbeats 8000000
namespace Go.Proofs.YtiaibgfhigdgdaaGreat
open Go.RowKit Go.Lib Go.Maps Go.Sort
variable {es es':List Ent}{k b pages d B D Gp c m n i j sp g cap link num:Nat}{v va vb vc vci vc' x y z v':Value}{A:Nat→PgV}{fl lv ln:List Nat}{X Y w w' X':World}{V V' Vi:PV}{K:Pgs}{ks cl:List ByteArray}{o:Obj}{lo hi:ByteArray}{xs:List Value}{t:TypeId}{α:Type}{cur:Array Value}
abbrev SortK (l:List ByteArray):Prop:=l.Pairwise (fun a b=>klt a b=true)
theorem ent_sort:∀(d:Nat) (lo hi:ByteArray) (t:T d),Bnd d lo hi t→SortK ((entT d t).map (·.1))
 | 0, lo, hi, t, h => by
  have:=(keys_sort 0 h).2.1;show SortK ((t.its.map fun i=>(i.key,i.val)).map (·.1));rw[List.map_map];exact this
 | d + 1, lo, hi, t, h => by
  have key:∀(s:List (ByteArray×T d)),BS (Bnd d) s hi→SortK ((entS s).map (·.1)):=by
   intro s
   induction s with
   | nil=>intro _;exact List.Pairwise.nil
   | cons p r ih =>
    intro hb;obtain⟨h1,h2,h3,h4⟩:=hb;rw[entS_cons,List.map_append];refine List.pairwise_append.2 ⟨ent_sort d _ _ p.2 h2,ih h4,fun a ha b hb'=>?_⟩;obtain⟨e,he,rfl⟩:=List.mem_map.1 ha;obtain⟨f,hf,rfl⟩:=List.mem_map.1 hb';have g1:=(ent_in d _ _ p.2 h2 e he).2.1;have g2:=(entS_in d r hi h4 f hf).1;cases r with
    | nil=>simp[entS] at hf
    | cons q r =>
     rcases g1 with g1|g1
     ·have hq:=(h3 q (by simp)).1;have g1:q.1=⟨#[]⟩:=g1;rw[g1] at hq;exact absurd hq (by decide)
     ·exact klt_le g1 g2
  exact key t.kids h.2
theorem sort_nodup {l:List ByteArray}(h:SortK l):l.Nodup:=h.imp fun{a b} hab e=>by
 rw[e,klt_irr] at hab;cases hab
theorem put_keys {k v:ByteArray}(h:PutR es k v es'):(∀y,y∈es'.map (·.1)↔y=k∨y∈es.map (·.1))∧es'.length≤es.length+1:=by
 obtain⟨p,s,h1,h2,-,-⟩:=h;subst h2;rcases h1 with rfl|⟨v0,rfl⟩
 ·refine⟨fun y=>?_,by simp;omega⟩;simp only[List.map_append,List.map_cons,List.mem_append,List.mem_cons];constructor
  ·rintro(h|h|h)
   ·exact .inr (.inl h)
   ·exact .inl h
   ·exact .inr (.inr h)
  ·rintro(h|h|h)
   ·exact .inr (.inl h)
   ·exact .inl h
   ·exact .inr (.inr h)
 ·refine⟨fun y=>?_,by simp⟩;simp only[List.map_append,List.map_cons,List.mem_append,List.mem_cons];constructor
  ·exact fun h=>.inr h
  ·rintro(h|h)
   ·exact .inr (.inl h)
   ·exact h
theorem del_keys {k:ByteArray}{b:Bool}(h:DelR es k b es'):(∀y,y∈es'.map (·.1)↔¬y=k∧y∈es.map (·.1))∧es'.length≤es.length+1:=by
 obtain⟨p,s,h1,h2,h3,h4⟩:=h;subst h2;have n1:∀y∈p.map (·.1),¬y=k:=fun y hy e=>by
  obtain⟨q,hq,rfl⟩:=List.mem_map.1 hy;have:=h3 q hq;rw[e,klt_irr] at this;cases this
 have n2:∀y∈s.map (·.1),¬y=k:=fun y hy e=>by
  obtain⟨q,hq,rfl⟩:=List.mem_map.1 hy;have:=h4 q hq;rw[e,klt_irr] at this;cases this
 have n3:∀y,y∈(p++s).map (·.1)→¬y=k:=fun y hy=>by
  rw[List.map_append,List.mem_append] at hy;exact hy.elim (n1 y) (n2 y)
 rcases h1 with⟨rfl,-⟩|⟨v0,rfl,-⟩
 ·exact⟨fun y=>⟨fun h=>⟨n3 y h,h⟩,fun h=>h.2⟩,by simp⟩
 ·refine⟨fun y=>⟨fun h=>⟨n3 y h,?_⟩,fun h=>?_⟩,by simp;omega⟩
  ·simp only[List.map_append,List.map_cons,List.mem_append,List.mem_cons] at h ⊢;exact h.imp id .inr
  ·obtain⟨hk,h⟩:=h;simp only[List.map_append,List.map_cons,List.mem_append,List.mem_cons] at h ⊢;rcases h with h|h|h
   ·exact .inl h
   ·exact absurd h hk
   ·exact .inr h
theorem lk_at:∀{l:List (Nat×Nat)},lk l 0→∀(i:Nat) (h:i<l.length),(∀h':i+1<l.length,l[i].2=l[i+1].1)∧(i+1=l.length→l[i].2=0)
 | p :: r, hl, 0, _ => by
  have h1:p.2=hdL r 0:=hl.1;cases r with
  | nil=>exact⟨fun h'=>absurd h' (by simp),fun _=>h1⟩
  | cons q r=>exact⟨fun _=>h1,fun h'=>absurd h' (by simp)⟩
 | p :: r, hl, i + 1, h => by
  have:=lk_at hl.2 i (by simpa using h);exact⟨fun h'=>this.1 (by simpa using h'),fun h'=>this.2 (by simpa using h')⟩
structure TrF (A:Nat→PgV) (fl:List Nat) (pages d:Nat) (t:T d) (es:List Ent):Prop where
 ent:entT d t=es
 bnd:Bnd d ⟨#[]⟩ ⟨#[]⟩ t
 lks:lk (lvsT d t) 0
 all:∀q∈nodT d t,A q.1=q.2
 num:∀n∈numsT d t,0<n∧n<pages
 cnt:1+fl.length+(nodT d t).length=pages
 srt:SortK (es.map (·.1))
 key:∀e∈es,okK e.1
 dep:es.length≤250→d≤7
theorem Tr.facts {t:T d}(h:Tr A fl pages [] t es):TrF A fl pages d t es:=by
 have hb:Bnd d ⟨#[]⟩ ⟨#[]⟩ t:=h.sx.wf.at;have he:entT d t=es:=by simpa[pre1,suf1] using h.sx.wf.ent
 have hp:(0::(fl++numsT d t)).Perm (List.range pages):=by
  have:=h.sx.perm;unfold restN at this;simp only[nod1,List.append_nil] at this;unfold numsT;rw[nodT_eq];exact this
 refine⟨he,hb,by simpa[lpre1,lsuf1] using h.sx.wf.lks,fun q hq=>?_,fun n hn=>?_,?_,?_,fun e hm=>?_,fun hl=>?_⟩
 ·rw[nodT_eq,List.mem_cons] at hq;rcases hq with rfl | hq
  ·exact h.own
  ·exact h.sx.rep q (by unfold restN;exact List.mem_append_left _ hq)
 ·have h1:n<pages:=List.mem_range.1 (hp.mem_iff.1 (by simp[hn]));have h2:=hp.nodup_iff.2 List.nodup_range;rw[List.nodup_cons] at h2;have h3:¬n=0:=fun e=>h2.1 (by rw[←e];simp[hn])
  omega
 ·have:=hp.length_eq;rw[List.length_cons,List.length_append,List.length_range] at this;unfold numsT at this;rw[List.length_map] at this;omega
 ·rw[←he];exact ent_sort d _ _ t hb
 ·rw[←he] at hm;exact(ent_in d _ _ t hb e hm).2.2
 ·rcases h.ok.many with h0|h0
  ·omega
  ·rw[he] at h0;have hlt:2 ^ d<2 ^ 8:=Nat.lt_of_le_of_lt (Nat.le_trans h0 hl) (by decide);have:=(Nat.pow_lt_pow_iff_right (by decide:1<2)).1 hlt;omega
theorem lvs_len:∀(d:Nat) (t:T d),(lvsT d t).length≤(nodT d t).length
 | 0, t => by
  show 1≤(_::_:List (Nat×PgV)).length;simp
 | d + 1, t => by
  show(t.kids.flatMap fun p=>lvsT d p.2).length≤((t.num,pgT (d+1) t)::t.kids.flatMap fun p=>nodT d p.2).length;have key:∀s:List (ByteArray×T d),(s.flatMap fun p=>lvsT d p.2).length≤(s.flatMap fun p=>nodT d p.2).length:=by
   intro s
   induction s with
   | nil=>simp
   | cons p r ih =>
    have:=lvs_len d p.2;simp only[List.flatMap_cons,List.length_append];omega
  have:=key t.kids;simp only[List.length_cons];omega
theorem PP.mapped {b:Bk}{P:PS}{L:LS}{S:DS}(h:PP X B D Gp b P L S)(hg:X.grownBy Y (some c))(hc:isM X c)(hM:¬c∈b.M):PP Y B D Gp b P L S:=by
 obtain⟨k1,k2,k3,k4,k5,k6,k7,k8⟩:=h.kinds;have st:∀d,¬d=c→d<X.heap.size→Y.heap[d]?=X.heap[d]?:=fun d hd hl=>hg.block d hl (fun e=>by injection e with e;exact hd e)
 have nC:∀{d:Nat} {t:TypeId},isC X d t→¬d=c:=fun hd e=>ne_CM hd hc e.symm
 have nM:∀d,d∈b.M→¬d=c:=fun d hd e=>hM (e ▸ hd)
 have far:farT tyP X c:=fun cur e fz he=>by
  obtain⟨es,clock,hb⟩:=hc;rw[hb] at he;cases he
 exact⟨(st _ (nC k1) h.lt).trans h.blk,h.log.other hg far (nC k2) (nM _ (by simp[Bk.M])) (nM _ (by simp[Bk.M])),h.fmap.keep (st _ (nM _ (by simp[Bk.M])) h.fmap.lt),h.chm.keep (st _ (nM _ (by simp[Bk.M])) h.chm.lt),fun n f hf=>⟨(st _ (nC (k7 n f hf)) (h.fcells hf).2.2.2.2.2).trans (h.frs n f hf).1,(h.frs n f hf).2⟩,h.inj,row_keep h.ord fun g hg'=>st _ (nC (k8 g hg')) (h.rowblk hg').2.2,h.low,h.dif⟩
section
variable {pk:Nat}
theorem TS.mapped (h:TS w B D Gp V K pk m A fl pages)(hg:w.grownBy w' (some c))(hc:isM w c)(hM:¬c∈V.b.M):TS w' B D Gp V K pk m A fl pages:=by
 obtain⟨C,h1,h2⟩:=h.po;exact⟨⟨C,⟨h1.pp.mapped hg hc hM,h1.pi,Nat.le_trans h1.lo hg.size⟩,h2⟩,h.pg,h.fr,h.zero,h.fls,h.flin,h.nf,h.fnd⟩
theorem MT.stay (h:MT w c n ks)(hM:¬c∈V.b.M)(hs:St2 w w' B V V'):MT w' c n ks∧¬c∈V'.b.M:=by
 refine⟨h.keep (hs.bel.far c h.lt (fun cur e fz he=>?_) hM),fun hm=>(hs.bel.maps c hm).elim hM (fun k=>?_)⟩
 ·obtain⟨es,clock,hb⟩:=h.isMap;rw[hb] at he;cases he
 ·have:=h.lt;omega
end
def A00:Nat→PgV:=fun _=>⟨4,0,[]⟩
theorem ts_first (h:PO w B D Gp V K00 K00 1 1)(hn:NoF V.S)(hp:V.P.pages=1)(hf:V.P.free=0):TS w B D Gp V K00 1 1 A00 [] 1:=by
 refine⟨⟨K00,h,fun n hn'=>⟨?_,(show okP ⟨4,0,[]⟩ from⟨⟨by decide,by decide⟩,by decide,by decide⟩)⟩⟩,hp,hf,rfl,trivial,fun f hf=>by simp at hf,hn,List.nodup_nil⟩;have e:n=0:=by omega
 subst e;show K00 0=some (pgX ⟨4,0,[]⟩);rw[pgX_none];rfl
structure LwT (w0 X:World) (D Gp tb mb rt:Nat) (V:PV) (m:Nat) (A:Nat→PgV) (fl:List Nat) (pages d:Nat) (t:T d) (es:List Ent) (i:Nat):Prop where
 ts:TS X w0.heap.size D Gp V K00 1 m A fl pages
 tr:Tr A fl pages [] t es
 root:numT d t=rt
 tb:TB X tb Gp rt
 mp:MT X mb i (es.map (·.1))
 far:¬mb∈V.b.M
 len:es.length≤i
 mm:m≤4+58*i
 pp:pages≤2+14*i
 bel:Below w0.heap.size w0 X
 low:w0.heap.size≤mb
def LwE (w0 X:World)(D Gp tb mb rt i:Nat):Prop:=∃(V:PV) (m:Nat) (A:Nat→PgV) (fl:List Nat) (pages d:Nat) (t:T d) (es:List Ent),LwT w0 X D Gp tb mb rt V m A fl pages d t es i
section
variable {w0:World}{tb mb rt:Nat}{t:T d}
theorem LwT.below (h:LwT w0 X D Gp tb mb rt V m A fl pages d t es i)(hb:Below X.heap.size X Y):LwT w0 Y D Gp tb mb rt V m A fl pages d t es i:=by
 obtain⟨t2,s2⟩:=h.ts.below hb;obtain⟨m2,f2⟩:=h.mp.stay h.far s2;exact⟨t2,h.tr,h.root,h.ts.stayTB s2 h.tb,m2,f2,h.len,h.mm,h.pp,h.bel.trans (hb.mono h.bel.size),h.low⟩
theorem LwT.after {R:List Ent→Prop}(h:LwT w0 X D Gp tb mb rt V m A fl pages d t es i)(hi:i<250)(hp:putPost X w0.heap.size D Gp V K00 1 m pages [] rt d R Y):∃(V':PV) (m':Nat) (A':Nat→PgV) (fl':List Nat) (pages' d':Nat) (t':T d') (es':List Ent),TS Y w0.heap.size D Gp V' K00 1 m' A' fl' pages'∧Tr A' fl' pages' [] t' es'∧numT d' t'=rt∧TB Y tb Gp rt∧MT Y mb i (es.map (·.1))∧¬mb∈V'.b.M∧R es'∧m'≤4+58*(i+1)∧pages'≤2+14*(i+1)∧Below w0.heap.size w0 Y:=by
 obtain⟨V',A',fl',pages',d',t',es',p1,p2,p3,p4,p5,p6⟩:=hp;have hd:=h.tr.facts.dep (by have:=h.len;omega);obtain⟨m2,f2⟩:=h.mp.stay h.far p5;have:=h.mm;have:=h.pp;exact⟨V',_,A',fl',pages',d',t',es',p1,p2,p3,h.ts.stayTB p5 h.tb,m2,f2,p4,by omega,by omega,h.bel.trans p5.bel.toBelow⟩
theorem low_grown {Z:World}(h:Below w0.heap.size w0 Y)(hg:Y.grownBy Z (some c))(hc:w0.heap.size≤c):Below w0.heap.size w0 Z:=
 h.trans ⟨hg.os,hg.tape,hg.output,hg.size,fun j hj=>hg.block j (Nat.lt_of_lt_of_le hj h.size) (fun e=>by injection e with e;omega)⟩
theorem kPut (h:LwT w0 X D Gp tb mb rt V m A fl pages d t es i)(hi:i<250)(k v:ByteArray)(hk:okK k)(hv:v.size≤3000):Calls Tryz.prog 19 #[(.pointer (some ⟨tb,0,none⟩)),.string k,.string v] X fun e w'=>e=.returned (.int .i64 0)∧∃Z,(Instr.mapUpdate 54 (.map (some mb)) (.string k) (.int .i64 1)).run Tryz.prog w'=.ok () Z∧LwE w0 Z D Gp tb mb rt (i+1):=by
 have hd:=h.tr.facts.dep (by have:=h.len;omega);have hc:=cPut h.ts (by have:=h.mm;omega) (by have:=h.pp;omega) h.tr (h.root ▸ h.tb) k v hk hv (by omega);rw[h.root] at hc;refine hc.mono ?_;rintro e w'⟨rfl,hp⟩;obtain⟨V',m',A',fl',pages',d',t',es',p1,p2,p3,p4,p5,p6,p7,p8,p9,p10⟩:=h.after hi hp;obtain⟨q1,q2⟩:=put_keys p7;obtain⟨Z,z1,z2,z3⟩:=p5.put (by omega) (show k.size≤maxLen by have:=hk.2;unfold maxLen;omega) q1;refine⟨rfl,Z,z1,V',m',A',fl',pages',d',t',es',p1.mapped z3 p5.isMap p6,p2,p3,?_,z2,p6,by have:=h.len;omega,p8,p9,low_grown p10 z3 h.low,h.low⟩;have p4':w'.heap[tb]?=_:=p4;refine(z3.block tb (Array.getElem?_eq_some_iff.1 p4').1 (fun e=>?_)).trans p4';injection e with e;obtain⟨es0,ck,hm⟩:=p5.isMap;rw[←e,p4'] at hm;cases hm
theorem kPutL (h:LwT w0 X D Gp tb mb rt V m A fl pages d t es i)(hi:i<250)(k v:ByteArray)(hk:okK k)(hv:3000<v.size)(hs:v.size≤9223372036854775807):Calls Tryz.prog 19 #[(.pointer (some ⟨tb,0,none⟩)),.string k,.string v] X fun e w'=>e=.returned (.int .i64 8)∧Below X.heap.size X w'∧∃Z,(Instr.mapUpdate 54 (.map (some mb)) (.string k) (.int .i64 1)).run Tryz.prog w'=.ok () Z∧(∀c,c<w'.heap.size→¬c=mb→Z.heap[c]?=w'.heap[c]?)∧Below w0.heap.size w0 Z:=by
 refine(cPutL k v hk hv hs tb X).mono ?_;rintro e w'⟨rfl,hb⟩;have h2:=h.below hb;obtain⟨Z,z1,z2,z3⟩:=h2.mp.put (ks':=k::es.map (·.1)) (by omega) (show k.size≤maxLen by have:=hk.2;unfold maxLen;omega) (fun y=>by simp);exact⟨rfl,hb,Z,z1,fun c hc hn=>z3.block c hc (fun e=>by injection e with e;exact hn e),low_grown h2.bel z3 h.low⟩
theorem kDel (h:LwT w0 X D Gp tb mb rt V m A fl pages d t es i)(hi:i<250)(k:ByteArray)(hk:okK k):Calls Tryz.prog 20 #[(.pointer (some ⟨tb,0,none⟩)),.string k] X fun e w'=>∃is:Bool,e=.returned (.tuple #[.bool is,.int .i64 0])∧∀ty,∃Z,(Builtin.delete_ #[54,9] ty #[.map (some mb),.string k]).run Tryz.prog w'=.ok (.tuple #[]) Z∧LwE w0 Z D Gp tb mb rt (i+1):=by
 have hd:=h.tr.facts.dep (by have:=h.len;omega);have hc:=cDelete h.ts (by have:=h.mm;omega) (by have:=h.pp;omega) h.tr (h.root ▸ h.tb) k hk (by omega);rw[h.root] at hc;refine hc.mono ?_;rintro e w'⟨is,rfl,hp⟩;refine⟨is,rfl,fun ty=>?_⟩;obtain⟨V',m',A',fl',pages',d',t',es',p1,p2,p3,p4,p5,p6,p7,p8,p9,p10⟩:=h.after hi hp;obtain⟨q1,q2⟩:=del_keys p7;obtain⟨Z,z1,z2,z3⟩:=p5.drop (show k.size≤maxLen by have:=hk.2;unfold maxLen;omega) q1 ty;refine⟨Z,z1,V',m',A',fl',pages',d',t',es',p1.mapped z3 p5.isMap p6,p2,p3,?_,z2.mono (by omega),p6,by have:=h.len;omega,p8,p9,low_grown p10 z3 h.low,h.low⟩;have p4':w'.heap[tb]?=_:=p4;refine(z3.block tb (Array.getElem?_eq_some_iff.1 p4').1 (fun e=>?_)).trans p4';injection e with e;obtain⟨es0,ck,hm⟩:=p5.isMap;rw[←e,p4'] at hm;cases hm
end
theorem step_append_ownM {P:Program}{ops:Array Oper}{o:Oper}{a:Act}{K:Act→World→Prop}{Q:Exit→Act→World→Prop}{E:Prop}(hg:o.guard=none)(s x:Operand)(t:TypeId)(hop:o.op=Op.call { callee:=Callee.builtin Builtin.append,args:=#[s,x],argTypes:=#[t,t]})(base:Nat)(e:TypeId)(i:TypeInfo)(z:Value)(size bytes:Nat)(h1:P.underlying t=some (.slice e))(h2:P.info? e=some i)(h3:i.zero=some z)(h4:i.size=size)(h5:i.bytes=bytes)(h6:z.cells.size=size)(h7:0<size)(v:Value)(n:Nat)(xs:List Value)(hs:a.eval s=v)(hown:w.ownsRow base e size v n xs)(ad:Addr)(m c:Nat)(news:List Value)(hx:a.eval x=.slice (some ad) m c)(hn:news.length=m*size)(hc:∀j u,news[j]?=some u→w.cell? (ad.add j)=some u)(h1c:∀u∈news,u.oneCell'=true)(b1:n+m≤maxLen)(b2:(n+m)*bytes≤140737488355328)(hbase:base≤w.heap.size)(hK:∀v' w',w'.ownsRow base e size v' (n+m) (xs++news)→w.grownBy w' v.ownBlock→(v'.ownBlock=v.ownBlock∨v'.ownBlock=some w.heap.size)→K (a.put o.dst v') w'):if Region.wanted o (yielded ops a.tmps)=true then Oper.wp P o a w K Q else E:=by
 have hw:Region.wanted o (yielded ops a.tmps)=true:=by simp[Region.wanted,hg]
 rw[if_pos hw];obtain⟨v',w',hrun,r1,r2,_,r4⟩:=run_append_own_at (P:=P) w base t o.type e i z size bytes h1 h2 h3 h4 h5 h6 h7 v n xs hown ad m c news hn hc h1c b1 b2 hbase;unfold Oper.wp;simp[execOp,hop,resolve,invoke,builtin,hs,hx,hrun,Result.andThen];exact hK v' w' r1 r2 r4
def lastK (cl:List ByteArray):Nat→ByteArray
 | 0=>⟨#[]⟩
 | j+1=>keyB (tx cl j)
theorem used_takeS (h:j<cl.length):usedC (cl.take (j+1))=usedC (cl.take j)+(4+(tx cl j).size):=by
 rw[take_snoc h,tx_get h,usedC_app];simp[usedC]
theorem used_take_le (cl:List ByteArray)(j:Nat):usedC (cl.take j)≤usedC cl:=by
 have e:=usedC_app (cl.take j) (cl.drop j);rw[List.take_append_drop] at e;omega
theorem empty_of {a:ByteArray}(h:¬a=⟨#[]⟩):a.toList.isEmpty=false:=by
 cases he:a.toList.isEmpty with
 | false=>rfl
 | true =>
  refine absurd ?_ h;rw[List.isEmpty_iff,ByteArray.toList_eq] at he;cases a with
  | mk d =>
   have h1:=congrArg List.length he;simp at h1;subst h1;rfl
structure NoS (w X:World) (sp B D Gp:Nat) (V Vi:PV) (K:Pgs) (pk m:Nat) (A:Nat→PgV) (fl:List Nat) (pages k:Nat) (va vb vc vci:Value) (lv ln:List Nat) (ks:List ByteArray):Prop where
 ts:TS X B D Gp Vi K pk m A fl pages
 shp:Sp X sp Vi k va vb vci lv ln ks true
 hf:HF sp B w X V Vi vc vci
def nodP (w:World)(sp B D Gp:Nat)(V:PV)(K:Pgs)(pk m:Nat)(A:Nat→PgV)(fl:List Nat)(pages k:Nat)(vc:Value)(lv ln:List Nat)(ks:List ByteArray)(dep cnt:Nat)(lvs:List (Nat×Nat))(es:List Ent)(e:Ending)(w':World):Prop:=
 e=.returned (.int .i64 (dep:Int))∧∃(V':PV) (va' vb' vc':Value),NoS w w' sp B D Gp V V' K pk m A fl pages (k+cnt) va' vb' vc vc' (lv++lvs.map (·.1)) (ln++lvs.map (·.2)) (ks++es.map (·.1))
section
variable {pk:Nat}
theorem NoS.below (h:NoS w X sp B D Gp V Vi K pk m A fl pages k va vb vc vci lv ln ks)(hb:Below X.heap.size X X'):NoS w X' sp B D Gp V Vi K pk m A fl pages k va vb vc vci lv ln ks:=by
 obtain⟨t2,s2⟩:=h.ts.below hb;exact⟨t2,h.ts.staySp s2 h.shp,h.hf.trans (h.ts.hf s2 sp _)⟩
theorem HF.row {lo:Nat}(h:HF sp B w w' V V' vc vc')(hr:w.ownsRow lo 9 1 v n xs)(hn:∀g,v.ownBlock=some g→¬vc.ownBlock=some g):w'.ownsRow lo 9 1 v n xs∧∀g,v.ownBlock=some g→¬vc'.ownBlock=some g:=by
 have f:∀g,v.ownBlock=some g→w'.heap[g]?=w.heap[g]?∧¬vc'.ownBlock=some g:=fun g hg=>by
  obtain⟨cs,hcs⟩:=row_isC hr hg;obtain⟨a,b⟩:=h.str g cs hcs (hn g hg);exact⟨a.trans hcs.symm,b⟩
 exact⟨row_keep hr fun g hg=>(f g hg).1,fun g hg=>(f g hg).2⟩
theorem HF.bx (h:HF sp B w w' V V' vc vc')(hb:Bx3 w b x y z):Bx3 w' b x y z:=h.blk b _ _ hb (by decide) (by decide) (by decide)
theorem NoS.appA (h:NoS w X sp B D Gp V Vi K pk m A fl pages k va vb vc vci lv ln ks)(hB:B≤sp)(hg:(X.alloc o).grownBy Y va.ownBlock)(ho:Y.ownsRow sp 3 1 v' (lv.length+1) (intsN lv++[.int .i64 (n:Int)]))(hn:v'.ownBlock=va.ownBlock∨v'.ownBlock=some (X.heap.size+1)):NoS w (Y.setCell ⟨sp,1,none⟩ v') sp B D Gp V Vi K pk m A fl pages k v' vb vc vci (lv++[n]) ln ks∧HF sp B X (Y.setCell ⟨sp,1,none⟩ v') Vi Vi vci vci:=by
 have h2:=h.below (show Below X.heap.size X (X.alloc o) from((Below.refl _ _).alloc (Nat.le_refl _) _));obtain⟨a,b,c⟩:=Sp.appA h2.ts h2.shp hB hg ho (by simpa using hn);exact⟨⟨a,b,h2.hf.trans c⟩,(h.ts.hf (h.ts.below (show Below X.heap.size X (X.alloc o) from((Below.refl _ _).alloc (Nat.le_refl _) _))).2 sp vci).trans c⟩
theorem NoS.appB (h:NoS w X sp B D Gp V Vi K pk m A fl pages k va vb vc vci lv ln ks)(hB:B≤sp)(hg:(X.alloc o).grownBy Y vb.ownBlock)(ho:Y.ownsRow sp 3 1 v' (ln.length+1) (intsN ln++[.int .i64 (n:Int)]))(hn:v'.ownBlock=vb.ownBlock∨v'.ownBlock=some (X.heap.size+1)):NoS w (Y.setCell ⟨sp,2,none⟩ v') sp B D Gp V Vi K pk m A fl pages k va v' vc vci lv (ln++[n]) ks∧HF sp B X (Y.setCell ⟨sp,2,none⟩ v') Vi Vi vci vci:=by
 have h2:=h.below (show Below X.heap.size X (X.alloc o) from((Below.refl _ _).alloc (Nat.le_refl _) _));obtain⟨a,b,c⟩:=Sp.appB h2.ts h2.shp hB hg ho (by simpa using hn);exact⟨⟨a,b,h2.hf.trans c⟩,(h.ts.hf (h.ts.below (show Below X.heap.size X (X.alloc o) from((Below.refl _ _).alloc (Nat.le_refl _) _))).2 sp vci).trans c⟩
theorem NoS.appC {n:ByteArray}(h:NoS w X sp B D Gp V Vi K pk m A fl pages k va vb vc vci lv ln ks)(hB:B≤sp)(hg:(X.alloc o).grownBy Y vci.ownBlock)(ho:Y.ownsRow sp 9 1 v' (ks.length+1) (valsS ks++[.string n]))(hn:v'.ownBlock=vci.ownBlock∨v'.ownBlock=some (X.heap.size+1)):NoS w (Y.setCell ⟨sp,3,none⟩ v') sp B D Gp V Vi K pk m A fl pages k va vb vc v' lv ln (ks++[n])∧HF sp B X (Y.setCell ⟨sp,3,none⟩ v') Vi Vi vci v':=by
 have h2:=h.below (show Below X.heap.size X (X.alloc o) from((Below.refl _ _).alloc (Nat.le_refl _) _));obtain⟨a,b,c⟩:=Sp.appC h2.ts h2.shp hB hg ho (by simpa using hn);exact⟨⟨a,b,h2.hf.trans c⟩,(h.ts.hf (h.ts.below (show Below X.heap.size X (X.alloc o) from((Below.refl _ _).alloc (Nat.le_refl _) _))).2 sp vci).trans c⟩
theorem restB_sz {c:ByteArray}(h:kS c≤c.size):(restB c).size=c.size-kS c:=by
 unfold restB;rw[ByteArray.size_extract];omega
theorem cell_b0 {i:It}(hi:okI i):bytS (cellI i) 0=i.key.size:=by
 obtain⟨a,b,-,-⟩:=cellI_key hi;have e:(keyB (cellI i)).size=i.key.size:=by rw[a]
 have hk:kS (cellI i)=1+bytS (cellI i) 0:=rfl;unfold keyB at e;rw[ByteArray.size_extract] at e;omega
theorem cmoreI (h:TS w B D Gp V K pk m A fl pages)(hm:m≤50000)(hp:Sp w sp V k va vb vc lv ln ks true)(hB:B≤sp)(i:It)(hi:okI i)(hs:∀p∈i.pgs,0<p∧p<pages)(hA:∀q∈nodI i,A q.1=q.2)(hk:k+i.pgs.length≤pages):Calls Tryz.prog 56 #[(.pointer (some ⟨sp,0,none⟩)),(.pointer (some ⟨Gp,0,none⟩)),.int .i64 (i.key.size:Int),.string (restB (cellI i))] w fun e w'=>e=.returned (.tuple #[])∧∃V',MoS w w' sp B D Gp V V' K pk m A fl pages k i.pgs.length va vb vc lv ln ks:=by
 by_cases hpg:i.pgs=[]
 ·obtain⟨⟨a1,a2⟩,a3,a4⟩:=inline_cell hi hpg;have a5:=restB_sz a1;have a6:=cell_b0 hi;have a7:kS (cellI i)=1+bytS (cellI i) 0:=rfl;refine(cmore1 (Gp:=Gp) hp (restB (cellI i)) i.key.size a3 a4 (by omega)).mono ?_;rintro e w'⟨rfl,rfl⟩;rw[hp.same];exact⟨rfl,V,h,by rw[hpg];exact hp,HF.refl _ _ _ _ _⟩
 ·exact cmore2 h hm hp hB i hi hpg hs hA hk
theorem own_form {W:World}{lo:Nat}(h:W.ownsRow lo t 1 v n xs):∃a c,v=.slice a n c:=by
 rcases h.2 with⟨e,h0⟩|⟨g,cap,_,e,_⟩
 ·exact⟨none,0,by rw[e,h0]⟩
 ·exact⟨_,_,e⟩
theorem NoS.cellsY (h:NoS w X sp B D Gp V Vi K pk m A fl pages k va vb vc vci lv ln ks)(hg:(X.alloc o).grownBy Y v.ownBlock)(hv:¬v.ownBlock=some sp):(Y.cell? ⟨sp,1,none⟩=some va∧Y.cell? ⟨sp,2,none⟩=some vb∧Y.cell? ⟨sp,3,none⟩=some vci)∧(∀o,Y.frozen? ⟨sp,o,none⟩=false)∧sp<Y.heap.size:=by
 have h2:=h.below (show Below X.heap.size X (X.alloc o) from((Below.refl _ _).alloc (Nat.le_refl _) _));have e:Y.heap[sp]?=some (.cells #[.int .i64 (k:Int),va,vb,vci,.bool true] 64 (0,0)):=(hg.block sp h2.shp.cells.2.2.2.2.2.2 (fun e=>hv e.symm)).trans h2.shp.blk;exact⟨⟨by simp[World.cell?,e],by simp[World.cell?,e],by simp[World.cell?,e]⟩,fun o=>by simp[World.frozen?,e],(Array.getElem?_eq_some_iff.1 e).1⟩
theorem bx_far {lo:Nat}(hb:Bx3 X b x y z)(hr:X.ownsRow lo t 1 v n xs)(ht:¬t=82)(hg:(X.alloc o).grownBy Y v.ownBlock):Bx3 Y b x y z:=by
 have hl:=hb.lt;have h1:(X.alloc o).heap[b]?=X.heap[b]?:=heap_alloc_old X _ hl;refine((hg.block b (by simp;omega) (fun e=>?_)).trans h1).trans hb;obtain⟨cs,hcs⟩:=row_isC hr e.symm;have hb':X.heap[b]?=some (.cells #[x,y,z] 82 (0,0)):=hb;rw[hb'] at hcs;injection hcs with hcs;injection hcs with _ hcs _;exact ht hcs.symm
theorem cmoreC (h:TS w B D Gp V K pk m A fl pages)(hm:m≤50000)(hp:Sp w sp V k va vb vc lv ln ks true)(hB:B≤sp)(i:It)(hi:okI i)(hs:∀p∈i.pgs,0<p∧p<pages)(hA:∀q∈nodI i,A q.1=q.2)(hk:k+i.pgs.length≤pages)(c:ByteArray)(hc:c=cellI i)(b0:Nat)(hb0:bytS c 0=b0):Calls Tryz.prog 56 #[(.pointer (some ⟨sp,0,none⟩)),(.pointer (some ⟨Gp,0,none⟩)),.int .i64 (b0:Int),.string (c.extract (1+b0) c.size)] w fun e w'=>e=.returned (.tuple #[])∧∃V',MoS w w' sp B D Gp V V' K pk m A fl pages k i.pgs.length va vb vc lv ln ks:=by
 subst hc hb0;have e:(cellI i).extract (1+i.key.size) (cellI i).size=restB (cellI i):=by
  unfold restB;rw[show kS (cellI i)=1+bytS (cellI i) 0 from rfl,cell_b0 hi]
 rw[cell_b0 hi,e];exact cmoreI h hm hp hB i hi hs hA hk
theorem MoS.no (h:MoS X w' sp B D Gp Vi V' K pk m A fl pages k j va vb vci lv ln ks)(h0:HF sp B w X V Vi vc vci):NoS w w' sp B D Gp V V' K pk m A fl pages (k+j) va vb vc vci lv ln ks:=⟨h.ts,h.shp,h0.trans h.hf⟩
end
theorem BS_at {P:ByteArray→ByteArray→α→Prop}:∀(l:List (ByteArray×α)) (hi:ByteArray),BS P l hi→∀(i:Nat) (h:i<l.length),P l[i].1 (nxt (l.drop (i+1)) hi) l[i].2
 | [],_,_,_,h=>absurd h (by simp)
 | p::r,hi,hb,0,_=>hb.2.1
 | p::r,hi,hb,i+1,h=>BS_at r hi hb.2.2.2 i (by simpa using h)
theorem BS_ok {P:ByteArray→ByteArray→α→Prop}{l:List (ByteArray×α)}(hb:BS P l hi)(i:Nat)(h:i+1<l.length):okK l[i+1].1:=by
 cases l with
 | nil=>simp at h
 | cons p r=>exact hb.2.2.1 _ (by simp)
theorem nxt_at (l:List (ByteArray×α))(hi:ByteArray)(i:Nat)(h:i<l.length):nxt (l.drop i) hi=l[i].1:=by
 rw[List.drop_eq_getElem_cons h];rfl
theorem nxt_end (l:List (ByteArray×α))(hi:ByteArray)(i:Nat)(h:l.length≤i):nxt (l.drop i) hi=hi:=by
 rw[List.drop_eq_nil_of_le h];rfl
attribute [local go_sem ↓] Go.wp_at_zero Go.wp_at_succ
theorem leafE {x:T 0}(hb:Bnd 0 lo hi x)(hA:∀q∈nodT 0 x,A q.1=q.2)(hs:∀n∈numsT 0 x,0<n∧n<pages)(hk:k+(nodT 0 x).length≤pages)(hL:lv.length+(lvsT 0 x).length≤1000000∧ln.length+(lvsT 0 x).length≤1000000∧ks.length+(entT 0 x).length≤1000000)(hm:m≤50000)(hB:B≤sp):(cellsT 0 x=x.its.map cellI∧(entT 0 x).map (·.1)=x.its.map (·.key))∧(∀i∈x.its,okI i∧(∀p∈i.pgs,0<p∧p<pages)∧(∀q∈nodI i,A q.1=q.2)∧(nodI i).length=i.pgs.length)∧lv.length≤999999∧(ln.length≤999999∧ks.length+x.its.length≤1000000)∧k+1+(x.its.flatMap nodI).length≤pages∧m≤50000∧B≤sp:=by
 have e1:(lvsT 0 x).length=1:=rfl;have e2:(nodT 0 x).length=(x.its.flatMap nodI).length+1:=by show(_::_:List (Nat×PgV)).length=_;rw[List.length_cons]
 have e3:(entT 0 x).length=x.its.length:=by show(x.its.map _).length=_;simp
 refine⟨⟨rfl,by show(x.its.map _).map _=_;rw[List.map_map];rfl⟩,fun i hi'=>?_,by omega,⟨by omega,by omega⟩,by omega,hm,hB⟩;have ok:=(BI_mem (show BI lo x.its hi from hb) i hi').1;have hn:∀q∈nodI i,q∈nodT 0 x:=fun q hq=>by
  show q∈_::_;exact List.mem_cons_of_mem _ (List.mem_flatMap.2 ⟨i,hi',hq⟩)
 refine⟨ok,fun p hp=>hs p ?_,fun q hq=>hA q (hn q hq),?_⟩
 ·rw[←nodI_fst ok] at hp;obtain⟨q,hq,rfl⟩:=List.mem_map.1 hp;exact List.mem_map.2 ⟨q,hn q hq,rfl⟩
 ·have:=congrArg List.length (nodI_fst ok);simpa using this
theorem flat_take {its:List It}(h:j<its.length):(its.take (j+1)).flatMap nodI=(its.take j).flatMap nodI++nodI its[j]∧((its.take (j+1)).flatMap nodI).length≤(its.flatMap nodI).length:=by
 constructor
 ·rw[take_snoc h,List.flatMap_append]
  congr 1
  simp[List.flatMap]
 ·have a:=congrArg List.length (List.flatMap_append (xs:=its.take (j+1)) (ys:=its.drop (j+1)) (f:=nodI));rw[List.take_append_drop,List.length_append] at a;omega
section
variable {pk:Nat}
theorem cnode0 (h:TS w B D Gp V K pk m A fl pages)(hm:m≤50000)(hp:Sp w sp V k va vb vc lv ln ks true)(hB:B≤sp){x:T 0}(hb:Bnd 0 lo hi x)(hu:usedC (cellsT 0 x)≤1012)(root:Bool)(hr:root=true∨180≤usedC (cellsT 0 x))(hA:∀q∈nodT 0 x,A q.1=q.2)(hs:∀n∈numsT 0 x,0<n∧n<pages)(hk:k+(nodT 0 x).length≤pages)(hL:lv.length+(lvsT 0 x).length≤1000000∧ln.length+(lvsT 0 x).length≤1000000∧ks.length+(entT 0 x).length≤1000000):Calls Tryz.prog 21 #[(.pointer (some ⟨sp,0,none⟩)),(.pointer (some ⟨Gp,0,none⟩)),.int .i64 (x.num:Int),.string lo,.string hi,.bool root] w (nodP w sp B D Gp V K pk m A fl pages k vc lv ln ks 1 (nodT 0 x).length (lvsT 0 x) (entT 0 x)):=by
 have HE:=hide (leafE (x:=x) hb hA hs hk hL hm hB);have HSZ:=hide (cells_sz 0 hb);have hl4:(cellsT 0 x).length≤400:=by have:=used_len4 (l:=cellsT 0 x);omega
 have hky:=Ky_of hb (by omega) 0;have hnum:x.num∈numsT 0 x:=by show x.num∈x.num::_;simp
 have hnl:0<(nodT 0 x).length:=by show 0<(_::_).length;simp
 have hAx:A x.num=⟨1,x.link,cellsT 0 x⟩:=hA (x.num,pgT 0 x) (by show _∈_::_;simp);have hvc:∀g,vc.ownBlock=some g→g<w.heap.size:=fun g hg=>(World.ownsRow.lt hp.rc g hg).2
 have HVC:=hide hvc;clear hvc;have HO:=hide (copenS h hm hp hB x.num (hs _ hnum).2 (by omega));rw[hAx] at HO;have HK:=hide hky;obtain⟨cl,hcl⟩:∃cl,cellsT 0 x=cl:=⟨_,rfl⟩;have HKY:=hide (show(∀j,j<cl.length→(0<(tx cl j).size∧kS (tx cl j)≤(tx cl j).size∧(tx cl j).size≤240)∧klt (keyB (tx cl j)) lo=false∧ltB (keyB (tx cl j)) hi)∧(∀j,j+1<cl.length→klt (keyB (tx cl j)) (keyB (tx cl (j+1)))=true) from by
  rw[←hcl];exact⟨fun j hj=>⟨⟨Nat.lt_of_lt_of_le (kS_in (tx (cellsT 0 x) j)).1 (hky.key j hj).1,(hky.key j hj).1,(hky.key j hj).2⟩,hky.low j hj,hky.high j hj⟩,fun j hj=>hky.ord j hj⟩)
 rw[hcl] at HO hu hr hl4 HE HSZ;have HR:=hide hr;clear hr;have HU:=hide (And.intro hu hl4);obtain⟨xn,hxn⟩:∃xn,x.num=xn:=⟨_,rfl⟩;obtain⟨xl,hxl⟩:∃xl,x.link=xl:=⟨_,rfl⟩;rw[hxn,hxl] at HO;rw[hxn];have HB:=hide hB;have hsp:=hp.cells.2.2.2.2.2.2;have HP:Hid (nodP w sp B D Gp V K pk m A fl pages k vc lv ln ks 1 (nodT 0 x).length (lvsT 0 x) (entT 0 x)=nodP w sp B D Gp V K pk m A fl pages k vc lv ln ks 1 (1+(x.its.flatMap nodI).length) [(xn,xl)] (entT 0 x)):=by rw[←hxn,←hxl];show nodP _ _ _ _ _ _ _ _ _ _ _ _ _ _ _ _ _ _ ((_::_:List (Nat×PgV)).length) _ _=_;rw[List.length_cons,Nat.add_comm];rfl
 rw[HP.out];clear HP;generalize x.its=its at *;obtain⟨cnt,hcnt⟩:∃cnt,1+(its.flatMap nodI).length=cnt:=⟨_,rfl⟩;rw[hcnt];have HCN:=hide hcnt;clear hcnt;clear h hp hb hA hs hk hL hm hky hnum hnl hAx HK hB;go_enter Tryz.func21,Tryz.ntmps21;go_wp2_with fail
 refine HO.out.mono ?_;rintro e w1⟨V1,v1,rfl,k1,k2,k3,k4⟩;obtain⟨va1,ca1,rfl,-⟩:=sta_own (L:=cl) k4;have hb1:Below w1.heap.size w1 (w1.alloc (.cells #[.int .i64 1,.int .i64 (xl:Int),.slice va1 cl.length ca1] 82)):=((Below.refl _ _).alloc (Nat.le_refl _) _);obtain⟨q1,s1⟩:=k1.below hb1;have q2:=k1.staySp s1 k2;have q3:=k3.trans (k1.hf s1 sp vc);have q4:=own_below k4 hb1;have bx:=Bx3.new w1 (.int .i64 1) (.int .i64 (xl:Int)) (.slice va1 cl.length ca1);have HT:=hide (And.intro q1 (And.intro q2 (And.intro q3 (And.intro q4 bx))));clear k1 k2 k3 k4 q1 s1 q3 q2 q4 hb1 HO bx;go_wp2_with fail
 obtain⟨W,hW⟩:∃W,w1.alloc (.cells #[.int .i64 1,.int .i64 (xl:Int),.slice va1 cl.length ca1] 82)=W:=⟨_,rfl⟩;rw[hW] at HT ⊢;clear hW
 go_loopw [14,15,28] (fun x14 x15 x28 X=>∃j:Nat,j≤cl.length∧x14=.int .i64 (usedC (cl.take j):Int)∧x15=.string (lastK cl j)∧x28=.int .i64 (j:Int)∧X=W) (fun _ _ x28 _=>cl.length-(intOf x28).toNat)
 case atStart=>exact⟨0,Nat.zero_le _,by simp[usedC],rfl,rfl,rfl⟩
 case round =>
  obtain⟨j,hj,rfl,rfl,rfl,rfl⟩:=hrel;obtain⟨c0,c1,c2,c3,c4,c5,c6⟩:=HT.out.2.1.cells;have f4:=c5 4;have hsame:=HT.out.2.1.same;by_cases hjc:j<cl.length
  ·have hlt:(j:Int)<(cl.length:Int):=by omega
   have h0:(0:Int)≤(j:Int):=by omega
   obtain⟨⟨e1,e2,e3⟩,e4,e5⟩:=HKY.out.1 j hjc;have hord:j=0∨0<j∧klt (lastK cl j) (keyB (tx cl j))=true:=by
    cases j with
    | zero=>exact .inl rfl
    | succ j=>exact .inr ⟨by omega,HKY.out.2 j hjc⟩
   obtain⟨g,cap,cur,hva,hbg,hg,hc1,hc2,hc3,-,hc5⟩:=own_cur (l:=cl) (n:=cl.length) HT.out.2.2.2.1 (by omega);injection hva with hva _ hca;subst hva hca;have hcell:wr.cell? ⟨g,j,none⟩=some (.string (tx cl j)):=by
    have:=hc5 j hjc;simp only[World.cell?,hg];rw[this,tx_get hjc];simp[hjc]
   have hut:=used_takeS hjc;have hul:=used_take_le cl (j+1);have HX:=hide (show j<cl.length∧usedC (cl.take (j+1))=usedC (cl.take j)+(4+(tx cl j).size)∧lastK cl (j+1)=keyB (tx cl j) from⟨hjc,hut,rfl⟩);obtain⟨us,hus⟩:∃us,usedC (cl.take j)=us:=⟨_,rfl⟩;have husb:us≤1012:=by have:=HU.out;omega
   rw[hus] at HX ⊢;have bk:=bytS_get e1;have bkl:=bytS_lt (tx cl j) 0;have hkS:kS (tx cl j)=1+bytS (tx cl j) 0:=rfl;have hkb:keyB (tx cl j)=(tx cl j).extract 1 (kS (tx cl j)):=rfl;have hem:=empty_of (a:=tx cl j) (fun e=>by rw[e] at e1;exact absurd e1 (by decide));rw[hkS] at hkb e2;generalize tx cl j=c at *;generalize lastK cl j=lk at *;generalize keyB c=kc at *;generalize bytS c 0=b0 at *;have e4':Op.bytesLess (c.extract 1 (1+b0)).toList lo.toList=false:=by rw[←hkb];exact e4
   clear hc1 hc2 hc3 hc5 hg hbg hut hul hus c0 c1 c2 c3 c5 e4 hkS hj;have HKB:=hide hkb;have hj0:j=0∨¬(j:Int)=0:=by omega
   rcases e5 with e5|e5
   ·have hhi:hi.toList.isEmpty=true:=by rw[e5,ByteArray.toList_eq];rfl
    rcases hord with hord|hord
    ·subst hord
     replace hcell:wr.cell? ⟨g,0,none⟩=some (.string c):=hcell
     replace hlt:(0:Int)<(cl.length:Int):=hlt
     clear hj0;go_wp2_with fail
     first | refine⟨⟨0+1,HX.out.1,?_,?_,rfl,trivial⟩,?_⟩ | refine⟨⟨_,_,_,_,_,_,_,⟨0+1,HX.out.1,rfl,rfl,rfl⟩,rfl,?_,?_,rfl,rfl,rfl,rfl⟩,?_⟩
     ·rw[HX.out.2.1]
      congr 1
     ·rw[HX.out.2.2,HKB.out]
     ·simp[intOf];have:=HX.out.1;omega
    ·rcases hj0 with hj0|hj0
     ·exact absurd hord.1 (by omega)
     ·have hg1:Op.bytesLess (c.extract 1 (1+b0)).toList lk.toList=false:=by rw[←hkb];exact klt_asy hord.2
      have hg2:((c.extract 1 (1+b0)).toList == lk.toList)=false:=by rw[←hkb];exact beq_ne hord.2
      clear hord;go_wp2_with fail
      first | refine⟨⟨j+1,HX.out.1,?_,?_,by go_num,trivial⟩,?_⟩ | refine⟨⟨_,_,_,_,_,_,_,⟨j+1,HX.out.1,rfl,rfl,rfl⟩,rfl,?_,?_,rfl,rfl,rfl,by go_num⟩,?_⟩
      ·rw[HX.out.2.1]
       congr 1
      ·rw[HX.out.2.2,HKB.out]
      ·simp[intOf];have:=HX.out.1;omega
   ·have hhi:hi.toList.isEmpty=false:=empty_of (fun e=>by rw[e] at e5;revert e5;unfold klt;rw[show(⟨#[]⟩:ByteArray).toList=[] from by rw[ByteArray.toList_eq]];cases kc.toList<;>simp[Op.bytesLess]);have hlh:Op.bytesLess (c.extract 1 (1+b0)).toList hi.toList=true:=by rw[←hkb];exact e5
    rcases hord with hord|hord
    ·subst hord
     replace hcell:wr.cell? ⟨g,0,none⟩=some (.string c):=hcell
     replace hlt:(0:Int)<(cl.length:Int):=hlt
     clear hj0;go_wp2_with fail
     first | refine⟨⟨0+1,HX.out.1,?_,?_,rfl,trivial⟩,?_⟩ | refine⟨⟨_,_,_,_,_,_,_,⟨0+1,HX.out.1,rfl,rfl,rfl⟩,rfl,?_,?_,rfl,rfl,rfl,rfl⟩,?_⟩
     ·rw[HX.out.2.1]
      congr 1
     ·rw[HX.out.2.2,HKB.out]
     ·simp[intOf];have:=HX.out.1;omega
    ·rcases hj0 with hj0|hj0
     ·exact absurd hord.1 (by omega)
     ·have hg1:Op.bytesLess (c.extract 1 (1+b0)).toList lk.toList=false:=by rw[←hkb];exact klt_asy hord.2
      have hg2:((c.extract 1 (1+b0)).toList == lk.toList)=false:=by rw[←hkb];exact beq_ne hord.2
      clear hord;go_wp2_with fail
      first | refine⟨⟨j+1,HX.out.1,?_,?_,by go_num,trivial⟩,?_⟩ | refine⟨⟨_,_,_,_,_,_,_,⟨j+1,HX.out.1,rfl,rfl,rfl⟩,rfl,?_,?_,rfl,rfl,rfl,by go_num⟩,?_⟩
      ·rw[HX.out.2.1]
       congr 1
      ·rw[HX.out.2.2,HKB.out]
      ·simp[intOf];have:=HX.out.1;omega
  ·have hje:j=cl.length:=by omega
   subst hje;have hnlt:¬(cl.length:Int)<(cl.length:Int):=by omega
   obtain⟨us,hus⟩:∃us,usedC (cl.take cl.length)=us:=⟨_,rfl⟩;have hu1:root=true∨(180:Int)≤(us:Int):=by rw[←hus,List.take_length];exact HR.out.imp id (fun q=>by omega)
   rw[hus];obtain⟨h1,h2,h3,h4,bx⟩:=HT.out;have HN:=hide (show NoS w wr sp B D Gp V V1 K pk m A fl pages (k+1) va vb vc vc lv ln ks from⟨h1,h2,h3⟩);have HRW:=hide (show wr.ownsRow w.heap.size 9 1 (.slice va1 cl.length ca1) cl.length (valsS cl)∧(∀g,(Value.slice va1 cl.length ca1).ownBlock=some g→¬vc.ownBlock=some g) from⟨h4,fun g e q=>by have:=(World.ownsRow.lt h4 g e).1;have:=HVC.out g q;omega⟩);have HBX:=hide bx;have x0:=bx.c0;have x1:=bx.c1;have x2:=bx.c2;obtain⟨aa,ca,rfl⟩:=own_form h2.ra;obtain⟨i0,hif,hz0,hz1,hz2⟩:=info_parts infoI8;obtain⟨xb,hxb⟩:∃xb,w1.heap.size=xb:=⟨_,rfl⟩;rw[hxb] at HBX x0 x1 x2 ⊢;have HL:=hide (And.intro HE.out.2.2.1 HE.out.2.2.2.1);clear h1 h2 h3 h4 bx hus hjc hj HT HVC HKY hxb
   go_upto_region 15 with fail
   go_cut [] (fun wx=>wx=wr)
   case first =>
    rcases hu1 with hu1|hu1
    ·subst hu1;go_wp2_with fail
     go_meet
     case rel=>rfl
    ·cases root with
     | true =>
      go_wp2_with fail
      go_meet
      case rel=>rfl
     | false =>
      go_wp2_with fail
      go_meet
      case rel=>rfl
   subst hcut;go_wp2_with (at_builtin;refine wpList_append_own_at _ rfl (.tmp 118) (.tmp 120) 42 rfl sp 3 i0 (.int .i64 0) 1 8 Tryz.underlying42 hif hz0 hz1 hz2 rfl (by decide) _ lv.length (intsN lv) rfl (World.ownsRow.alloc HN.out.shp.ra _) ⟨wc.heap.size,0,none⟩ 1 1 [.int .i64 (xn:Int)] rfl rfl (newsI _ _) (fun x hx=>by simp at hx;subst hx;rfl) ?c2 ?c3 ?c4 ?_)
   case c2=>unfold maxLen;have:=HL.out.1;omega
   case c3=>have:=HL.out.1;omega
   case c4=>first | omega | (simp;omega)
   intro v5 w5 ho5 hg5 _ hn5;have HN2:=hide (HN.out.appA HB.out hg5 ho5 hn5);obtain⟨⟨d1,d2,d3⟩,d4,d5⟩:=HN.out.cellsY hg5 (HN.out.shp.row_ne.1);obtain⟨a5,c5,rfl⟩:=own_form ho5;have d4':=d4 1;have HR2:=hide (And.intro (HN2.out.2.row HRW.out.1 HRW.out.2) (HN2.out.2.bx HBX.out));clear ho5 hg5 hn5 x0 x1 x2 d4 d2 d3 HN HRW HBX;go_wp2_with fail
   obtain⟨X2,hX2⟩:∃X2,w5.setCell ⟨sp,1,none⟩ (.slice a5 (lv.length+1) c5)=X2:=⟨_,rfl⟩;rw[hX2] at HN2 HR2 ⊢;clear hX2;have HN3:=hide (HN2.out.1.below (show Below X2.heap.size X2 X2.drew from(Below.refl _ _).drew));have HR4:=hide (And.intro (own_below HR2.out.1.1 (show Below X2.heap.size X2 X2.drew from(Below.refl _ _).drew)) (And.intro HR2.out.1.2 (HR2.out.2.below (show Below X2.heap.size X2 X2.drew from(Below.refl _ _).drew))));have HR3:=hide (And.intro (HN3.out.ts) ((HR2.out.2.below (show Below X2.heap.size X2 X2.drew from(Below.refl _ _).drew))));obtain⟨ab,cb,rfl⟩:=own_form HN2.out.1.shp.rb;have e2:=HN2.out.1.shp.cells.2.2.1;have x1:=HR2.out.2.c1;have e6:=HN2.out.1.shp.cells.2.2.2.2.2.2;have e7:=HR2.out.2.lt;clear d1 d4' d5 c0 c1 c2 c3 c4 c6 f4 hsame hnlt
   go_cut [] (fun wx=>∃v6,Hid (NoS w wx sp B D Gp V V1 K pk m A fl pages (k+1) (.slice a5 (lv.length+1) c5) v6 vc vc (lv++[xn]) (ln++[xl]) ks∧(wx.ownsRow w.heap.size 9 1 (.slice va1 cl.length ca1) cl.length (valsS cl)∧∀g,(Value.slice va1 cl.length ca1).ownBlock=some g→¬vc.ownBlock=some g)∧Bx3 wx xb (.int .i64 1) (.int .i64 (xl:Int)) (.slice va1 cl.length ca1)))
   case first =>
    go_region_law ((refine step_append_ownM rfl (.tmp 128) (.tmp 131) 42 (by rfl) sp 3 i0 (.int .i64 0) 1 8 Tryz.underlying42 hif hz0 hz1 hz2 rfl (by decide) (.slice ab ln.length cb) ln.length (intsN ln) (by rfl) (World.ownsRow.alloc HN3.out.shp.rb _) ⟨X2.heap.size,0,none⟩ 1 1 [.int .i64 (xl:Int)] (by rfl) rfl (newsI _ _) (fun x hx=>by simp at hx;subst hx;rfl) (by have:=HL.out.2.1;unfold maxLen;omega) (by have:=HL.out.2.1;omega) (by simp;omega) ?_;intro v6 w6 ho6 hg6 hn6;obtain⟨⟨y1,y2,y3⟩,y4,y5⟩:=HN3.out.cellsY hg6 HN3.out.shp.row_ne.2.1;have y6:=(bx_far HR3.out.2 HN3.out.shp.rb (by decide) hg6).c1;have HN4:=hide (HN3.out.appB HB.out hg6 ho6 (by simpa using hn6));have y7:=y4 2;obtain⟨a6,c6,rfl⟩:=own_form ho6;clear y4 y1 y3 ho6 hg6 hn6))
    all_goals
     go_wp2_with fail
     go_meet
     case rel=>exact⟨_,HN4.out.1,HN4.out.2.row HR4.out.1 HR4.out.2.1,HN4.out.2.bx HR4.out.2.2⟩
   obtain⟨v6,HN5⟩:=hcut;have x2:=HN5.out.2.2.c2;clear HN2 HN3 HR2 HR3 HR4 HL e2 x1 e6 e7;go_wp2_with fail
   go_loopw [138] (fun x138 Y=>∃(j:Nat) (Vi:PV) (vci:Value),j≤cl.length∧x138=.int .i64 (j:Int)∧Hid (NoS w Y sp B D Gp V Vi K pk m A fl pages (k+1+((its.take j).flatMap nodI).length) (.slice a5 (lv.length+1) c5) v6 vc vci (lv++[xn]) (ln++[xl]) (ks++(its.take j).map (·.key))∧Y.ownsRow w.heap.size 9 1 (.slice va1 cl.length ca1) cl.length (valsS cl)∧∀g,(Value.slice va1 cl.length ca1).ownBlock=some g→¬vci.ownBlock=some g)) (fun x138 _=>cl.length-(intOf x138).toNat)
   case atStart=>exact⟨0,V1,vc,Nat.zero_le _,rfl,by simpa using⟨HN5.out.1,HN5.out.2.1⟩⟩
   case round =>
    clear HN5 x2;obtain⟨j,Vi,vci,hj,rfl,HI⟩:=hrel;by_cases hjc:j<cl.length
    ·have hlt:(j:Int)<(cl.length:Int):=by omega
     have h0:(0:Int)≤(j:Int):=by omega
     have hjb:j<400:=by omega
     have hcm:cl=its.map cellI:=HE.out.1.1;have hji:j<its.length:=by rw[hcm,List.length_map] at hjc;exact hjc
     obtain⟨e1,e2,e3,e4⟩:=HE.out.2.1 its[j] (List.getElem_mem hji);have hc:tx cl j=cellI its[j]:=by rw[tx_get hjc];simp[hcm]
     obtain⟨f1,f2⟩:=flat_take hji;obtain⟨k1,k2,-,-⟩:=cellI_key e1;have kb:=cell_b0 e1;obtain⟨g,cap,cur,hva,hbg,hg,hc1,hc2,hc3,-,hc5⟩:=own_cur (l:=cl) (n:=cl.length) HI.out.2.1 (by omega);injection hva with hva _ hca;subst hva hca;have hcell:wr.cell? ⟨g,j,none⟩=some (.string (tx cl j)):=by
      have:=hc5 j hjc;simp only[World.cell?,hg];rw[this,tx_get hjc];simp[hjc]
     obtain⟨kl,hkl⟩:∃kl,(ks++(its.take j).map (·.key)).length=kl:=⟨_,rfl⟩;have hkb:kl≤1000000:=by
      rw[←hkl,List.length_append,List.length_map,List.length_take];have:=HE.out.2.2.2.1.2;omega
     have hrc:=HI.out.1.shp.rc;rw[hkl] at hrc;obtain⟨a7,c7,rfl⟩:=own_form hrc;have HRC:=hide hrc;have d3:=HI.out.1.shp.cells.2.2.2.1;have d6:=HI.out.1.shp.cells.2.2.2.2.2.2;obtain⟨c,hcc⟩:∃c,tx cl j=c:=⟨_,rfl⟩;rw[hcc] at hcell hc;have z1:0<c.size:=by rw[hc];exact Nat.lt_of_lt_of_le (kS_in (cellI its[j])).1 k2
     obtain⟨b0,hb0⟩:∃b0,bytS c 0=b0:=⟨_,rfl⟩;have hk1:c.extract 1 (1+b0)=its[j].key:=by rw[←k1,←hb0,hc];rfl
     have z2:1+b0≤c.size:=by rw[←hb0,hc];exact k2
     have z3:c.size≤240:=by rw[←hcc,tx_get hjc];exact HSZ.out _ (List.getElem_mem hjc)
     have bk:=bytS_get z1;have bl:=bytS_lt c 0;rw[hb0] at bk bl;have hw1:IntKind.i64.wrap (b0:Int)=(b0:Int):=by rw[IntKind.wrap_i64];omega
     have hw2:IntKind.i64.wrap (1+(b0:Int))=1+(b0:Int):=by rw[IntKind.wrap_i64];omega
     have hw3:(1+(b0:Int)).toNat=1+b0:=by omega
     have hw4:(0:Int)≤1+(b0:Int):=by omega
     have hw5:1+(b0:Int)≤(c.size:Int):=by omega
     have hw6:(1:Int)≤1+(b0:Int):=by omega
     have HM:=hide (fun(Z:World) (Vz:PV) (vz:Value) (hz:NoS w Z sp B D Gp V Vz K pk m A fl pages (k+1+((its.take j).flatMap nodI).length) (.slice a5 (lv.length+1) c5) v6 vc vz (lv++[xn]) (ln++[xl]) (ks++(its.take j).map (·.key)++[c.extract 1 (1+b0)]))=>cmoreC hz.ts HE.out.2.2.2.2.2.1 hz.shp HB.out its[j] e1 e2 e3 (show k+1+((its.take j).flatMap nodI).length+its[j].pgs.length≤pages by
      have:=HE.out.2.2.2.2.1;rw[f1,List.length_append,e4] at f2;omega) c hc b0 hb0)
     have HJ:=hide (And.intro hjc (And.intro f1 (And.intro e4 hk1)));have HND:=hide (HI.out.1.below (show Below wr.heap.size wr wr.drew from(Below.refl _ _).drew));have HRD:=hide (own_below HI.out.2.1 (show Below wr.heap.size wr wr.drew from(Below.refl _ _).drew));have HFR:=hide HI.out.2.2;have HJT:=hide (show(its.take (j+1)).map (·.key)=(its.take j).map (·.key)++[its[j].key] from by rw[take_snoc hji,List.map_append];rfl);obtain⟨i1,hif1,hy0,hy1,hy2⟩:=info_parts infoS;clear hc5 hg hbg hc1 hc2 hc3 e1 e2 e3 e4 k1 k2 kb f1 f2 hc hcm hcc hb0 hk1 hrc hj hjc
     go_upto_region 24 with fail
     go_cut [] (fun wx=>∃v8,Hid (NoS w wx sp B D Gp V Vi K pk m A fl pages (k+1+((its.take j).flatMap nodI).length) (.slice a5 (lv.length+1) c5) v6 vc v8 (lv++[xn]) (ln++[xl]) (ks++(its.take j).map (·.key)++[c.extract 1 (1+b0)])∧wx.ownsRow w.heap.size 9 1 (.slice (some ⟨g,0,none⟩) cl.length ca1) cl.length (valsS cl)∧∀g',(Value.slice (some ⟨g,0,none⟩) cl.length ca1).ownBlock=some g'→¬v8.ownBlock=some g'))
     case first =>
      go_region_law ((refine step_append_ownM rfl (.tmp 146) (.tmp 153) 43 (by rfl) sp 9 i1 (.string ⟨#[]⟩) 1 16 Tryz.underlying43 hif1 hy0 hy1 hy2 rfl (by decide) (.slice a7 kl c7) kl (valsS (ks++(its.take j).map (·.key))) (by rfl) (World.ownsRow.alloc (show wr.drew.ownsRow _ _ _ _ _ _ from HRC.out) _) ⟨wr.heap.size,0,none⟩ 1 1 [.string (c.extract 1 (1+b0))] (by rfl) rfl (newsS _ _) (fun x hx=>by simp at hx;subst hx;rfl) (by unfold maxLen;omega) (by omega) (by simp;omega) ?_;intro v8 w8 ho8 hg8 hn8;obtain⟨⟨y1,y2,y3⟩,y4,y5⟩:=HND.out.cellsY hg8 HND.out.shp.row_ne.2.2;have HN8:=hide (HND.out.appC HB.out hg8 (by rw[hkl];exact ho8) (by simpa using hn8));have y7:=y4 3;obtain⟨a8,c8,rfl⟩:=own_form ho8;clear y4 y1 y2 ho8 hg8 hn8))
      all_goals
       go_wp2_with fail
       go_meet
       case rel=>exact⟨_,HN8.out.1,HN8.out.2.row HRD.out HFR.out⟩
     obtain⟨v8,HN9⟩:=hcut;have HM2:=hide (HM.out wc.drew Vi v8 (HN9.out.1.below ((Below.refl _ _).drew)));have hrest:(c.size:Int).toNat=c.size:=by omega
     have hw7:1+(b0:Int)≤(c.size:Int):=hw5;clear HI HM HRC d3 d6 hcell HND HRD HFR hkl hkb hlt h0;go_wp2_with fail
     go_region_with (go_at_call 56;refine HM2.out.mono ?_;rintro e w9⟨rfl,V9,hmo⟩)
     all_goals
      go_wp2_with fail
      go_roundw
      case rel =>
       refine⟨j+1,V9,v8,HJ.out.1,by go_num,?_⟩;have hb:Below wc.heap.size wc wc.drew:=(Below.refl _ _).drew;have n9:=HN9.out.1.below hb;have q:=hmo.no n9.hf;obtain⟨r1,r2⟩:=hmo.hf.row (own_below HN9.out.2.1 hb) HN9.out.2.2;rw[HJ.out.2.2.2] at q;rw[HJ.out.2.1,List.length_append,HJ.out.2.2.1,←Nat.add_assoc,HJT.out,←List.append_assoc];exact⟨q,r1,r2⟩
      case measure =>
       simp[intOf];have:=HJ.out.1;omega
    ·have hje:j=cl.length:=by omega
     subst hje;have hnlt:¬(cl.length:Int)<(cl.length:Int):=by omega
     have hl:cl.length=its.length:=by have:=congrArg List.length HE.out.1.1;simpa using this
     clear hj hjc;go_wp2_with fail
     go_ret;refine⟨rfl,Vi,.slice a5 (lv.length+1) c5,v6,vci,?_⟩;have:=HI.out.1;rw[hl,List.take_length] at this;rw[HE.out.1.2,←HCN.out,←Nat.add_assoc];exact this
end
def NodOk (B D Gp:Nat)(K:Pgs)(pk m:Nat)(A:Nat→PgV)(fl:List Nat)(pages sp:Nat)(d:Nat):Prop:=∀(w:World) (V:PV) (k:Nat) (va vb vc:Value) (lv ln:List Nat) (ks:List ByteArray) (x:T d) (lo hi:ByteArray),TS w B D Gp V K pk m A fl pages→Sp w sp V k va vb vc lv ln ks true→Bnd d lo hi x→FilN d x→(∀q∈nodT d x,A q.1=q.2)→(∀n∈numsT d x,0<n∧n<pages)→k+(nodT d x).length≤pages→(lv.length+(lvsT d x).length≤1000000∧ln.length+(lvsT d x).length≤1000000∧ks.length+(entT d x).length≤1000000) →
  Calls Tryz.prog 21 #[(.pointer (some ⟨sp,0,none⟩)),(.pointer (some ⟨Gp,0,none⟩)),.int .i64 (numT d x:Int),.string lo,.string hi,.bool false] w (nodP w sp B D Gp V K pk m A fl pages k vc lv ln ks (d+1) (nodT d x).length (lvsT d x) (entT d x))
theorem nodS_take {l:List (ByteArray×T d)}(h:i<l.length):nodS (l.take (i+1))=nodS (l.take i)++nodT d l[i].2∧lvsS (l.take (i+1))=lvsS (l.take i)++lvsT d l[i].2∧entS (l.take (i+1))=entS (l.take i)++entT d l[i].2:=by
 have a:∀p:ByteArray×T d,nodS [p]=nodT d p.2∧lvsS [p]=lvsT d p.2∧entS [p]=entT d p.2:=fun p=>by simp[nodS,lvsS,entS]
 rw[take_snoc h,nodS_app,lvsS_app,entS_app,(a _).1,(a _).2.1,(a _).2.2];exact⟨rfl,rfl,rfl⟩
theorem nodS_le (l:List (ByteArray×T d))(i:Nat):(nodS (l.take i)).length≤(nodS l).length∧(lvsS (l.take i)).length≤(lvsS l).length∧(entS (l.take i)).length≤(entS l).length:=by
 have a:=congrArg List.length (nodS_app (l.take i) (l.drop i));have b:=congrArg List.length (lvsS_app (l.take i) (l.drop i));have c:=congrArg List.length (entS_app (l.take i) (l.drop i));rw[List.take_append_drop,List.length_append] at a b c;omega
structure ChS (w X:World) (sp B D Gp:Nat) (V Vi:PV) (K:Pgs) (pk m:Nat) (A:Nat→PgV) (fl:List Nat) (pages k:Nat) (va vb vc vci:Value) (lv ln:List Nat) (ks:List ByteArray) (g bx cap link n:Nat) (cur:Array Value):Prop where
 no:NoS w X sp B D Gp V Vi K pk m A fl pages k va vb vc vci lv ln ks
 row:X.heap[g]?=some (.cells cur 9 (0,0))
 far:¬vci.ownBlock=some g
 bx:Bx3 X bx (.int .i64 2) (.int .i64 (link:Int)) (.slice (some ⟨g,0,none⟩) n cap)
section
variable {pk:Nat}
theorem ChS.step {bx k':Nat}{va' vb':Value}{lv' ln':List Nat}{ks':List ByteArray}(h:ChS w X sp B D Gp V Vi K pk m A fl pages k va vb vc vci lv ln ks g bx cap link n cur)(hn:NoS X w' sp B D Gp Vi V' K pk m A fl pages k' va' vb' vci vc' lv' ln' ks'):ChS w w' sp B D Gp V V' K pk m A fl pages k' va' vb' vc vc' lv' ln' ks' g bx cap link n cur:=by
 obtain⟨a,b⟩:=hn.hf.str g cur h.row h.far;exact⟨⟨hn.ts,hn.shp,h.no.hf.trans hn.hf⟩,a,b,hn.hf.bx h.bx⟩
theorem ChS.below {bx:Nat}(h:ChS w X sp B D Gp V Vi K pk m A fl pages k va vb vc vci lv ln ks g bx cap link n cur)(hb:Below X.heap.size X X'):ChS w X' sp B D Gp V Vi K pk m A fl pages k va vb vc vci lv ln ks g bx cap link n cur:=
 ⟨h.no.below hb,(hb.block g (Array.getElem?_eq_some_iff.1 h.row).1).trans h.row,h.far,h.bx.below hb⟩
theorem child_cell {kids:List (ByteArray×T d)}(h:i+1<kids.length)(hk:okK kids[i+1].1)(c:ByteArray)(hc:c=tx (cellsT (d+1) (⟨num,kids⟩:Inn (T d))) i)(b0:Nat)(hb0:bytS c 0=b0):0<c.size∧1+b0≤c.size∧c.size≤240∧c.extract 1 (1+b0)=kids[i+1].1∧c.extract (1+b0) c.size=fourB (numT d kids[i+1].2):=by
 have e:c=childB kids[i+1].1 (numT d kids[i+1].2):=by
  rw[hc];have hl:i<(cellsT (d+1) (⟨num,kids⟩:Inn (T d))).length:=by
   show i<(kids.tail.map _).length;rw[List.length_map,List.length_tail];omega
  rw[tx_get hl];show(kids.tail.map fun p=>childB p.1 (numT d p.2))[i]=_;simp
 obtain⟨a1,a2,-,a4⟩:=childB_key hk (numT d kids[i+1].2);rw[←e] at a1 a2 a4;have a5:kS c=1+b0:=by show 1+bytS c 0=_;rw[hb0]
 have a6:=childB_sz kids[i+1].1 (numT d kids[i+1].2);rw[←e] at a6;rw[a5] at a2;unfold keyB at a1;unfold restB at a4;rw[a5] at a1 a4;exact⟨by omega,a2,by have:=hk.2;omega,a1,a4⟩
theorem cchildrenS (IH:NodOk B D Gp K pk m A fl pages sp d){kids:List (ByteArray×T d)}(h:TS w B D Gp V K pk m A fl pages)(hp:Sp w sp V k va vb vc lv ln ks true)(hb:Bnd (d+1) lo hi (⟨num,kids⟩:Inn (T d)))(hne:2≤kids.length)(hl4:kids.length≤400)(hd:d≤1000)(hf:∀p∈kids,FilN d p.2)(hA:∀q∈nodS kids,A q.1=q.2)(hs:∀q∈nodS kids,0<q.1∧q.1<pages)(hk:k+(nodS kids).length≤pages)(hL:lv.length+(lvsS kids).length≤1000000∧ln.length+(lvsS kids).length≤1000000∧ks.length+(entS kids).length≤1000000)(hcl:cellsT (d+1) (⟨num,kids⟩:Inn (T d))=cl){base:Nat}{a:Option Addr}(hr:w.ownsRow base 9 1 (.slice a cl.length cap) cl.length (valsS cl))(hvc:∀g,(Value.slice a cl.length cap).ownBlock=some g→¬vc.ownBlock=some g):Calls Tryz.prog 57 #[(.pointer (some ⟨sp,0,none⟩)),(.pointer (some ⟨Gp,0,none⟩)),.agg #[.int .i64 2,.int .i64 (linkT (d+1) (⟨num,kids⟩:Inn (T d)):Int),.slice a cl.length cap],.string lo,.string hi] w (nodP w sp B D Gp V K pk m A fl pages k vc lv ln ks (d+2) (nodS kids).length (lvsS kids) (entS kids)):=by
 have hcn:cl.length+1=kids.length:=by
  rw[←hcl];show(kids.tail.map _).length+1=_;rw[List.length_map,List.length_tail];omega
 have hpg:=h.flsmall.2;obtain⟨g,cap',cur,hva,hbg,hg,hc1,hc2,hc3,-,hc5⟩:=own_cur (l:=cl) (n:=cl.length) hr (by omega);injection hva with hva _ hca;subst hva hca;obtain⟨link,hlink⟩:∃link,linkT (d+1) (⟨num,kids⟩:Inn (T d))=link:=⟨_,rfl⟩;have hlk:link=numT d (kids[0]'(by omega)).2:=by
  rw[←hlink];cases kids with
  | nil=>simp at hne
  | cons p r=>rfl
 have hlo:(kids[0]'(by omega)).1=lo:=by
  obtain⟨p,r,e1,e2⟩:=hb.1;have e1:kids=p::r:=e1;subst e1;exact e2
 have hbs:BS (Bnd d) kids hi:=hb.2;rw[hlink];have hb1:Below w.heap.size w (w.alloc (.cells #[.int .i64 2,.int .i64 (link:Int),.slice (some ⟨g,0,none⟩) cl.length cap] 82)):=((Below.refl _ _).alloc (Nat.le_refl _) _);obtain⟨q1,s1⟩:=h.below hb1;have H0:Hid (ChS w (w.alloc (.cells #[.int .i64 2,.int .i64 (link:Int),.slice (some ⟨g,0,none⟩) cl.length cap] 82)) sp B D Gp V V K pk m A fl pages k va vb vc vc lv ln ks g w.heap.size cap link cl.length cur):=⟨⟨q1,h.staySp s1 hp,h.hf s1 sp vc⟩,(hb1.block g (Array.getElem?_eq_some_iff.1 hg).1).trans hg,hvc g rfl,Bx3.new w _ _ _⟩;have HC:=hide (fun(i:Nat) (hi':i<kids.length) (X:World) (Vi:PV) (va vb vci:Value) (hx:NoS w X sp B D Gp V Vi K pk m A fl pages (k+(nodS (kids.take i)).length) va vb vc vci (lv++(lvsS (kids.take i)).map (·.1)) (ln++(lvsS (kids.take i)).map (·.2)) (ks++(entS (kids.take i)).map (·.1))) =>
  (show Calls Tryz.prog 21 #[(.pointer (some ⟨sp,0,none⟩)),(.pointer (some ⟨Gp,0,none⟩)),.int .i64 (numT d kids[i].2:Int),.string kids[i].1,.string (nxt (kids.drop (i+1)) hi),.bool false] X (fun e w'=>e=.returned (.int .i64 ((d+1:Nat):Int))∧∃(V':PV) (va' vb' vc':Value),NoS X w' sp B D Gp Vi V' K pk m A fl pages (k+(nodS (kids.take (i+1))).length) va' vb' vci vc' (lv++(lvsS (kids.take (i+1))).map (·.1)) (ln++(lvsS (kids.take (i+1))).map (·.2)) (ks++(entS (kids.take (i+1))).map (·.1))) from by
   obtain⟨t1,t2,t3⟩:=nodS_take hi';have l1:=nodS_le kids (i+1);rw[t1,t2,t3] at l1 ⊢;simp only[List.length_append] at l1;have hin:∀q∈nodT d kids[i].2,q∈nodS kids:=fun q hq=>List.mem_flatMap.2 ⟨kids[i],List.getElem_mem hi',hq⟩
   refine(IH X Vi _ va vb vci _ _ _ kids[i].2 kids[i].1 (nxt (kids.drop (i+1)) hi) hx.ts hx.shp (BS_at kids hi hbs i hi') (hf _ (List.getElem_mem hi')) (fun q hq=>hA q (hin q hq)) (fun n hn=>?_) (by omega) ?_).mono ?_
   ·obtain⟨q,hq,rfl⟩:=List.mem_map.1 hn;exact hs q (hin q hq)
   ·simp only[List.length_append,List.length_map];omega
   ·rintro e w'⟨rfl,V',va',vb',vc',hn⟩;refine⟨rfl,V',va',vb',vc',?_⟩;simpa only[List.length_append,List.map_append,Nat.add_assoc,List.append_assoc] using hn))
 have HK:=hide (fun(i:Nat) (hi':i+1<kids.length)=>child_cell (num:=num) hi' (BS_ok hbs i hi'));rw[hcl] at HK;have HNB:=hide (fun(i:Nat) (hi':i<kids.length)=>(show numT d kids[i].2<4294967296 from by
  have:=(hs (numT d kids[i].2,pgT d kids[i].2) (List.mem_flatMap.2 ⟨kids[i],List.getElem_mem hi',by rw[nodT_eq];simp⟩)).2;have:numT d kids[i].2<pages:=this;omega))
 have HD:=hide (And.intro hd (And.intro hl4 hne));have HLK:=hide (And.intro hlk hlo);have HCU:=hide hc5;have hsp:=hp.cells.2.2.2.2.2.2;clear IH h hp hb hf hA hs hk hL hcl hr hvc hlink hlk hlo hbs hb1 q1 s1 hg hc5 hbg hc1 hc2 hc3 hd hpg;obtain⟨W,hW⟩:∃W,w.alloc (.cells #[.int .i64 2,.int .i64 (link:Int),.slice (some ⟨g,0,none⟩) cl.length cap] 82)=W:=⟨_,rfl⟩;rw[hW] at H0;obtain⟨bx,hbx⟩:∃bx,w.heap.size=bx:=⟨_,rfl⟩;rw[hbx] at H0;go_enter Tryz.func57,Tryz.ntmps57;go_wp2_with fail
 try rw[hW]
 try rw[hbx]
 clear hW hbx
 go_loopw [11,12] (fun x11 x12 X=>∃(i:Nat) (Vi:PV) (va vb vci:Value),i≤kids.length∧x11=.int .i64 ((if i=0 then 0 else d+1:Nat):Int)∧x12=.int .i64 (i:Int)∧Hid (ChS w X sp B D Gp V Vi K pk m A fl pages (k+(nodS (kids.take i)).length) va vb vc vci (lv++(lvsS (kids.take i)).map (·.1)) (ln++(lvsS (kids.take i)).map (·.2)) (ks++(entS (kids.take i)).map (·.1)) g bx cap link cl.length cur)) (fun _ x12 _=>kids.length-(intOf x12).toNat)
 case atStart=>exact⟨0,V,va,vb,vc,Nat.zero_le _,rfl,rfl,by simpa[nodS,lvsS,entS] using H0⟩
 case round =>
  obtain⟨i,Vi,va,vb,vci,hi',rfl,rfl,HX⟩:=hrel;obtain⟨c0,c1,c2,c3,c4,c5,c6⟩:=HX.out.no.shp.cells;have f4:=c5 4;have hsame:=HX.out.no.shp.same;have x1:=HX.out.bx.c1;have x2:=HX.out.bx.c2;have hcell:∀j,j<cl.length→wr.cell? ⟨g,j,none⟩=some (.string (tx cl j)):=fun j hj=>by
   have:=HCU.out j hj;simp only[World.cell?,HX.out.row];rw[this,tx_get hj];simp[hj]
  clear c0 c1 c2 c3 c5;by_cases hlt:i<kids.length
  ·by_cases hi0:i=0
   ·subst hi0;obtain⟨c,hc⟩:∃c,tx cl 0=c:=⟨_,rfl⟩;obtain⟨bc,hbc⟩:∃bc,bytS c 0=bc:=⟨_,rfl⟩;obtain⟨z1a,z2a,z3a,z4a,z5a⟩:=HK.out 0 (by omega) c hc.symm bc hbc;have bka:=bytS_get z1a;have bla:=bytS_lt c 0;rw[hbc] at bka bla;have cella:=hcell 0 (by omega);rw[hc] at cella;have hcall:=HC.out 0 hlt wr Vi va vb vci HX.out.no;rw[←HLK.out.1,HLK.out.2,nxt_at kids hi (0+1) (by omega),←z4a] at hcall;have HCA:=hide hcall;have e0:(0:Int)≤(cl.length:Int):=by omega
    have e1:(0:Int)<(cl.length:Int):=by omega
    clear hcall hcell z4a z5a hc hbc hi';go_wp2_with fail
    refine HCA.out.mono ?_;rintro e w2⟨rfl,V',va',vb',vc',hn⟩;have HX2:=hide (HX.out.step hn);clear hn HCA HX c4 f4 hsame x1 x2 c6;obtain⟨c0,c1,c2,c3,c4,c5,c6⟩:=HX2.out.no.shp.cells;have f4:=c5 4;have hsame:=HX2.out.no.shp.same;have x1:=HX2.out.bx.c1;have x2:=HX2.out.bx.c2;clear c0 c1 c2 c3 c5;go_wp2_with fail
    go_roundw
    case rel=>exact⟨0+1,V',va',vb',vc',by omega,by simp,by go_num,HX2⟩
    case measure=>simp[intOf];omega
   ·obtain⟨j,rfl⟩:∃j,i=j+1:=⟨i-1,by omega⟩;by_cases hjc:j+1<cl.length
    ·have hlt':j+1<kids.length:=hlt;obtain⟨c,hc⟩:∃c,tx cl j=c:=⟨_,rfl⟩;obtain⟨bc,hbc⟩:∃bc,bytS c 0=bc:=⟨_,rfl⟩;obtain⟨z1a,z2a,z3a,z4a,z5a⟩:=HK.out j (by omega) c hc.symm bc hbc;have bka:=bytS_get z1a;have bla:=bytS_lt c 0;rw[hbc] at bka bla;have cella:=hcell j (by omega);rw[hc] at cella;obtain⟨e,he⟩:∃e,tx cl (j+1)=e:=⟨_,rfl⟩;obtain⟨be,hbe⟩:∃be,bytS e 0=be:=⟨_,rfl⟩;obtain⟨z1b,z2b,z3b,z4b,z5b⟩:=HK.out (j+1) (by omega) e he.symm be hbe;have bkb:=bytS_get z1b;have blb:=bytS_lt e 0;rw[hbe] at bkb blb;have cellb:=hcell (j+1) (by omega);rw[he] at cellb;have hcall:=fun(X:World) (hx:NoS w X sp B D Gp V Vi K pk m A fl pages (k+(nodS (kids.take (j+1))).length) va vb vc vci (lv++(lvsS (kids.take (j+1))).map (·.1)) (ln++(lvsS (kids.take (j+1))).map (·.2)) (ks++(entS (kids.take (j+1))).map (·.1)))=>HC.out (j+1) hlt X Vi va vb vci hx
     rw[nxt_at kids hi (j+1+1) (by omega),←z4a,←z4b] at hcall;obtain⟨r,hr⟩:∃r,c.extract (1+bc) c.size=r:=⟨_,rfl⟩;have r4:r.size=4:=by rw[←hr,z5a];rfl
     have ho:=or4 (bytS r 0) (bytS r 1) (bytS r 2) (bytS r 3) (bytS_lt r 0) (bytS_lt r 1) (bytS_lt r 2) (bytS_lt r 3);have hrn:numB r 0=numT d kids[j+1].2:=by rw[←hr,z5a];exact num_four (HNB.out (j+1) hlt)
     have hrn2:((bytS r 0*256+bytS r 1)*256+bytS r 2)*256+bytS r 3=numT d kids[j+1].2:=by rw[←hrn];simp[numB,numK]
     rw[hrn2] at ho;obtain⟨nn,hnn⟩:∃nn,numT d kids[j+1].2=nn:=⟨_,rfl⟩;rw[hnn] at ho hcall;have q0:0<r.size:=by rw[r4];decide
     have g0:=bytS_get q0;have q1:1<r.size:=by rw[r4];decide
     have g1:=bytS_get q1;have q2:2<r.size:=by rw[r4];decide
     have g2:=bytS_get q2;have q3:3<r.size:=by rw[r4];decide
     have g3:=bytS_get q3;have y0:=bytS_lt r 0;have y1:=bytS_lt r 1;have y2:=bytS_lt r 2;have y3:=bytS_lt r 3;generalize bytS r 0=n0 at *;generalize bytS r 1=n1 at *;generalize bytS r 2=n2 at *;generalize bytS r 3=n3 at *;have HCB:=hide hcall;have HLE:=hide hlt;have e0:((j+1:Nat):Int)≤(cl.length:Int):=by omega
     have e1:(0:Int)<((j+1:Nat):Int):=by omega
     have e2:((j+1:Nat):Int)-1=(j:Int):=by omega
     have e3:((j+1:Nat):Int)<(cl.length:Int):=by omega
     have e4:¬((j+1:Nat):Int)=0:=by omega
     have e5:((j:Nat):Int)<(cl.length:Int):=by omega
     have e6:(0:Int)≤((j:Nat):Int):=by omega
     clear hcall z4a z5a hc hbc hi' hrn hrn2 hnn z4b z5b he hbe;clear hcell;generalize hij:j+1=i at *;have HIJ:=hide hij;clear hij hlt hlt' hjc hi0;go_wp2_with fail
     go_quiet (fail)
     have HXd:=hide (HX.out.below (drawnB wr nq));have HCA:=hide (HCB.out _ HXd.out.no);have cellq:(wr.drewN nq).cell? ⟨g,i,none⟩=some (.string e):=((drawnB wr nq).cell (p:=⟨g,i,none⟩) (Array.getElem?_eq_some_iff.1 HX.out.row).1).trans cellb;clear cellb;clear HX HCB c4 f4 hsame x1 x2 c6 cella;generalize wr.drewN nq=wd at *;obtain⟨c0,c1,c2,c3,c4,c5,c6⟩:=HXd.out.no.shp.cells;have f4:=c5 4;have hsame:=HXd.out.no.shp.same;have x1:=HXd.out.bx.c1;have x2:=HXd.out.bx.c2;clear c0 c1 c2 c3 c5;go_wp2_with fail
     refine HCA.out.mono ?_;rintro e w2⟨rfl,V',va',vb',vc',hn⟩;have HX2:=hide (HXd.out.step hn);clear hn HCA HXd c4 f4 hsame x1 x2 c6;obtain⟨c0,c1,c2,c3,c4,c5,c6⟩:=HX2.out.no.shp.cells;have f4:=c5 4;have hsame:=HX2.out.no.shp.same;have x1:=HX2.out.bx.c1;have x2:=HX2.out.bx.c2;clear c0 c1 c2 c3 c5;go_wp2_with fail
     go_roundw
     case rel=>exact⟨i+1,V',va',vb',vc',by have:=HIJ.out;have:=HLE.out;omega,by simp,by go_num,HX2⟩
     case measure=>simp[intOf];have:=HLE.out;omega
    ·have hlt':j+1<kids.length:=hlt;obtain⟨c,hc⟩:∃c,tx cl j=c:=⟨_,rfl⟩;obtain⟨bc,hbc⟩:∃bc,bytS c 0=bc:=⟨_,rfl⟩;obtain⟨z1a,z2a,z3a,z4a,z5a⟩:=HK.out j (by omega) c hc.symm bc hbc;have bka:=bytS_get z1a;have bla:=bytS_lt c 0;rw[hbc] at bka bla;have cella:=hcell j (by omega);rw[hc] at cella;have hcall:=fun(X:World) (hx:NoS w X sp B D Gp V Vi K pk m A fl pages (k+(nodS (kids.take (j+1))).length) va vb vc vci (lv++(lvsS (kids.take (j+1))).map (·.1)) (ln++(lvsS (kids.take (j+1))).map (·.2)) (ks++(entS (kids.take (j+1))).map (·.1)))=>HC.out (j+1) hlt X Vi va vb vci hx
     rw[nxt_end kids hi (j+1+1) (by omega),←z4a] at hcall;obtain⟨r,hr⟩:∃r,c.extract (1+bc) c.size=r:=⟨_,rfl⟩;have r4:r.size=4:=by rw[←hr,z5a];rfl
     have ho:=or4 (bytS r 0) (bytS r 1) (bytS r 2) (bytS r 3) (bytS_lt r 0) (bytS_lt r 1) (bytS_lt r 2) (bytS_lt r 3);have hrn:numB r 0=numT d kids[j+1].2:=by rw[←hr,z5a];exact num_four (HNB.out (j+1) hlt)
     have hrn2:((bytS r 0*256+bytS r 1)*256+bytS r 2)*256+bytS r 3=numT d kids[j+1].2:=by rw[←hrn];simp[numB,numK]
     rw[hrn2] at ho;obtain⟨nn,hnn⟩:∃nn,numT d kids[j+1].2=nn:=⟨_,rfl⟩;rw[hnn] at ho hcall;have q0:0<r.size:=by rw[r4];decide
     have g0:=bytS_get q0;have q1:1<r.size:=by rw[r4];decide
     have g1:=bytS_get q1;have q2:2<r.size:=by rw[r4];decide
     have g2:=bytS_get q2;have q3:3<r.size:=by rw[r4];decide
     have g3:=bytS_get q3;have y0:=bytS_lt r 0;have y1:=bytS_lt r 1;have y2:=bytS_lt r 2;have y3:=bytS_lt r 3;generalize bytS r 0=n0 at *;generalize bytS r 1=n1 at *;generalize bytS r 2=n2 at *;generalize bytS r 3=n3 at *;have HCB:=hide hcall;have HLE:=hide hlt;have e0:((j+1:Nat):Int)≤(cl.length:Int):=by omega
     have e1:(0:Int)<((j+1:Nat):Int):=by omega
     have e2:((j+1:Nat):Int)-1=(j:Int):=by omega
     have e3:¬((j+1:Nat):Int)<(cl.length:Int):=by omega
     have e4:¬((j+1:Nat):Int)=0:=by omega
     have e5:((j:Nat):Int)<(cl.length:Int):=by omega
     have e6:(0:Int)≤((j:Nat):Int):=by omega
     clear hcall z4a z5a hc hbc hi' hrn hrn2 hnn;clear hcell;generalize hij:j+1=i at *;have HIJ:=hide hij;clear hij hlt hlt' hjc hi0;go_wp2_with fail
     go_quiet (fail)
     have HXd:=hide (HX.out.below (drawnB wr nq));have HCA:=hide (HCB.out _ HXd.out.no);clear HX HCB c4 f4 hsame x1 x2 c6 cella;generalize wr.drewN nq=wd at *;obtain⟨c0,c1,c2,c3,c4,c5,c6⟩:=HXd.out.no.shp.cells;have f4:=c5 4;have hsame:=HXd.out.no.shp.same;have x1:=HXd.out.bx.c1;have x2:=HXd.out.bx.c2;clear c0 c1 c2 c3 c5;go_wp2_with fail
     refine HCA.out.mono ?_;rintro e w2⟨rfl,V',va',vb',vc',hn⟩;have HX2:=hide (HXd.out.step hn);clear hn HCA HXd c4 f4 hsame x1 x2 c6;obtain⟨c0,c1,c2,c3,c4,c5,c6⟩:=HX2.out.no.shp.cells;have f4:=c5 4;have hsame:=HX2.out.no.shp.same;have x1:=HX2.out.bx.c1;have x2:=HX2.out.bx.c2;clear c0 c1 c2 c3 c5;go_wp2_with fail
     go_roundw
     case rel=>exact⟨i+1,V',va',vb',vc',by have:=HIJ.out;have:=HLE.out;omega,by simp,by go_num,HX2⟩
     case measure=>simp[intOf];have:=HLE.out;omega
  ·have hie:i=kids.length:=by omega
   subst hie;have e0:¬(kids.length:Int)≤(cl.length:Int):=by omega
   have e1:¬kids.length=0:=by omega
   rw[if_neg e1];have e2:d≤1000:=HD.out.1;clear hcell e1;go_wp2_with fail
   go_ret;refine⟨by first | rfl | go_num,Vi,va,vb,vci,?_⟩;simpa only[List.take_length] using HX.out.no
end
section
variable {pk:Nat}
theorem cnode1 (IH:NodOk B D Gp K pk m A fl pages sp d)(h:TS w B D Gp V K pk m A fl pages)(hm:m≤50000)(hp:Sp w sp V k va vb vc lv ln ks true)(hB:B≤sp){x:T (d+1)}(hb:Bnd (d+1) lo hi x)(hd:d≤1000)(hu:usedC (cellsT (d+1) x)≤1012)(hne:¬cellsT (d+1) x=[])(hf:∀p∈x.kids,FilN d p.2)(root:Bool)(hr:root=true∨180≤usedC (cellsT (d+1) x))(hA:∀q∈nodT (d+1) x,A q.1=q.2)(hs:∀n∈numsT (d+1) x,0<n∧n<pages)(hk:k+(nodT (d+1) x).length≤pages)(hL:lv.length+(lvsT (d+1) x).length≤1000000∧ln.length+(lvsT (d+1) x).length≤1000000∧ks.length+(entT (d+1) x).length≤1000000):Calls Tryz.prog 21 #[(.pointer (some ⟨sp,0,none⟩)),(.pointer (some ⟨Gp,0,none⟩)),.int .i64 (x.num:Int),.string lo,.string hi,.bool root] w (nodP w sp B D Gp V K pk m A fl pages k vc lv ln ks (d+2) (nodT (d+1) x).length (lvsT (d+1) x) (entT (d+1) x)):=by
 obtain⟨num,kids⟩:=x;show Calls Tryz.prog 21 #[(.pointer (some ⟨sp,0,none⟩)),(.pointer (some ⟨Gp,0,none⟩)),.int .i64 (num:Int),.string lo,.string hi,.bool root] w _;have hcl0:(cellsT (d+1) (⟨num,kids⟩:Inn (T d))).length+1=kids.length:=by
  have:0<(cellsT (d+1) (⟨num,kids⟩:Inn (T d))).length:=List.length_pos_iff.2 hne;have e:(cellsT (d+1) (⟨num,kids⟩:Inn (T d))).length=kids.tail.length:=by show(kids.tail.map _).length=_;rw[List.length_map]
  rw[e,List.length_tail] at this;rw[e,List.length_tail];omega
 have hn1:(nodT (d+1) (⟨num,kids⟩:Inn (T d))).length=1+(nodS kids).length:=by show(_::_:List (Nat×PgV)).length=_;rw[List.length_cons,Nat.add_comm];rfl
 have hin:∀q∈nodS kids,q∈nodT (d+1) (⟨num,kids⟩:Inn (T d)):=fun q hq=>by show q∈_::_;exact List.mem_cons_of_mem _ hq
 have HCH:=hide (fun(W:World) (V1:PV) (a1:Option Addr) (c1:Nat) (h1:TS W B D Gp V1 K pk m A fl pages) (h2:Sp W sp V1 (k+1) va vb vc lv ln ks true) (base:Nat) (h4:W.ownsRow base 9 1 (.slice a1 (cellsT (d+1) (⟨num,kids⟩:Inn (T d))).length c1) (cellsT (d+1) (⟨num,kids⟩:Inn (T d))).length (valsS (cellsT (d+1) (⟨num,kids⟩:Inn (T d))))) (h5:∀g,(Value.slice a1 (cellsT (d+1) (⟨num,kids⟩:Inn (T d))).length c1).ownBlock=some g→¬vc.ownBlock=some g)=>cchildrenS IH h1 h2 hb (by have:0<(cellsT (d+1) (⟨num,kids⟩:Inn (T d))).length:=List.length_pos_iff.2 hne;omega) (by have:=used_len4 (l:=cellsT (d+1) (⟨num,kids⟩:Inn (T d)));omega) hd hf (fun q hq=>hA q (hin q hq)) (fun q hq=>hs q.1 (List.mem_map.2 ⟨q,hin q hq,rfl⟩)) (by omega) hL rfl h4 h5);have HNE:Hid (¬(cellsT (d+1) (⟨num,kids⟩:Inn (T d))).length=0):=fun e=>hne (List.length_eq_zero_iff.1 e)
 clear IH hf hcl0 hin hne;have hl4:(cellsT (d+1) (⟨num,kids⟩:Inn (T d))).length≤400:=by have:=used_len4 (l:=cellsT (d+1) (⟨num,kids⟩:Inn (T d)));omega
 have hky:=Ky_of hb (by omega) 0;have hnum:num∈numsT (d+1) (⟨num,kids⟩:Inn (T d)):=by show num∈List.map _ (_::_);simp
 have hnl:0<(nodT (d+1) (⟨num,kids⟩:Inn (T d))).length:=by omega
 have hAx:A num=⟨2,linkT (d+1) (⟨num,kids⟩:Inn (T d)),cellsT (d+1) (⟨num,kids⟩:Inn (T d))⟩:=hA (num,pgT (d+1) (⟨num,kids⟩:Inn (T d))) (by show _∈_::_;simp);have hvc:∀g,vc.ownBlock=some g→g<w.heap.size:=fun g hg=>(World.ownsRow.lt hp.rc g hg).2
 have HVC:=hide hvc;clear hvc;have HO:=hide (copenS h hm hp hB num (hs _ hnum).2 (by omega));rw[hAx] at HO;have HK:=hide hky;obtain⟨cl,hcl⟩:∃cl,cellsT (d+1) (⟨num,kids⟩:Inn (T d))=cl:=⟨_,rfl⟩;have HKY:=hide (show(∀j,j<cl.length→(0<(tx cl j).size∧kS (tx cl j)≤(tx cl j).size∧(tx cl j).size≤240)∧klt (keyB (tx cl j)) lo=false∧ltB (keyB (tx cl j)) hi)∧(∀j,j+1<cl.length→klt (keyB (tx cl j)) (keyB (tx cl (j+1)))=true) from by
  rw[←hcl];exact⟨fun j hj=>⟨⟨Nat.lt_of_lt_of_le (kS_in (tx (cellsT (d+1) (⟨num,kids⟩:Inn (T d))) j)).1 (hky.key j hj).1,(hky.key j hj).1,(hky.key j hj).2⟩,hky.low j hj,hky.high j hj⟩,fun j hj=>hky.ord j hj⟩)
 rw[hcl] at HO hu hr hl4 HCH HNE;have HR:=hide hr;clear hr;have HU:=hide (And.intro hu hl4);obtain⟨xl,hxl⟩:∃xl,linkT (d+1) (⟨num,kids⟩:Inn (T d))=xl:=⟨_,rfl⟩;rw[hxl] at HO HCH;have HB:=hide hB;have hsp:=hp.cells.2.2.2.2.2.2;have HP:Hid (nodP w sp B D Gp V K pk m A fl pages k vc lv ln ks (d+2) (nodT (d+1) (⟨num,kids⟩:Inn (T d))).length (lvsT (d+1) (⟨num,kids⟩:Inn (T d))) (entT (d+1) (⟨num,kids⟩:Inn (T d)))=nodP w sp B D Gp V K pk m A fl pages k vc lv ln ks (d+2) (1+(nodS kids).length) (lvsS kids) (entS kids)):=by rw[hn1];rfl
 rw[HP.out];clear HP hn1;generalize (nodS kids).length=cnt at *;clear h hp hb hA hs hk hL hm hd hky hnum hnl hAx HK hB;go_enter Tryz.func21,Tryz.ntmps21;go_wp2_with fail
 refine HO.out.mono ?_;rintro e w1⟨V1,v1,rfl,k1,k2,k3,k4⟩;obtain⟨va1,ca1,rfl,-⟩:=sta_own (L:=cl) k4;have hb1:Below w1.heap.size w1 (w1.alloc (.cells #[.int .i64 2,.int .i64 (xl:Int),.slice va1 cl.length ca1] 82)):=((Below.refl _ _).alloc (Nat.le_refl _) _);obtain⟨q1,s1⟩:=k1.below hb1;have q2:=k1.staySp s1 k2;have q3:=k3.trans (k1.hf s1 sp vc);have q4:=own_below k4 hb1;have bx:=Bx3.new w1 (.int .i64 2) (.int .i64 (xl:Int)) (.slice va1 cl.length ca1);have HT:=hide (And.intro q1 (And.intro q2 (And.intro q3 (And.intro q4 bx))));clear k1 k2 k3 k4 q1 s1 q3 q2 q4 hb1 HO bx;go_wp2_with fail
 obtain⟨W,hW⟩:∃W,w1.alloc (.cells #[.int .i64 2,.int .i64 (xl:Int),.slice va1 cl.length ca1] 82)=W:=⟨_,rfl⟩;rw[hW] at HT ⊢;clear hW
 go_loopw [14,15,28] (fun x14 x15 x28 X=>∃j:Nat,j≤cl.length∧x14=.int .i64 (usedC (cl.take j):Int)∧x15=.string (lastK cl j)∧x28=.int .i64 (j:Int)∧X=W) (fun _ _ x28 _=>cl.length-(intOf x28).toNat)
 case atStart=>exact⟨0,Nat.zero_le _,by simp[usedC],rfl,rfl,rfl⟩
 case round =>
  obtain⟨j,hj,rfl,rfl,rfl,rfl⟩:=hrel;obtain⟨c0,c1,c2,c3,c4,c5,c6⟩:=HT.out.2.1.cells;have f4:=c5 4;have hsame:=HT.out.2.1.same;by_cases hjc:j<cl.length
  ·have hlt:(j:Int)<(cl.length:Int):=by omega
   have h0:(0:Int)≤(j:Int):=by omega
   obtain⟨⟨e1,e2,e3⟩,e4,e5⟩:=HKY.out.1 j hjc;have hord:j=0∨0<j∧klt (lastK cl j) (keyB (tx cl j))=true:=by
    cases j with
    | zero=>exact .inl rfl
    | succ j=>exact .inr ⟨by omega,HKY.out.2 j hjc⟩
   obtain⟨g,cap,cur,hva,hbg,hg,hc1,hc2,hc3,-,hc5⟩:=own_cur (l:=cl) (n:=cl.length) HT.out.2.2.2.1 (by omega);injection hva with hva _ hca;subst hva hca;have hcell:wr.cell? ⟨g,j,none⟩=some (.string (tx cl j)):=by
    have:=hc5 j hjc;simp only[World.cell?,hg];rw[this,tx_get hjc];simp[hjc]
   have hut:=used_takeS hjc;have hul:=used_take_le cl (j+1);have HX:=hide (show j<cl.length∧usedC (cl.take (j+1))=usedC (cl.take j)+(4+(tx cl j).size)∧lastK cl (j+1)=keyB (tx cl j) from⟨hjc,hut,rfl⟩);obtain⟨us,hus⟩:∃us,usedC (cl.take j)=us:=⟨_,rfl⟩;have husb:us≤1012:=by have:=HU.out;omega
   rw[hus] at HX ⊢;have bk:=bytS_get e1;have bkl:=bytS_lt (tx cl j) 0;have hkS:kS (tx cl j)=1+bytS (tx cl j) 0:=rfl;have hkb:keyB (tx cl j)=(tx cl j).extract 1 (kS (tx cl j)):=rfl;have hem:=empty_of (a:=tx cl j) (fun e=>by rw[e] at e1;exact absurd e1 (by decide));rw[hkS] at hkb e2;generalize tx cl j=c at *;generalize lastK cl j=lk at *;generalize keyB c=kc at *;generalize bytS c 0=b0 at *;have e4':Op.bytesLess (c.extract 1 (1+b0)).toList lo.toList=false:=by rw[←hkb];exact e4
   clear hc1 hc2 hc3 hc5 hg hbg hut hul hus c0 c1 c2 c3 c5 e4 hkS hj;have HKB:=hide hkb;have hj0:j=0∨¬(j:Int)=0:=by omega
   rcases e5 with e5|e5
   ·have hhi:hi.toList.isEmpty=true:=by rw[e5,ByteArray.toList_eq];rfl
    rcases hord with hord|hord
    ·subst hord
     replace hcell:wr.cell? ⟨g,0,none⟩=some (.string c):=hcell
     replace hlt:(0:Int)<(cl.length:Int):=hlt
     clear hj0;go_wp2_with fail
     first | refine⟨⟨0+1,HX.out.1,?_,?_,rfl,trivial⟩,?_⟩ | refine⟨⟨_,_,_,_,_,_,_,⟨0+1,HX.out.1,rfl,rfl,rfl⟩,rfl,?_,?_,rfl,rfl,rfl,rfl⟩,?_⟩
     ·rw[HX.out.2.1]
      congr 1
     ·rw[HX.out.2.2,HKB.out]
     ·simp[intOf];have:=HX.out.1;omega
    ·rcases hj0 with hj0|hj0
     ·exact absurd hord.1 (by omega)
     ·have hg1:Op.bytesLess (c.extract 1 (1+b0)).toList lk.toList=false:=by rw[←hkb];exact klt_asy hord.2
      have hg2:((c.extract 1 (1+b0)).toList == lk.toList)=false:=by rw[←hkb];exact beq_ne hord.2
      clear hord;go_wp2_with fail
      first | refine⟨⟨j+1,HX.out.1,?_,?_,by go_num,trivial⟩,?_⟩ | refine⟨⟨_,_,_,_,_,_,_,⟨j+1,HX.out.1,rfl,rfl,rfl⟩,rfl,?_,?_,rfl,rfl,rfl,by go_num⟩,?_⟩
      ·rw[HX.out.2.1]
       congr 1
      ·rw[HX.out.2.2,HKB.out]
      ·simp[intOf];have:=HX.out.1;omega
   ·have hhi:hi.toList.isEmpty=false:=empty_of (fun e=>by rw[e] at e5;revert e5;unfold klt;rw[show(⟨#[]⟩:ByteArray).toList=[] from by rw[ByteArray.toList_eq]];cases kc.toList<;>simp[Op.bytesLess]);have hlh:Op.bytesLess (c.extract 1 (1+b0)).toList hi.toList=true:=by rw[←hkb];exact e5
    rcases hord with hord|hord
    ·subst hord
     replace hcell:wr.cell? ⟨g,0,none⟩=some (.string c):=hcell
     replace hlt:(0:Int)<(cl.length:Int):=hlt
     clear hj0;go_wp2_with fail
     first | refine⟨⟨0+1,HX.out.1,?_,?_,rfl,trivial⟩,?_⟩ | refine⟨⟨_,_,_,_,_,_,_,⟨0+1,HX.out.1,rfl,rfl,rfl⟩,rfl,?_,?_,rfl,rfl,rfl,rfl⟩,?_⟩
     ·rw[HX.out.2.1]
      congr 1
     ·rw[HX.out.2.2,HKB.out]
     ·simp[intOf];have:=HX.out.1;omega
    ·rcases hj0 with hj0|hj0
     ·exact absurd hord.1 (by omega)
     ·have hg1:Op.bytesLess (c.extract 1 (1+b0)).toList lk.toList=false:=by rw[←hkb];exact klt_asy hord.2
      have hg2:((c.extract 1 (1+b0)).toList == lk.toList)=false:=by rw[←hkb];exact beq_ne hord.2
      clear hord;go_wp2_with fail
      first | refine⟨⟨j+1,HX.out.1,?_,?_,by go_num,trivial⟩,?_⟩ | refine⟨⟨_,_,_,_,_,_,_,⟨j+1,HX.out.1,rfl,rfl,rfl⟩,rfl,?_,?_,rfl,rfl,rfl,by go_num⟩,?_⟩
      ·rw[HX.out.2.1]
       congr 1
      ·rw[HX.out.2.2,HKB.out]
      ·simp[intOf];have:=HX.out.1;omega
  ·have hje:j=cl.length:=by omega
   subst hje;have hnlt:¬(cl.length:Int)<(cl.length:Int):=by omega
   obtain⟨us,hus⟩:∃us,usedC (cl.take cl.length)=us:=⟨_,rfl⟩;have hu1:root=true∨(180:Int)≤(us:Int):=by rw[←hus,List.take_length];exact HR.out.imp id (fun q=>by omega)
   rw[hus];obtain⟨h1,h2,h3,h4,bx⟩:=HT.out;have HC:=hide (HCH.out wr V1 va1 ca1 h1 h2 w.heap.size h4 (fun g e q=>by have:=(World.ownsRow.lt h4 g e).1;have:=HVC.out g q;omega));have HF3:=hide h3;have x0:=bx.c0;have x1:=bx.c1;have x2:=bx.c2;have xf:=bx.lt;obtain⟨xb,hxb⟩:∃xb,w1.heap.size=xb:=⟨_,rfl⟩;rw[hxb] at x0 x1 x2 xf ⊢;have hne0:=HNE.out;clear h1 h2 h3 h4 bx hus hjc hj HT HVC HKY hxb HCH
   go_upto_region 15 with fail
   go_cut [] (fun wx=>wx=wr)
   case first =>
    rcases hu1 with hu1|hu1
    ·subst hu1;go_wp2_with fail
     go_meet
     case rel=>rfl
    ·cases root with
     | true =>
      go_wp2_with fail
      go_meet
      case rel=>rfl
     | false =>
      go_wp2_with fail
      go_meet
      case rel=>rfl
   subst hcut;go_wp2_with fail
   refine HC.out.mono ?_;rintro e w2⟨rfl,V',va',vb',vc',hn⟩;go_wp2_with fail
   go_ret;refine⟨rfl,V',va',vb',vc',?_⟩;rw[←Nat.add_assoc];exact⟨hn.ts,hn.shp,HF3.out.trans hn.hf⟩
end
section
variable {pk:Nat}
theorem nod_ok (hm:m≤50000)(hB:B≤sp):∀d,d≤1000→NodOk B D Gp K pk m A fl pages sp d
 | 0,_=>fun _ _ _ _ _ _ _ _ _ _ _ _ h hp hb hf hA hs hk hL=>cnode0 h hm hp hB hb hf.2 false (.inr hf.1) hA hs hk hL
 | d + 1, hd => fun _ _ _ _ _ _ _ _ _ x _ _ h hp hb hf hA hs hk hL => cnode1 (nod_ok hm hB d (by omega)) h hm hp hB hb (by omega) hf.1.2 (fun e => by
   have:=hf.1.1;rw[e] at this;exact absurd this (by decide)) hf.2 false (.inr hf.1.1) hA hs hk hL
theorem nod_root {t:T d}(h:TS w B D Gp V K pk m A fl pages)(hm:m≤50000)(hp:Sp w sp V k va vb vc lv ln ks true)(hB:B≤sp)(hT:Tr A fl pages [] t es)(hd:d≤1000)(hk:k+(nodT d t).length≤pages)(hL:lv.length+(lvsT d t).length≤1000000∧ln.length+(lvsT d t).length≤1000000∧ks.length+(entT d t).length≤1000000):Calls Tryz.prog 21 #[(.pointer (some ⟨sp,0,none⟩)),(.pointer (some ⟨Gp,0,none⟩)),.int .i64 (numT d t:Int),.string ⟨#[]⟩,.string ⟨#[]⟩,.bool true] w (nodP w sp B D Gp V K pk m A fl pages k vc lv ln ks (d+1) (nodT d t).length (lvsT d t) (entT d t)):=by
 have F:=hT.facts;cases d with
 | zero=>exact cnode0 h hm hp hB F.bnd hT.ok.high true (.inl rfl) F.all F.num hk hL
 | succ d=>exact cnode1 (nod_ok hm hB d (by omega)) h hm hp hB F.bnd (by omega) hT.ok.high (hT.ok.some.resolve_left (by omega)) hT.ok.kids true (.inl rfl) F.all F.num hk hL
end
end Go.Proofs.YtiaibgfhigdgdaaGreat
