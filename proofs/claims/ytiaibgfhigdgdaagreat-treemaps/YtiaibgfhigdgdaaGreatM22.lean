/- a part -/
import Derived.Test.YtiaibgfhigdgdaaGreatM12
set_option maxRecDepth 100000
set_option maxHeartbeats 8000000
namespace Go.Proofs.YtiaibgfhigdgdaaGreat
open Tryz
open Go.RowKit Go.Lib Go.Maps
variable {P:Program}{ops:Array Oper}{Q:Exit->Act->World->Prop}{o oj:Oper}{a a' a0:Act}{j s i q id:Nat}{want b:Bool}{K:Act->World->Prop}{X X' wc:World}{v:Value}{tab:List (Nat×Option Value)}{L:Nat->Bool}{E:List Nat}{St:Nat->Act->World->Prop}
theorem wanted_of (hg:o.guard=some (j,want))(hj:ops[j]?=some oj)(hd:oj.dst=some s)(ht:a.tmps[s]?=some (.bool b)):Region.wanted o (yielded ops a.tmps)=(b == want):=by
 have hy:yielded ops a.tmps j=some b:=by simp[yielded,hj,hd,ht]
 simp only[Region.wanted,hg,hy];cases b<;>cases want<;>rfl
theorem wanted_undef (hg:o.guard=some (j,want))(hj:ops[j]?=some oj)(hd:oj.dst=some s)(ht:a.tmps[s]?=some undef):Region.wanted o (yielded ops a.tmps)=false:=by
 have hy:yielded ops a.tmps j=none:=by simp[yielded,hj,hd,ht,undef]
 simp only[Region.wanted,hg,hy];cases want<;>rfl
theorem wanted_none (hg:o.guard=none):Region.wanted o (yielded ops a.tmps)=true:=by simp only[Region.wanted,hg]
theorem wpOp_valueG (ho:ops[i]?=some o)(hw:Region.wanted o (yielded ops a.tmps)=true)(hr:(execOp a.eval o).run P X=.ok (.value v) X')(h:K (a.put o.dst v) X'):wpOp P ops Q i K a X:=by
 unfold wpOp;simp only[ho,hw,if_true,Oper.wp,hr,Oper.upon];exact .inl h
theorem wpOp_skipG (ho:ops[i]?=some o)(hw:Region.wanted o (yielded ops a.tmps)=false)(h:K (a.put o.dst undef) X):wpOp P ops Q i K a X:=by
 unfold wpOp;simp only[ho,hw,Bool.false_eq_true,if_false];exact h
theorem wpOp_callG {f:FuncId}{args:Array Value}{R:Value->World->Prop}(ho:ops[i]?=some o)(hw:Region.wanted o (yielded ops a.tmps)=true)(hr:(execOp a.eval o).run P X=.ok (.enter f args) X')(hc:Calls P f args X' λe w'=>∃v,e=.returned v∧R v w')(h:∀v w',R v w'->K (a.put o.dst v) w'):wpOp P ops Q i K a X:=by
 unfold wpOp;simp only[ho,hw,if_true,Oper.wp,hr,Oper.upon];refine .inl (hc.mono λe w' he=>?_);obtain⟨v,rfl,hR⟩:=he;exact h v w' hR
theorem tmp_of (h:a.eval (.tmp i)=v):a.tmps[i]?.getD undef=v:=by
 rw[<-h];simp only[Act.eval,Array.getD_eq_getD_getElem?]
def SlT (tab:List (Nat×Value))(L:Nat->Bool)(a:Act):Prop:=∀i s v,tab[i]?=some (s,v)->L i=true->a.eval (.tmp s)=v
theorem SlT.put {tab:List (Nat×Value)}(h:SlT tab L a)(hq:tab[q]?=some (s,v))(hn:(tab.map (·.1)).Nodup)(hs:s<a.tmps.size):SlT tab (upd L q) (a.put (some s) v):=by
 intro i s' v' hi hL;by_cases e:i=q
 ·subst e;rw[hq] at hi;injection hi with hi;injection hi with h1 h2;subst h1 h2;exact eval_put_same hs _
 ·have hne:¬s=s':=λe2=>e (by
   have hl:i<(tab.map (·.1)).length:=by
    rw[List.length_map];exact(List.getElem?_eq_some_iff.1 hi).1
   refine(List.getElem?_inj hl hn).1 ?_;rw[List.getElem?_map,List.getElem?_map,hi,hq,e2];rfl)
  rw[eval_put_ne hne];exact h i s' v' hi (by rw[upd_ne _ e] at hL;exact hL)
def Cld (ops:Array Oper)(L:Nat->Bool):Prop:=∀i o,ops[i]?=some o->L i=true->∀e∈o.after,Region.binds .any e=true->L e.on=true
theorem upd_of (h:L i=true):upd L q i=true:=by
 by_cases e:i=q
 ·rw[e];exact upd_same _ _
 ·rw[upd_ne _ e];exact h
theorem Cld.upd (h:Cld ops L)(ho:ops[q]?=some o)(hd:∀e∈o.after,Region.binds .any e=true->L e.on=true):Cld ops (upd L q):=λi o' hi hL e he hb=>by
 by_cases q1:i=q
 ·subst q1;rw[ho] at hi;injection hi with hi;subst hi;exact upd_of (hd e he hb)
 ·rw[upd_ne _ q1] at hL;exact upd_of (h i o' hi hL e he hb)
def Gst (ops:Array Oper)(E:List Nat)(St:Nat->Act->World->Prop)(L:Nat->Bool)(a:Act)(X:World):Prop:=Cld ops L∧∃k,(∀j q,E[j]?=some q->(L q=true↔j<k))∧k<=E.length∧St k a X
theorem Gst.keep (h:Gst ops E St L a X)(ho:ops[q]?=some o)(hd:∀e∈o.after,Region.binds .any e=true->L e.on=true)(hE:¬q∈E)(hS:∀k,St k a X->St k a' X):Gst ops E St (upd L q) a' X:=by
 obtain⟨h1,k,h2,h3,h4⟩:=h;refine⟨h1.upd ho hd,k,λj q' hj=>?_,h3,hS k h4⟩;have hne:¬q'=q:=λe=>hE (e ▸ List.mem_of_getElem? hj)
 rw[upd_ne _ hne];exact h2 j q' hj
theorem Gst.stage (h:Gst ops E St L a X)(hj:E[j]?=some q)(hL:L q=false)(hp:∀i p,i+1=j->E[i]?=some p->L p=true):St j a X:=by
 obtain⟨-,k,h2,h3,h4⟩:=h;have a1:¬j<k:=λe=>by have:=(h2 j q hj).2 e;rw[hL] at this;cases this
 have hjl:=(List.getElem?_eq_some_iff.1 hj).1;have a2:j<=k:=by
  cases j with
  | zero=>omega
  | succ i =>
   have hi:i<E.length:=by omega
   have:=(h2 i E[i] (List.getElem?_eq_getElem hi)).1 (hp i _ rfl (List.getElem?_eq_getElem hi));omega
 have:k=j:=by omega
 rw[<-this];exact h4
theorem Gst.next (h:Gst ops E St L a X)(ho:ops[q]?=some o)(hd:∀e∈o.after,Region.binds .any e=true->L e.on=true)(hn:E.Nodup)(hj:E[j]?=some q)(hL:L q=false)(hp:∀i p,i+1=j->E[i]?=some p->L p=true)(hS:St (j+1) a' X'):Gst ops E St (upd L q) a' X':=by
 obtain⟨h1,k,h2,h3,h4⟩:=h;have a1:¬j<k:=λe=>by have:=(h2 j q hj).2 e;rw[hL] at this;cases this
 have hjl:=(List.getElem?_eq_some_iff.1 hj).1;have a2:j<=k:=by
  cases j with
  | zero=>omega
  | succ i =>
   have hi:i<E.length:=by omega
   have:=(h2 i E[i] (List.getElem?_eq_getElem hi)).1 (hp i _ rfl (List.getElem?_eq_getElem hi));omega
 refine⟨h1.upd ho hd,j+1,λi p hi=>?_,hjl,hS⟩;by_cases e:p=q
 ·subst e;have hij:i=j:=(List.getElem?_inj (List.getElem?_eq_some_iff.1 hi).1 hn).1 (hi.trans hj.symm);rw[hij,upd_same];simp
 ·rw[upd_ne _ e,h2 i p hi];have hij:¬i=j:=λe2=>e (by rw[e2,hj] at hi;injection hi with hi;exact hi.symm)
  omega
theorem Gst.upto (h:Gst ops E St L a X)(hj:E[j]?=some q)(hL:L q=false):∃k,k<=j∧St k a X:=by
 obtain⟨-,k,h2,h3,h4⟩:=h;refine⟨k,?_,h4⟩;have a1:¬j<k:=λe=>by have:=(h2 j q hj).2 e;rw[hL] at this;cases this
 omega
theorem Gst.full (h:Gst ops E St L a X)(hE:∀q∈E,q<ops.size)(hall:∀i,i<ops.size->L i=true):St E.length a X:=by
 obtain⟨-,k,h2,h3,h4⟩:=h;have:k=E.length:=by
  rcases Nat.lt_or_ge k E.length with hk|hk
  ·have:=(h2 k E[k] (List.getElem?_eq_getElem hk)).1 (hall _ (hE _ (List.getElem_mem hk)));omega
  ·omega
 rw[<-this];exact h4
theorem Gst.again {k:Nat}(h1:Cld ops L)(h2:∀j q,E[j]?=some q->(L q=true↔j<k))(h3:k<=E.length)(ho:ops[q]?=some o)(hd:∀e∈o.after,Region.binds .any e=true->L e.on=true)(hE:¬q∈E)(hS:St k a' X'):Gst ops E St (upd L q) a' X':=by
 refine⟨h1.upd ho hd,k,λj q' hj=>?_,h3,hS⟩;have hne:¬q'=q:=λe=>hE (e ▸ List.mem_of_getElem? hj)
 rw[upd_ne _ hne];exact h2 j q' hj
theorem Gst.first (hS:St 0 a X):Gst ops E St (λ_=>false) a X:=by
 refine⟨λ_ _ _ hL=>absurd hL Bool.false_ne_true,0,λj q _=>⟨λh=>absurd h Bool.false_ne_true,λh=>absurd h (Nat.not_lt_zero _)⟩,Nat.zero_le _,hS⟩
theorem wpOp_storeG (ho:ops[i]?=some o)(hw:Region.wanted o (yielded ops a.tmps)=true)(hr:(execOp a.eval o).run P X=.ok .skip X')(h:K (a.put o.dst undef) X'):wpOp P ops Q i K a X:=by
 unfold wpOp;simp only[ho,hw,if_true,Oper.wp,hr,Oper.upon];exact .inl h
def SlO (tab:List (Nat×Option Value))(L:Nat->Bool)(a:Act):Prop:=∀i s v,tab[i]?=some (s,some v)->L i=true->a.eval (.tmp s)=v
theorem tab_ne (hn:(tab.map (·.1)).Nodup){s':Nat}{x y:Option Value}(hi:tab[i]?=some (s',x))(hq:tab[q]?=some (s,y))(e:¬i=q):¬s=s':=λe2=>e (by
 have hl:i<(tab.map (·.1)).length:=by
  rw[List.length_map];exact(List.getElem?_eq_some_iff.1 hi).1
 refine(List.getElem?_inj hl hn).1 ?_;rw[List.getElem?_map,List.getElem?_map,hi,hq,e2];rfl)
theorem SlO.put (h:SlO tab L a)(hq:tab[q]?=some (s,some v))(hn:(tab.map (·.1)).Nodup)(hs:s<a.tmps.size):SlO tab (upd L q) (a.put (some s) v):=by
 intro i s' v' hi hL;by_cases e:i=q
 ·subst e;rw[hq] at hi;injection hi with hi;injection hi with h1 h2;injection h2 with h2;subst h1 h2;exact eval_put_same hs _
 ·rw[eval_put_ne (tab_ne hn hi hq e)];exact h i s' v' hi (by rw[upd_ne _ e] at hL;exact hL)
theorem SlO.putD (h:SlO tab L a)(hq:tab[q]?=some (s,none))(hn:(tab.map (·.1)).Nodup)(v:Value):SlO tab (upd L q) (a.put (some s) v):=by
 intro i s' v' hi hL;have e:¬i=q:=λe=>by rw[e,hq] at hi;cases hi
 rw[eval_put_ne (tab_ne hn hi hq e)];exact h i s' v' hi (by rw[upd_ne _ e] at hL;exact hL)
theorem SlO.done (h:SlO tab L a)(hq:tab[q]?=some (s,none)):SlO tab (upd L q) a:=by
 intro i s' v' hi hL;have e:¬i=q:=λe=>by rw[e,hq] at hi;cases hi
 exact h i s' v' hi (by rw[upd_ne _ e] at hL;exact hL)
abbrev Rw:=Nat×Op×Option (Nat×Bool)×List Nat×Value
def gd:Bool->Value->Value
 | true,v=>v
 | false,_=>undef
def RS (T:List Rw)(a:Act):List Nat->Prop
 | []=>True
 | j::l=>(∀r,T[j]?=some r->a.tmps[r.1]?.getD undef=r.2.2.2.2)∧RS T a l
def RunT (P:Program)(X:World)(a:Act)(r:Rw):Prop:=∀t p f,(execOp a.eval ⟨some r.1,r.2.1,t,p,f,r.2.2.1⟩).run P X=.ok (.value r.2.2.2.2) X
def OkG (P:Program)(X:World)(a:Act)(r:Rw)(b:Bool):Value->Prop
 | .bool c=>if c=b then RunT P X a r else r.2.2.2.2=undef
 | v=>v=undef∧r.2.2.2.2=undef
def OkR (P:Program)(T:List Rw)(X:World)(a:Act)(r:Rw):Prop:=match r.2.2.1 with
 | none=>RunT P X a r
 | some (g,b)=>r.2.2.2.1.contains g=true∧OkG P X a r b ((T[g]?.map (·.2.2.2.2)).getD (.string ⟨#[]⟩))
def tabB (T:List Rw):Bool:=decide ((T.map (·.1)).Nodup)
theorem OkG.run {r:Rw}(h:RunT P X a r):OkG P X a r b (.bool b):=by rw[OkG,if_pos rfl];exact h
theorem RS.of {T:List Rw}:∀{l:List Nat},(∀j∈l,∀r,T[j]?=some r->a.tmps[r.1]?.getD undef=r.2.2.2.2)->RS T a l
 | [],_=>trivial
 | j::_,h=>⟨h j (List.mem_cons_self ..),RS.of λi hi=>h i (List.mem_cons_of_mem _ hi)⟩
def sh3 (o:Oper):Option Nat×Op×Option (Nat×Bool):=(o.dst,o.op,o.guard)
def rw3 (r:Rw):Option Nat×Op×Option (Nat×Bool):=(some r.1,r.2.1,r.2.2.1)
def dpB (ops:Array Oper)(T:List Rw):Bool:=(ops.toList.zip (T.map λr=>r.2.2.2.1)).all λx=>depB x.1.after x.2
def vs (T:List Rw):List (Nat×Value):=T.map λr=>(r.1,r.2.2.2.2)
def OkC (P:Program)(T:List Rw)(X:World)(a:Act)(r:Rw)(R:World->Prop):Prop:=(∀gb,r.2.2.1=some gb->r.2.2.2.1.contains gb.1=true∧T[gb.1]?.map (·.2.2.2.2)=some (.bool gb.2))∧∃fn args,(∀t p f,(execOp a.eval ⟨some r.1,r.2.1,t,p,f,r.2.2.1⟩).run P X=.ok (.enter fn args) X)∧Calls P fn args X λe X'=>e=.returned r.2.2.2.2∧R X'
theorem dp_at {T:List Rw}{r:Rw}(hd:dpB ops T=true)(ho:ops[q]?=some o)(hr:T[q]?=some r):depB o.after r.2.2.2.1=true:=
 List.all_eq_true.1 hd (o,r.2.2.2.1) (by
  refine List.mem_iff_getElem?.2 ⟨q,?_⟩;rw[List.getElem?_zip_eq_some];exact⟨by rw[Array.getElem?_toList];exact ho,by rw[List.getElem?_map,hr];rfl⟩)
def rch (T:List Rw):Nat->Nat->Nat->Bool
 | 0,_,_=>false
 | n+1,c,q=>((T[c]?.map λr=>r.2.2.2.1).getD []).any λj=>j == q || rch T n j q
theorem rch_done {T:List Rw}(hl:ops.size=T.length)(hd:dpB ops T=true)(hC:Cld ops L):∀n c q,rch T n c q=true->L c=true->L q=true
 | n + 1, c, q, h, hL => by
  simp only[rch,List.any_eq_true,Bool.or_eq_true,beq_iff_eq] at h;obtain⟨j,hj,h⟩:=h;cases hr:T[c]? with
  | none=>rw[hr] at hj;cases hj
  | some r =>
   rw[hr] at hj;have hlt:c<ops.size:=by rw[hl];exact(List.getElem?_eq_some_iff.1 hr).1
   have ho:ops[c]?=some ops[c]:=by simp[hlt]
   have:=dp_at hd ho hr;have hLj:L j=true:=depB_spec this (hC c _ ho hL) j hj;rcases h with rfl | h
   ·exact hLj
   ·exact rch_done hl hd hC n j q h hLj
theorem wp_tab1 (T:List Rw)(c:Nat)(R:World->Prop)(hm:P.follows .mixedOrders=true)(hb:backB ops=true)(hops:ops.toList.map sh3=T.map rw3)(hd:dpB ops T=true)(hn:tabB T=true)(hz:∀s∈T.map (·.1),s<a0.tmps.size)(hst:∀(q:Nat) r,T[q]?=some r->¬q=c->∀(a:Act) X,(X=wc.drew∨R X)->(rch T T.length c q=true->X=wc.drew)->(∀i,¬i∈T.map (·.1)->a.tmps[i]?.getD undef=a0.eval (.tmp i))->RS T a r.2.2.2.1->OkR P T X a r)(hca:∀r,T[c]?=some r->∀a:Act,(∀i,¬i∈T.map (·.1)->a.tmps[i]?.getD undef=a0.eval (.tmp i))->RS T a r.2.2.2.1->OkC P T wc.drew a r R)(hQ:∀X,(R X∨X=wc.drew∧T.length<=c)->Q .normal ⟨sets (vs T) a0.tmps,a0.defers⟩ X):(Code.region id ops true).wp P Q a0 wc:=by
 have hn:(T.map (·.1)).Nodup:=of_decide_eq_true hn;have hW1:(vs T).map (·.1)=T.map (·.1):=by simp[vs]
 have key:∀(q:Nat) (o:Oper),ops[q]?=some o->∃r,T[q]?=some r∧sh3 o=rw3 r:=λq o ho=>by
  have h1:(ops.toList.map sh3)[q]?=some (sh3 o):=by rw[List.getElem?_map,Array.getElem?_toList,ho];rfl
  rw[hops,List.getElem?_map] at h1;obtain⟨r,h2,h3⟩:=Option.map_eq_some_iff.1 h1;exact⟨r,h2,h3.symm⟩
 have hlen:ops.size=T.length:=by have:=congrArg List.length hops;simpa using this
 refine wp_region_inv hm (λa0 L a X=>Fr (T.map (·.1)) a0 a∧Cld ops L∧(L c=false->X=wc.drew)∧(L c=true->R X)∧SlT (vs T) L a) (backB_spec hb) ?_ ?_ ?_
 ·exact⟨Fr.refl _ _,λ_ _ _ h=>absurd h Bool.false_ne_true,λ_=>rfl,λh=>absurd h Bool.false_ne_true,λ_ _ _ _ h=>absurd h Bool.false_ne_true⟩
 ·rintro L a X⟨hF,hC,hX0,hX1,hW⟩ q o ho hL hdp;have hC':=hC.upd ho hdp;obtain⟨r,hr,hs⟩:=key q o ho;have hdq:=dp_at hd ho hr;obtain⟨s,op,g,d,v⟩:=r;obtain⟨dst,op',t,p,f,g'⟩:=o;simp only[sh3,rw3,Prod.mk.injEq] at hs;obtain⟨rfl,rfl,rfl⟩:=hs;have hdj:=depB_spec hdq hdp;have hWr:∀(j:Nat) (r:Rw),T[j]?=some r->(vs T)[j]?=some (r.1,r.2.2.2.2):=λj r h=>by rw[vs,List.getElem?_map,h];rfl
  have hR:∀j∈d,∀r,T[j]?=some r->a.eval (.tmp r.1)=r.2.2.2.2:=λj hj r h=>hW j _ _ (hWr j r h) (hdj j hj)
  have hin:s∈T.map (·.1):=List.mem_map.2 ⟨_,List.mem_of_getElem? hr,rfl⟩;have hsa:∀s∈T.map (·.1),s<a.tmps.size:=λs h=>by rw[hF.2.1];exact hz s h
  have KP:∀u X',u=v->(upd L q c=false->X'=wc.drew)->(upd L q c=true->R X')->Fr (T.map (·.1)) a0 (a.put (some s) u)∧Cld ops (upd L q)∧(upd L q c=false->X'=wc.drew)∧(upd L q c=true->R X')∧SlT (vs T) (upd L q) (a.put (some s) u):=λu X' e k1 k2=>by
   subst e;exact⟨hF.put hin _,hC',k1,k2,hW.put (hWr q _ hr) (by rw[hW1];exact hn) (hsa s hin)⟩
  have gev:∀g∈d,∀rg,T[g]?=some rg->∃og,ops[g]?=some og∧og.dst=some rg.1∧a.tmps[rg.1]?=some rg.2.2.2.2:=λg hg rg hgt=>by
   have h1:g<ops.size:=by rw[hlen];exact(List.getElem?_eq_some_iff.1 hgt).1
   obtain⟨r',h2,h3⟩:=key g ops[g] (by simp[h1]);rw[hgt] at h2;injection h2 with h2;subst h2;exact⟨ops[g],by simp[h1],congrArg (·.1) h3,get_of_eval (hsa rg.1 (List.mem_map.2 ⟨_,List.mem_of_getElem? hgt,rfl⟩)) (hR g hg rg hgt)⟩
  have hf:=λi (hi:¬i∈T.map (·.1))=>tmp_of (hF.eval hi)
  have hrs:RS T a d:=RS.of λj hj r h=>tmp_of (hR j hj r h)
  by_cases hqc:q=c
  ·subst hqc;have hX:=hX0 hL;subst hX;obtain⟨hg,fn,args,h1,h2⟩:=hca _ hr a hf hrs;have hw:Region.wanted ⟨some s,op',t,p,f,g'⟩ (yielded ops a.tmps)=true:=by
    cases g' with
    | none=>exact wanted_none rfl
    | some gb =>
     obtain⟨hg,hv⟩:=hg gb rfl;obtain⟨rg,hgt,hv⟩:=Option.map_eq_some_iff.1 hv;obtain⟨og,hog,hod,hev⟩:=gev gb.1 (List.contains_iff_mem.1 hg) rg hgt;rw[hv] at hev;exact(wanted_of rfl hog hod hev).trans (by simp)
   refine wpOp_callG (R:=λu X'=>u=v∧R X') ho hw (h1 t p f) (h2.mono λe X' h=>⟨_,h.1,rfl,h.2⟩) ?_;rintro u X'⟨rfl,hS⟩;exact KP _ _ rfl (λh=>by rw[upd_same] at h;cases h) (λ_=>hS)
  have hqc':¬c=q:=λe=>hqc e.symm
  have KQ:∀u,u=v->_:=λu e=>KP u X e (λh=>hX0 (by rwa [upd_ne _ hqc'] at h)) (λh=>hX1 (by rwa [upd_ne _ hqc'] at h))
  have hO:=hst q _ hr hqc a X (by cases h:L c with | false=>exact .inl (hX0 h) | true=>exact .inr (hX1 h)) (λh=>hX0 (by cases hc:L c with | false=>rfl | true=>rw[rch_done hlen hd hC _ _ _ h hc] at hL;cases hL)) hf hrs;cases g' with
  | none=>exact wpOp_valueG ho (wanted_none rfl) (hO t p f) (KQ _ rfl)
  | some gb =>
   obtain⟨g,b⟩:=gb;obtain⟨hg,hO⟩:=hO;have hg:g∈d:=List.contains_iff_mem.1 hg;cases hgt:T[g]? with
   | none =>
    rw[hgt] at hO;exact absurd hO.1 (by simp[undef])
   | some rg =>
    rw[hgt] at hO;obtain⟨og,hog,hod,hev⟩:=gev g hg rg hgt;simp only[Option.map_some,Option.getD_some] at hO;generalize rg.2.2.2.2=vg at hO hev;by_cases hb:∃x,vg=.bool x
    ·obtain⟨x,rfl⟩:=hb;simp only[OkG] at hO;by_cases hcb:x=b
     ·rw[if_pos hcb] at hO;exact wpOp_valueG ho ((wanted_of rfl hog hod hev).trans (by simp[hcb])) (hO t p f) (KQ _ rfl)
     ·rw[if_neg hcb] at hO;exact wpOp_skipG ho ((wanted_of rfl hog hod hev).trans (by simp[hcb])) (KQ _ hO.symm)
    ·have hu:vg=undef∧v=undef:=by
      cases vg
      case bool x=>exact absurd ⟨x,rfl⟩ hb
      all_goals exact hO
     exact wpOp_skipG ho (wanted_undef rfl hog hod (by rw[hev,hu.1])) (KQ _ hu.2.symm)
 ·rintro L a X⟨hF,-,hX0,hX1,hW⟩ hall;have e:a=⟨sets (vs T) a0.tmps,a0.defers⟩:=hF.eq (vs T) (λi hi=>by rw[hW1];exact hi) (λp hp=>by
   obtain⟨j,hj⟩:=List.mem_iff_getElem?.1 hp;have hjl:j<ops.size:=by
    have:=(List.getElem?_eq_some_iff.1 hj).1;rw[hlen];simpa[vs] using this
   exact⟨by rw[hF.2.1];exact hz _ (by rw[<-hW1];exact List.mem_map.2 ⟨p,hp,rfl⟩),hW j p.1 p.2 hj (hall j hjl)⟩)
  rw[e];refine hQ X ?_;cases h:L c with
  | true=>exact .inl (hX1 h)
  | false =>
   rcases Nat.lt_or_ge c T.length with hc|hc
   ·rw[hall c (by omega)] at h;cases h
   ·exact .inr ⟨hX0 h,hc⟩
theorem wp_tab (T:List Rw)(hm:P.follows .mixedOrders=true)(hb:backB ops=true)(hops:ops.toList.map sh3=T.map rw3)(hd:dpB ops T=true)(hn:tabB T=true)(hz:∀s∈T.map (·.1),s<a0.tmps.size)(hst:∀(q:Nat) r,T[q]?=some r->∀a:Act,(∀i,¬i∈T.map (·.1)->a.tmps[i]?.getD undef=a0.eval (.tmp i))->RS T a r.2.2.2.1->OkR P T wc.drew a r)(hQ:Q .normal ⟨sets (vs T) a0.tmps,a0.defers⟩ wc.drew):(Code.region id ops true).wp P Q a0 wc:=by
 refine wp_tab1 T T.length (·=wc.drew) hm hb hops hd hn hz (λq r hq _ a X hX _ hF hR=>?_) (λr hr=>?_) (λX hX=>?_)
 ·obtain rfl:=hX.elim (λh=>h) (λh=>h);exact hst q r hq a hF hR
 ·rw[List.getElem?_eq_none (Nat.le_refl _)] at hr;cases hr
 ·obtain rfl:=hX.elim (λh=>h) (·.1);exact hQ
def Twk2 (sb k en n c:Nat)(ad:Option Addr)(most:Int)(lt ne:Bool):List Rw:=[(17,.move (.tmp 8),none,[],.int .i64 (k:Int)),(18,.move (.tmp 7),none,[],.int .i64 (en:Int)),(19,.binOp .lss 3 (.tmp 17) (.tmp 18) 3,none,[0,1],.bool lt),(20,.move (.tmp 19),none,[2],.bool lt),(21,.move (.tmp 2),some (3,true),[3],gd lt (.pointer (some ⟨sb,0,none⟩))),(22,.nilCheck (.tmp 21),some (3,true),[4,3],gd lt (.pointer (some ⟨sb,0,none⟩))),(23,.fieldAddr 114 (.tmp 22) 4,some (3,true),[5,3],gd lt (.pointer (some ⟨sb,4,none⟩))),(24,.load 32 (.tmp 23),some (3,true),[6,3],gd lt (.slice ad n c)),(25,.call { callee:=.builtin .len,args:=#[.tmp 24],argTypes:=#[32]},some (3,true),[7,3],gd lt (.int .i64 (n:Int))),(26,.move (.tmp 2),some (3,true),[3],gd lt (.pointer (some ⟨sb,0,none⟩))),(27,.nilCheck (.tmp 26),some (3,true),[9,3],gd lt (.pointer (some ⟨sb,0,none⟩))),(28,.fieldAddr 114 (.tmp 27) 2,some (3,true),[10,3],gd lt (.pointer (some ⟨sb,2,none⟩))),(29,.load 3 (.tmp 28),some (3,true),[11,3],gd lt (.int .i64 most)),(30,.binOp .neq 3 (.tmp 25) (.tmp 29) 3,some (3,true),[8,12,3],gd lt (.bool ne)),(31,.pick (.tmp 20) (.tmp 30) (.const (.bool false)),none,[3,13],.bool (lt && ne))]
theorem wk2 (sb k en n c:Nat)(ad:Option Addr)(most:Int)(lt ne:Bool)(h4:lt=true->wc.drew.cell? ⟨sb,4,none⟩=some (.slice ad n c))(h2:lt=true->wc.drew.cell? ⟨sb,2,none⟩=some (.int .i64 most))(hlt:decide ((k:Int)<(en:Int))=lt)(hne:lt=true->((n:Int) != most)=ne)(hsz:31<a0.tmps.size)(e2:a0.eval (.tmp 2)=.pointer (some ⟨sb,0,none⟩))(e7:a0.eval (.tmp 7)=.int .i64 (en:Int))(e8:a0.eval (.tmp 8)=.int .i64 (k:Int))(hops:ops.toList.map sh3=(Twk2 sb k en n c ad most lt ne).map rw3)(hd:dpB ops (Twk2 sb k en n c ad most lt ne)=true)(hb:backB ops=true)(hm:prog.follows .mixedOrders=true)(hQ:Q .normal ⟨sets (vs (Twk2 sb k en n c ad most lt ne)) a0.tmps,a0.defers⟩ wc.drew):(Code.region id ops true).wp prog Q a0 wc:=by
 refine wp_tab (Twk2 sb k en n c ad most lt ne) hm hb hops hd rfl (λs hs=>?_) (λq r hq a hF hR=>?_) hQ
 ·simp[Twk2] at hs;omega
 have E2:=(hF 2 (by simp[Twk2])).trans e2;have E7:=(hF 7 (by simp[Twk2])).trans e7;have E8:=(hF 8 (by simp[Twk2])).trans e8;clear hF hops hd hb hQ e2 e7 e8;obtain _ | _ | _ | _ | _ | _ | _ | _ | _ | _ | _ | _ | _ | _ | _ | q:=q
 all_goals cases hq
 all_goals cases lt
 all_goals first
  | exact⟨rfl,rfl⟩
  | exact⟨rfl,rfl,rfl⟩
  | refine λt p f=>?_
  | refine⟨rfl,OkG.run λt p f=>?_⟩;replace h4:=h4 rfl;replace h2:=h2 rfl;replace hne:=hne rfl
 all_goals
  simp only[RS,Twk2,gd,List.getElem?_cons_succ,List.getElem?_cons_zero,Option.some.injEq,forall_eq'] at hR
  go_split_ands
  simp only[execOp,gd];go_simp
 ·simp at hlt;omega
 ·simp at hlt;omega
def Tpl4 (mb n ln cp g off:Nat)(ad:Option Addr)(key kn:ByteArray)(lt bb:Bool):List Rw:=[(28,.move (.tmp 6),none,[],.int .i64 (n:Int)),(29,.move (.tmp 6),none,[],.int .i64 (n:Int)),(30,.move (.tmp 0),none,[],.pointer (some ⟨mb,0,none⟩)),(31,.nilCheck (.tmp 30),none,[2],.pointer (some ⟨mb,0,none⟩)),(32,.fieldAddr 34 (.tmp 31) 0,none,[3],.pointer (some ⟨mb,0,none⟩)),(33,.load 32 (.tmp 32),none,[4],.slice ad ln cp),(34,.call { callee:=.builtin .len,args:=#[.tmp 33],argTypes:=#[32]},none,[5],.int .i64 (ln:Int)),(35,.binOp .lss 3 (.tmp 29) (.tmp 34) 3,none,[1,6],.bool lt),(36,.move (.tmp 35),none,[7],.bool lt),(37,.move (.tmp 0),some (8,true),[8],gd lt (.pointer (some ⟨mb,0,none⟩))),(38,.nilCheck (.tmp 37),some (8,true),[9,8],gd lt (.pointer (some ⟨mb,0,none⟩))),(39,.fieldAddr 34 (.tmp 38) 0,some (8,true),[10,8],gd lt (.pointer (some ⟨mb,0,none⟩))),(40,.load 32 (.tmp 39),some (8,true),[11,8],gd lt (.slice ad ln cp)),(41,.move (.tmp 6),some (8,true),[8],gd lt (.int .i64 (n:Int))),(42,.indexAddr 32 (.tmp 40) (.tmp 41),some (8,true),[12,13,8],gd lt (.pointer (some ⟨g,off+n*2,none⟩))),(43,.fieldAddr 116 (.tmp 42) 0,some (8,true),[14,8],gd lt (.pointer (some ⟨g,off+n*2,none⟩))),(44,.load 9 (.tmp 43),some (8,true),[15,8],gd lt (.string kn)),(45,.move (.tmp 1),some (8,true),[8],gd lt (.string key)),(46,.binOp .eql 9 (.tmp 44) (.tmp 45) 9,some (8,true),[16,17,8],gd lt (.bool bb)),(47,.pick (.tmp 36) (.tmp 46) (.const (.bool false)),none,[8,18],.bool (lt && bb)),(4,.assign (.tmp 28),none,[0],.int .i64 (n:Int)),(5,.assign (.tmp 47),none,[19],.bool (lt && bb))]
theorem pl4 (mb n ln cp g off:Nat)(ad:Option Addr)(key kn:ByteArray)(lt bb:Bool)(h0:wc.drew.cell? ⟨mb,0,none⟩=some (.slice ad ln cp))(ha:lt=true->ad=some ⟨g,off,none⟩)(hk:lt=true->wc.drew.cell? ⟨g,off+n*2,none⟩=some (.string kn))(hlt:decide ((n:Int)<(ln:Int))=lt)(hn0:(0:Int)<=(n:Int))(hbb:lt=true->(kn.toList == key.toList)=bb)(hsz:47<a0.tmps.size)(e0:a0.eval (.tmp 0)=.pointer (some ⟨mb,0,none⟩))(e1:a0.eval (.tmp 1)=.string key)(e6:a0.eval (.tmp 6)=.int .i64 (n:Int))(hops:ops.toList.map sh3=(Tpl4 mb n ln cp g off ad key kn lt bb).map rw3)(hd:dpB ops (Tpl4 mb n ln cp g off ad key kn lt bb)=true)(hb:backB ops=true)(hm:prog.follows .mixedOrders=true)(hQ:Q .normal ⟨sets (vs (Tpl4 mb n ln cp g off ad key kn lt bb)) a0.tmps,a0.defers⟩ wc.drew):(Code.region id ops true).wp prog Q a0 wc:=by
 refine wp_tab (Tpl4 mb n ln cp g off ad key kn lt bb) hm hb hops hd rfl (λs hs=>?_) (λq r hq a hF hR=>?_) hQ
 ·simp[Tpl4] at hs;omega
 have E0:=(hF 0 (by simp[Tpl4])).trans e0;have E1:=(hF 1 (by simp[Tpl4])).trans e1;have E6:=(hF 6 (by simp[Tpl4])).trans e6;clear hF hops hd hb hQ e0 e1 e6;obtain _ | _ | _ | _ | _ | _ | _ | _ | _ | _ | _ | _ | _ | _ | _ | _ | _ | _ | _ | _ | _ | _ | q:=q
 all_goals cases hq
 all_goals cases lt
 all_goals first
  | exact⟨rfl,rfl⟩
  | exact⟨rfl,rfl,rfl⟩
  | refine λt p f=>?_
  | refine⟨rfl,OkG.run λt p f=>?_⟩;replace ha:=ha rfl;subst ha;replace hk:=hk rfl;replace hbb:=hbb rfl;replace hlt:=of_decide_eq_true hlt
 all_goals
  simp only[RS,Tpl4,gd,List.getElem?_cons_succ,List.getElem?_cons_zero,Option.some.injEq,forall_eq'] at hR
  go_split_ands
  simp only[execOp,gd];go_simp
 ·simp at hlt;omega
 ·simp at hlt;omega
def Wwk9 (sb p tb i fn cp g off cn cc:Nat)(ad:Option Addr)(cj key val:ByteArray):List (Nat×Option Value):=[(58,some ((.pointer (some ⟨sb,0,none⟩)))),(59,some ((.pointer (some ⟨sb,0,none⟩)))),(60,some ((.pointer (some ⟨sb,0,none⟩)))),(61,some (.pointer (some ⟨sb,4,none⟩))),(62,some (.slice ad fn cp)),(63,some ((.pointer (some ⟨p,0,none⟩)))),(64,some (.int .i64 (i:Int))),(65,some (.string key)),(66,some ((.pointer (some ⟨tb,0,none⟩)))),(67,some ((.pointer (some ⟨p,0,none⟩)))),(68,some ((.pointer (some ⟨p,0,none⟩)))),(69,some ((.pointer (some ⟨p,0,none⟩)))),(70,some (.pointer (some ⟨p,2,none⟩))),(71,some (.slice (some ⟨g,off,none⟩) cn cc)),(72,some (.int .i64 (i:Int))),(73,some (.pointer (some ⟨g,off+i,none⟩))),(74,some (.string cj)),(75,some (.string val)),(76,some (.agg #[.string key,.string val])),(77,none),(78,none),(79,some ((.pointer (some ⟨sb,0,none⟩)))),(80,some (.pointer (some ⟨sb,4,none⟩))),(100023,none)]
theorem ndwk9 (sb p tb i fn cp g off cn cc:Nat)(ad:Option Addr)(cj key val:ByteArray):((Wwk9 sb p tb i fn cp g off cn cc ad cj key val).map (·.1)).Nodup:=by
 show [58,59,60,61,62,63,64,65,66,67,68,69,70,71,72,73,74,75,76,77,78,79,80,100023].Nodup
 decide
def Iwk9 (sb p tb i fn cp g off cn cc:Nat)(ad:Option Addr)(cj key val:ByteArray)(ops:Array Oper)(St:Nat->Value->Value->World->Prop)(a0:Act)(L:Nat->Bool)(a:Act)(X:World):Prop:=Fr [58,59,60,61,62,63,64,65,66,67,68,69,70,71,72,73,74,75,76,77,78,79,80] a0 a∧Gst ops [17,19,20,23] (λk a X=>St k (a.eval (.tmp 77)) (a.eval (.tmp 78)) X) L a X∧SlO (Wwk9 sb p tb i fn cp g off cn cc ad cj key val) L a
theorem wk9 (sb p tb i fn cp g off cn cc:Nat)(ad:Option Addr)(cj key val:ByteArray)(St:Nat->Value->Value->World->Prop)(i0:(0:Int)<=(i:Int))(i2:(i:Int)<(cn:Int))(hsz:80<a0.tmps.size)(e0:a0.eval (.tmp 0)=(.pointer (some ⟨tb,0,none⟩)))(e1:a0.eval (.tmp 1)=(.pointer (some ⟨p,0,none⟩)))(e2:a0.eval (.tmp 2)=(.pointer (some ⟨sb,0,none⟩)))(e9:a0.eval (.tmp 9)=.int .i64 (i:Int)){t0 t1 t2 t3 t4 t5 t6 t7 t8 t9 t10 t11 t12 t13 t14 t15 t16 t17 t18 t19 t20 t21 t22 t23:TypeId}{p0 p1 p2 p3 p4 p5 p6 p7 p8 p9 p10 p11 p12 p13 p14 p15 p16 p17 p18 p19 p20 p21 p22 p23:String}{f0 f1 f2 f3 f4 f5 f6 f7 f8 f9 f10 f11 f12 f13 f14 f15 f16 f17 f18 f19 f20 f21 f22 f23:Array Edge}(hops:ops=#[⟨(some 58),.move (.tmp 2),t0,p0,f0,none⟩,⟨(some 59),.move (.tmp 2),t1,p1,f1,none⟩,⟨(some 60),.nilCheck (.tmp 59),t2,p2,f2,none⟩,⟨(some 61),.fieldAddr 114 (.tmp 60) 4,t3,p3,f3,none⟩,⟨(some 62),.load 32 (.tmp 61),t4,p4,f4,none⟩,⟨(some 63),.move (.tmp 1),t5,p5,f5,none⟩,⟨(some 64),.move (.tmp 9),t6,p6,f6,none⟩,⟨(some 65),.call { callee:=.value (.func 144),args:=#[.tmp 63,.tmp 64],argTypes:=#[94,3]},t7,p7,f7,none⟩,⟨(some 66),.move (.tmp 0),t8,p8,f8,none⟩,⟨(some 67),.move (.tmp 1),t9,p9,f9,none⟩,⟨(some 68),.nilCheck (.tmp 67),t10,p10,f10,none⟩,⟨(some 69),.fieldAddr 98 (.tmp 68) 0,t11,p11,f11,none⟩,⟨(some 70),.fieldAddr 82 (.tmp 69) 2,t12,p12,f12,none⟩,⟨(some 71),.load 43 (.tmp 70),t13,p13,f13,none⟩,⟨(some 72),.move (.tmp 9),t14,p14,f14,none⟩,⟨(some 73),.indexAddr 43 (.tmp 71) (.tmp 72),t15,p15,f15,none⟩,⟨(some 74),.load 9 (.tmp 73),t16,p16,f16,none⟩,⟨(some 75),.call { callee:=.value (.func 139),args:=#[.tmp 66,.tmp 74],argTypes:=#[38,9]},t17,p17,f17,none⟩,⟨(some 76),.build 116 #[(0,.tmp 65),(1,.tmp 75)],t18,p18,f18,none⟩,⟨(some 77),.buildSlice 32 1 #[(0,.tmp 76)],t19,p19,f19,none⟩,⟨(some 78),.call { callee:=.builtin .append,args:=#[.tmp 62,.tmp 77],argTypes:=#[32,32]},t20,p20,f20,none⟩,⟨(some 79),.nilCheck (.tmp 58),t21,p21,f21,none⟩,⟨(some 80),.fieldAddr 114 (.tmp 79) 4,t22,p22,f22,none⟩,⟨none,.store 32 (.tmp 80) (.tmp 78),t23,p23,f23,none⟩])(hb:backB ops=true)(d2:depB f2 [1]=true)(d3:depB f3 [2]=true)(d4:depB f4 [3]=true)(d7:depB f7 [5,6]=true)(d10:depB f10 [9]=true)(d11:depB f11 [10]=true)(d12:depB f12 [11]=true)(d13:depB f13 [12]=true)(d15:depB f15 [13,14]=true)(d16:depB f16 [15]=true)(d17:depB f17 [8,16]=true)(d18:depB f18 [7,17]=true)(d19:depB f19 [18]=true)(d20:depB f20 [4,19]=true)(d21:depB f21 [0]=true)(d22:depB f22 [21]=true)(d23:depB f23 [22,20]=true)(hm:prog.follows .mixedOrders=true)(h0:St 0 (a0.eval (.tmp 77)) (a0.eval (.tmp 78)) wc.drew)(hc0:∀(y77 y78:Value) X,St 0 y77 y78 X->Calls prog 139 #[(.pointer (some ⟨tb,0,none⟩)),.string cj] X λe X'=>e=.returned (.string val)∧St 1 y77 y78 X')(hr1:∀(a:Act) (y77 y78:Value) X,St 1 y77 y78 X->a.eval (.tmp 76)=.agg #[.string key,.string val]->∃v X',(execOp a.eval ⟨(some 77),.buildSlice 32 1 #[(0,.tmp 76)],t19,p19,f19,none⟩).run prog X=.ok (.value v) X'∧St 2 v y78 X')(hr2:∀(a:Act) (y77 y78:Value) X,St 2 y77 y78 X->a.eval (.tmp 62)=.slice ad fn cp->a.eval (.tmp 77)=y77->∃v X',(execOp a.eval ⟨(some 78),.call { callee:=.builtin .append,args:=#[.tmp 62,.tmp 77],argTypes:=#[32,32]},t20,p20,f20,none⟩).run prog X=.ok (.value v) X'∧St 3 y77 v X')(hr3:∀(a:Act) (y77 y78:Value) X,St 3 y77 y78 X->a.eval (.tmp 80)=.pointer (some ⟨sb,4,none⟩)->a.eval (.tmp 78)=y78->∃X',(execOp a.eval ⟨none,.store 32 (.tmp 80) (.tmp 78),t23,p23,f23,none⟩).run prog X=.ok .skip X'∧St 4 y77 y78 X')(hl62:∀k (y77 y78:Value) X,k<=2->St k y77 y78 X->X.cell? ⟨sb,4,none⟩=some (.slice ad fn cp))(hl71:∀k (y77 y78:Value) X,k<=0->St k y77 y78 X->X.cell? ⟨p,2,none⟩=some (.slice (some ⟨g,off,none⟩) cn cc))(hl74:∀k (y77 y78:Value) X,k<=0->St k y77 y78 X->X.cell? ⟨g,off+i,none⟩=some (.string cj))(hky:∀k (y77 y78:Value) X,k<=1->St k y77 y78 X->Calls prog 144 #[(.pointer (some ⟨p,0,none⟩)),.int .i64 (i:Int)] X λe X'=>e=.returned (.string key)∧St k y77 y78 X')(hQ:∀(u58 u59 u60 u61 u62 u63 u64 u65 u66 u67 u68 u69 u70 u71 u72 u73 u74 u75 u76 u77 u78 u79 u80:Value) X,St 4 u77 u78 X->Q .normal ⟨sets [(58,u58),(59,u59),(60,u60),(61,u61),(62,u62),(63,u63),(64,u64),(65,u65),(66,u66),(67,u67),(68,u68),(69,u69),(70,u70),(71,u71),(72,u72),(73,u73),(74,u74),(75,u75),(76,u76),(77,u77),(78,u78),(79,u79),(80,u80)] a0.tmps,a0.defers⟩ X):(Code.region id ops true).wp prog Q a0 wc:=by
 refine wp_region_inv hm (Iwk9 sb p tb i fn cp g off cn cc ad cj key val ops St) (backB_spec hb) ?_ ?_ ?_
 ·exact⟨Fr.refl _ _,Gst.first h0,λ_ _ _ _ h=>absurd h Bool.false_ne_true⟩
 ·intro L a X hI q o ho hL hd;obtain⟨hF,hG,hW⟩:=hI;have hs:a.tmps.size=a0.tmps.size:=hF.2.1;have E0:a.eval (.tmp 0)=(.pointer (some ⟨tb,0,none⟩)):=by rw[hF.eval (by decide),e0]
  have E1:a.eval (.tmp 1)=(.pointer (some ⟨p,0,none⟩)):=by rw[hF.eval (by decide),e1]
  have E2:a.eval (.tmp 2)=(.pointer (some ⟨sb,0,none⟩)):=by rw[hF.eval (by decide),e2]
  have E9:a.eval (.tmp 9)=.int .i64 (i:Int):=by rw[hF.eval (by decide),e9]
  have KP:∀{s:Nat} {v:Value},o.dst=some s->(Wwk9 sb p tb i fn cp g off cn cc ad cj key val)[q]?=some (s,some v)->s∈[58,59,60,61,62,63,64,65,66,67,68,69,70,71,72,73,74,75,76,77,78,79,80]->¬q∈[17,19,20,23]->¬s=77->¬s=78->s<a.tmps.size->Iwk9 sb p tb i fn cp g off cn cc ad cj key val ops St a0 (upd L q) (a.put o.dst v) X:=λe1 e2 e3 e4 g77 g78 e5=>by
   rw[e1];exact⟨hF.put e3 _,hG.keep ho hd e4 (λ_ h=>by rw[eval_put_ne g77,eval_put_ne g78];exact h),hW.put e2 (ndwk9 _ _ _ _ _ _ _ _ _ _ _ _ _ _) e5⟩
  subst hops;obtain _ | _ | _ | _ | _ | _ | _ | _ | _ | _ | _ | _ | _ | _ | _ | _ | _ | _ | _ | _ | _ | _ | _ | _ | q:=q
  ·cases ho;refine wpOp_valueG rfl (wanted_none rfl) ?_ (KP rfl rfl (by decide) (by decide) (by decide) (by decide) (by omega));have q0:=tmp_of E2;simp only[execOp];go_simp
  ·cases ho;refine wpOp_valueG rfl (wanted_none rfl) ?_ (KP rfl rfl (by decide) (by decide) (by decide) (by decide) (by omega));have q0:=tmp_of E2;simp only[execOp];go_simp
  ·cases ho;have hdj:=depB_spec d2 hd;have r1:=hW 1 _ _ rfl (hdj 1 (by decide));refine wpOp_valueG rfl (wanted_none rfl) ?_ (KP rfl rfl (by decide) (by decide) (by decide) (by decide) (by omega));have q0:=tmp_of r1;simp only[execOp];go_simp
  ·cases ho;have hdj:=depB_spec d3 hd;have r2:=hW 2 _ _ rfl (hdj 2 (by decide));refine wpOp_valueG rfl (wanted_none rfl) ?_ (KP rfl rfl (by decide) (by decide) (by decide) (by decide) (by omega));have q0:=tmp_of r2;simp only[execOp];go_simp
  ·cases ho;have hdj:=depB_spec d4 hd;have r3:=hW 3 _ _ rfl (hdj 3 (by decide));have hLQ:L 20=false:=by
    cases hLQ:L 20 with
    | false=>rfl
    | true=>have c0:=depB_spec d20 (hG.1 20 _ rfl hLQ) 4 (by decide);rw[hL] at c0;cases c0
   obtain⟨k,hk,S⟩:=hG.upto (j:=2) (q:=20) rfl hLQ;refine wpOp_valueG rfl (wanted_none rfl) ?_ (KP rfl rfl (by decide) (by decide) (by decide) (by decide) (by omega));have x9:=hl62 k _ _ X hk S;have q0:=tmp_of r3;simp only[execOp];go_simp
  ·cases ho;refine wpOp_valueG rfl (wanted_none rfl) ?_ (KP rfl rfl (by decide) (by decide) (by decide) (by decide) (by omega));have q0:=tmp_of E1;simp only[execOp];go_simp
  ·cases ho;refine wpOp_valueG rfl (wanted_none rfl) ?_ (KP rfl rfl (by decide) (by decide) (by decide) (by decide) (by omega));have q0:=tmp_of E9;simp only[execOp];go_simp
  ·cases ho;have hdj:=depB_spec d7 hd;have r5:=hW 5 _ _ rfl (hdj 5 (by decide));have r6:=hW 6 _ _ rfl (hdj 6 (by decide));have hLQ:L 19=false:=by
    cases hLQ:L 19 with
    | false=>rfl
    | true=>have c0:=depB_spec d19 (hG.1 19 _ rfl hLQ) 18 (by decide);have c1:=depB_spec d18 (hG.1 18 _ rfl c0) 7 (by decide);rw[hL] at c1;cases c1
   obtain⟨hC,k,hk2,hk3,S⟩:=hG;have hk:k<=1:=by
    rcases Nat.lt_or_ge 1 k with h|h
    ·have:=(hk2 1 19 rfl).2 h;rw[hLQ] at this;cases this
    ·exact h
   have hrun:(execOp a.eval ⟨(some 65),.call { callee:=.value (.func 144),args:=#[.tmp 63,.tmp 64],argTypes:=#[94,3]},t7,p7,f7,none⟩).run prog X=.ok (.enter 144 #[(.pointer (some ⟨p,0,none⟩)),.int .i64 (i:Int)]) X:=by
    have q0:=tmp_of r5;have q1:=tmp_of r6;simp only[execOp];go_simp
   refine wpOp_callG (R:=λu X'=>u=.string key∧St k (a.eval (.tmp 77)) (a.eval (.tmp 78)) X') rfl (wanted_none rfl) hrun ((hky k _ _ X hk S).mono λe X' h=>⟨_,h.1,rfl,h.2⟩) ?_;rintro u X'⟨rfl,hS'⟩;show Iwk9 sb p tb i fn cp g off cn cc ad cj key val _ St a0 _ (a.put (some 65) _) _;exact⟨hF.put (by decide) _,Gst.again hC hk2 hk3 rfl hd (by decide) (by rw[eval_put_ne (by decide),eval_put_ne (by decide)];exact hS'),hW.put (q:=7) rfl (ndwk9 _ _ _ _ _ _ _ _ _ _ _ _ _ _) (by omega)⟩
  ·cases ho;refine wpOp_valueG rfl (wanted_none rfl) ?_ (KP rfl rfl (by decide) (by decide) (by decide) (by decide) (by omega));have q0:=tmp_of E0;simp only[execOp];go_simp
  ·cases ho;refine wpOp_valueG rfl (wanted_none rfl) ?_ (KP rfl rfl (by decide) (by decide) (by decide) (by decide) (by omega));have q0:=tmp_of E1;simp only[execOp];go_simp
  ·cases ho;have hdj:=depB_spec d10 hd;have r9:=hW 9 _ _ rfl (hdj 9 (by decide));refine wpOp_valueG rfl (wanted_none rfl) ?_ (KP rfl rfl (by decide) (by decide) (by decide) (by decide) (by omega));have q0:=tmp_of r9;simp only[execOp];go_simp
  ·cases ho;have hdj:=depB_spec d11 hd;have r10:=hW 10 _ _ rfl (hdj 10 (by decide));refine wpOp_valueG rfl (wanted_none rfl) ?_ (KP rfl rfl (by decide) (by decide) (by decide) (by decide) (by omega));have q0:=tmp_of r10;simp only[execOp];go_simp
  ·cases ho;have hdj:=depB_spec d12 hd;have r11:=hW 11 _ _ rfl (hdj 11 (by decide));refine wpOp_valueG rfl (wanted_none rfl) ?_ (KP rfl rfl (by decide) (by decide) (by decide) (by decide) (by omega));have q0:=tmp_of r11;simp only[execOp];go_simp
  ·cases ho;have hdj:=depB_spec d13 hd;have r12:=hW 12 _ _ rfl (hdj 12 (by decide));have hLQ:L 17=false:=by
    cases hLQ:L 17 with
    | false=>rfl
    | true=>have c0:=depB_spec d17 (hG.1 17 _ rfl hLQ) 16 (by decide);have c1:=depB_spec d16 (hG.1 16 _ rfl c0) 15 (by decide);have c2:=depB_spec d15 (hG.1 15 _ rfl c1) 13 (by decide);rw[hL] at c2;cases c2
   obtain⟨k,hk,S⟩:=hG.upto (j:=0) (q:=17) rfl hLQ;refine wpOp_valueG rfl (wanted_none rfl) ?_ (KP rfl rfl (by decide) (by decide) (by decide) (by decide) (by omega));have x9:=hl71 k _ _ X hk S;have q0:=tmp_of r12;simp only[execOp];go_simp
  ·cases ho;refine wpOp_valueG rfl (wanted_none rfl) ?_ (KP rfl rfl (by decide) (by decide) (by decide) (by decide) (by omega));have q0:=tmp_of E9;simp only[execOp];go_simp
  ·cases ho;have hdj:=depB_spec d15 hd;have r13:=hW 13 _ _ rfl (hdj 13 (by decide));have r14:=hW 14 _ _ rfl (hdj 14 (by decide));refine wpOp_valueG rfl (wanted_none rfl) ?_ (KP rfl rfl (by decide) (by decide) (by decide) (by decide) (by omega));have q0:=tmp_of r13;have q1:=tmp_of r14;simp only[execOp];go_simp
  ·cases ho;have hdj:=depB_spec d16 hd;have r15:=hW 15 _ _ rfl (hdj 15 (by decide));have hLQ:L 17=false:=by
    cases hLQ:L 17 with
    | false=>rfl
    | true=>have c0:=depB_spec d17 (hG.1 17 _ rfl hLQ) 16 (by decide);rw[hL] at c0;cases c0
   obtain⟨k,hk,S⟩:=hG.upto (j:=0) (q:=17) rfl hLQ;refine wpOp_valueG rfl (wanted_none rfl) ?_ (KP rfl rfl (by decide) (by decide) (by decide) (by decide) (by omega));have x9:=hl74 k _ _ X hk S;have q0:=tmp_of r15;simp only[execOp];go_simp
  ·cases ho;have hdj:=depB_spec d17 hd;have r8:=hW 8 _ _ rfl (hdj 8 (by decide));have r16:=hW 16 _ _ rfl (hdj 16 (by decide));have S:=hG.stage (j:=0) (q:=17) rfl hL (λi p h=>absurd h (by omega));have hrun:(execOp a.eval ⟨(some 75),.call { callee:=.value (.func 139),args:=#[.tmp 66,.tmp 74],argTypes:=#[38,9]},t17,p17,f17,none⟩).run prog X=.ok (.enter 139 #[(.pointer (some ⟨tb,0,none⟩)),.string cj]) X:=by
    have q0:=tmp_of r8;have q1:=tmp_of r16;simp only[execOp];go_simp
   refine wpOp_callG (R:=λu X'=>u=.string val∧St 1 (a.eval (.tmp 77)) (a.eval (.tmp 78)) X') rfl (wanted_none rfl) hrun ((hc0 _ _ X S).mono λe X' h=>⟨_,h.1,rfl,h.2⟩) ?_;rintro u X'⟨rfl,hS'⟩;show Iwk9 sb p tb i fn cp g off cn cc ad cj key val _ St a0 _ (a.put (some 75) _) _;exact⟨hF.put (by decide) _,hG.next rfl hd (by decide) (j:=0) rfl hL (λi p h=>absurd h (by omega)) (by rw[eval_put_ne (by decide),eval_put_ne (by decide)];exact hS'),hW.put (q:=17) rfl (ndwk9 _ _ _ _ _ _ _ _ _ _ _ _ _ _) (by omega)⟩
  ·cases ho;have hdj:=depB_spec d18 hd;have r7:=hW 7 _ _ rfl (hdj 7 (by decide));have r17:=hW 17 _ _ rfl (hdj 17 (by decide));refine wpOp_valueG rfl (wanted_none rfl) ?_ (KP rfl rfl (by decide) (by decide) (by decide) (by decide) (by omega));have q0:=tmp_of r7;have q1:=tmp_of r17;simp only[execOp];go_simp
  ·cases ho;have hdj:=depB_spec d19 hd;have r18:=hW 18 _ _ rfl (hdj 18 (by decide));have S:=hG.stage (j:=1) (q:=19) rfl hL (λi p h1 h2=>by have h3:i=0:=(by omega);subst h3;cases h2;have c0:=depB_spec d18 (hG.1 18 _ rfl (hdj 18 (by decide))) 17 (by decide);exact c0);obtain⟨v,X',hrun,hS'⟩:=hr1 a _ _ X S r18;refine wpOp_valueG rfl (wanted_none rfl) hrun ?_;show Iwk9 sb p tb i fn cp g off cn cc ad cj key val _ St a0 _ (a.put (some 77) _) _;exact⟨hF.put (by decide) _,hG.next rfl hd (by decide) (j:=1) rfl hL (λi p h1 h2=>by have h3:i=0:=(by omega);subst h3;cases h2;have c0:=depB_spec d18 (hG.1 18 _ rfl (hdj 18 (by decide))) 17 (by decide);exact c0) (by rw[eval_put_same (by omega),eval_put_ne (by decide)];exact hS'),hW.putD (q:=19) rfl (ndwk9 _ _ _ _ _ _ _ _ _ _ _ _ _ _) _⟩
  ·cases ho;have hdj:=depB_spec d20 hd;have r4:=hW 4 _ _ rfl (hdj 4 (by decide));have S:=hG.stage (j:=2) (q:=20) rfl hL (λi p h1 h2=>by have h3:i=1:=(by omega);subst h3;cases h2;exact(hdj 19 (by decide)));obtain⟨v,X',hrun,hS'⟩:=hr2 a _ _ X S r4 rfl;refine wpOp_valueG rfl (wanted_none rfl) hrun ?_;show Iwk9 sb p tb i fn cp g off cn cc ad cj key val _ St a0 _ (a.put (some 78) _) _;exact⟨hF.put (by decide) _,hG.next rfl hd (by decide) (j:=2) rfl hL (λi p h1 h2=>by have h3:i=1:=(by omega);subst h3;cases h2;exact(hdj 19 (by decide))) (by rw[eval_put_ne (by decide),eval_put_same (by omega)];exact hS'),hW.putD (q:=20) rfl (ndwk9 _ _ _ _ _ _ _ _ _ _ _ _ _ _) _⟩
  ·cases ho;have hdj:=depB_spec d21 hd;have r0:=hW 0 _ _ rfl (hdj 0 (by decide));refine wpOp_valueG rfl (wanted_none rfl) ?_ (KP rfl rfl (by decide) (by decide) (by decide) (by decide) (by omega));have q0:=tmp_of r0;simp only[execOp];go_simp
  ·cases ho;have hdj:=depB_spec d22 hd;have r21:=hW 21 _ _ rfl (hdj 21 (by decide));refine wpOp_valueG rfl (wanted_none rfl) ?_ (KP rfl rfl (by decide) (by decide) (by decide) (by decide) (by omega));have q0:=tmp_of r21;simp only[execOp];go_simp
  ·cases ho;have hdj:=depB_spec d23 hd;have r22:=hW 22 _ _ rfl (hdj 22 (by decide));have S:=hG.stage (j:=3) (q:=23) rfl hL (λi p h1 h2=>by have h3:i=2:=(by omega);subst h3;cases h2;exact(hdj 20 (by decide)));obtain⟨X',hrun,hS'⟩:=hr3 a _ _ X S r22 rfl;refine wpOp_storeG rfl (wanted_none rfl) hrun ?_;exact⟨hF,hG.next rfl hd (by decide) (j:=3) rfl hL (λi p h1 h2=>by have h3:i=2:=(by omega);subst h3;cases h2;exact(hdj 20 (by decide))) hS',hW.done (q:=23) rfl⟩
  ·cases ho
 ·intro L a X hI hall;subst hops;obtain⟨hF,hG,hW⟩:=hI;have hs:a.tmps.size=a0.tmps.size:=hF.2.1;have hS:=hG.full (λq hq=>by simp at hq ⊢;omega) hall;rw[hF.eq [(58,a.eval (.tmp 58)),(59,a.eval (.tmp 59)),(60,a.eval (.tmp 60)),(61,a.eval (.tmp 61)),(62,a.eval (.tmp 62)),(63,a.eval (.tmp 63)),(64,a.eval (.tmp 64)),(65,a.eval (.tmp 65)),(66,a.eval (.tmp 66)),(67,a.eval (.tmp 67)),(68,a.eval (.tmp 68)),(69,a.eval (.tmp 69)),(70,a.eval (.tmp 70)),(71,a.eval (.tmp 71)),(72,a.eval (.tmp 72)),(73,a.eval (.tmp 73)),(74,a.eval (.tmp 74)),(75,a.eval (.tmp 75)),(76,a.eval (.tmp 76)),(77,a.eval (.tmp 77)),(78,a.eval (.tmp 78)),(79,a.eval (.tmp 79)),(80,a.eval (.tmp 80))] (by simp) (by simp;omega)];exact hQ _ _ _ _ _ _ _ _ _ _ _ _ _ _ _ _ _ _ _ _ _ _ _ X hS
end Go.Proofs.YtiaibgfhigdgdaaGreat
