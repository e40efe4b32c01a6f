/- a part -/
import Derived.Test.YtiaibgfhigdgdaaGreatM5
set_option maxRecDepth 100000
set_option maxHeartbeats 8000000
namespace Go.Proofs.YtiaibgfhigdgdaaGreat
open Tryz
variable {S S0:DS}{f:Int}{p a m:Nat}{L:LS}{kept now:Int->Option ByteArray}
theorem op_nf (hn:NoF S){p:Int}(f' p':Nat)(t:ByteArray)(c:Bool)(hf:f=f')(hp:p=p')(hf2:f'<2)(hs:p'+t.size<=67108864):opD S f p t c=(0,⟨updF S.lb (2*f') (onL p' t c (S.lb (2*f'))),S.ws++[⟨f',p',t,c⟩],-1,S.count+1,false⟩):=by
 subst hf hp;have ha:askE f' p' t.size S.down=0:=by
  unfold askE fitsD;rw[hn.2,if_pos (by simp;omega)];rfl
 unfold opD;rw[if_pos ha,if_neg (by rw[hn.1];decide),hn.1,hn.2];rfl
theorem syn_nf (hn:NoF S)(f':Nat)(hf:f=f')(hf2:f'<2):synD S f=(0,⟨updF S.lb (2*f'+1) (foldF f' S.ws (S.lb (2*f'+1))),othF f' S.ws,-1,S.count+1,false⟩):=by
 subst hf;have ha:askE f' 0 0 S.down=0:=by
  unfold askE fitsD;rw[hn.2,if_pos (by simp;omega)];rfl
 unfold synD;rw[if_pos ha,if_neg (by rw[hn.1];decide),hn.1,hn.2];rfl
theorem tl_nf {fr pg:Nat}(h:Pre L.last S a)(hn:NoF S)(h1:64<=a)(hf1:fr<4294967296)(hp1:pg<4294967296)(hf:fr=0∨64+1028*fr<=(S.lb 3).length):∃S',tlL L S fr pg=(0,{ L with last:=flC L.last fr pg,fr:=fr },S')∧NoF S'∧S'.lb 0=S.lb 0∧S'.lb 1=S.lb 1∧S'.lb 3=S'.lb 2∧S'.ws=[]∧TP (S'.lb 3) (flC L.last fr pg):=by
 have hs:=h.tp.slot;have hts:=txtB_size (nxN L.last.number) fr pg;have hE:EffL a (S.lb 3) (S.lb 2):=by rw[h.seen];exact fold_eff h.wait _
 unfold tlL;rw[op_nf hn 1 (16+24*(1-L.last.slot)) (txtB (nxN L.last.number) fr pg) false (f:=1) (p:=16+24*((1-L.last.slot:Nat):Int)) rfl (by omega) (by decide) (by omega),if_pos rfl];obtain⟨T,hT⟩:∃T:DS,T=⟨updF S.lb (2*1) (onL (16+24*(1-L.last.slot)) (txtB (nxN L.last.number) fr pg) false (S.lb (2*1))),S.ws++[⟨1,16+24*(1-L.last.slot),txtB (nxN L.last.number) fr pg,false⟩],-1,S.count+1,false⟩:=⟨_,rfl⟩;rw[<-hT];have t0:T.lb 0=S.lb 0:=by rw[hT];rfl
 have t1:T.lb 1=S.lb 1:=by rw[hT];rfl
 have t2:T.lb 2=onL (16+24*(1-L.last.slot)) (txtB (nxN L.last.number) fr pg) false (S.lb 2):=by rw[hT];rfl
 have t3:T.lb 3=S.lb 3:=by rw[hT];rfl
 have tw:T.ws=S.ws++[⟨1,16+24*(1-L.last.slot),txtB (nxN L.last.number) fr pg,false⟩]:=by rw[hT]
 have tn:NoF T:=by rw[hT];exact⟨rfl,rfl⟩
 clear hT;show ∃S',(if(synD T 1).1=0 then _ else _)=_∧_;rw[syn_nf tn 1 (f:=1) rfl (by decide),if_pos rfl];refine⟨_,rfl,⟨rfl,rfl⟩,t0,t1,?_,?_,?_⟩
 all_goals dsimp only
 all_goals try rw[show updF T.lb (2*1+1) (foldF 1 T.ws (T.lb (2*1+1))) 3=T.lb 2 by rw[show(2*1+1)=3 from rfl,updF_at,tw,t3,foldF_snoc,if_pos rfl,t2,h.seen]]
 ·rfl
 ·rw[tw,othF_snoc,if_pos rfl,oth_none h.wait]
 ·rw[t2];exact(h.tp.eff hE h1).whole fr pg hf1 hp1 (hf.imp id λk=>Nat.le_trans k hE.len)
def cutK (F:Int->Option ByteArray)(p:Nat):Int->Option ByteArray:=λx=>if x<(p:Int) then F x else none
structure StN (c:Cm) (S0:DS) (done:Int->Prop) (T:DS):Prop where
 l1:T.lb 1=S0.lb 1
 l2:T.lb 2=S0.lb 2
 l3:T.lb 3=S0.lb 3
 nf:NoF T
 oth:othF 0 T.ws=S0.ws
 fold:T.lb 0=foldF 0 T.ws (T.lb 1)
 page:∀n:Nat,n<60000->fndM (S0.lb 3) noM c.frames n=none->PgK (S0.lb 1) (T.lb 0) n
 set:∀(n:Nat) (v:Int),n<60000->done n->fndM (S0.lb 3) noM c.frames n=some v->1024*(n+1)<=(T.lb 0).length∧∀i,i<1024->bL (T.lb 0) (1024*n+i)=bL (S0.lb 3) (64+1028*v.toNat+4+i)
theorem fold_otherN:∀{ws:List Chg} {f:Nat},(∀x∈ws,¬x.f=f)->∀l,foldF f ws l=l
 | [],_,_,_=>rfl
 | x :: r, f, h, l => by
  show foldF f r (if x.f=f then onL x.p x.t x.c l else l)=l;rw[if_neg (h x (List.mem_cons_self ..))];exact fold_otherN (λy hy=>h y (List.mem_cons_of_mem _ hy)) l
theorem only_logN {ws:List Chg}(h:Wt a noK ws):∀x∈ws,x.f=1:=λx hx=>by
 rcases h x hx with h|⟨_,_,⟨n,hn,_⟩,_⟩|⟨_,_,_,n,hn⟩
 ·exact h.1
 ·cases hn
 ·cases hn
theorem Inv.stN (h:Inv L S kept now m)(hn:NoF S):StN L.last S (λ_=>False) S:=by
 have ho:=only_logN h.pre.wait;refine⟨rfl,rfl,rfl,hn,?_,?_,?_,(λn v _ hd=>by cases hd)⟩
 ·unfold othF;rw[List.filter_eq_self];intro x hx;rw[ho x hx];rfl
 ·rw[fold_otherN (λx hx e=>by have:=ho x hx;omega)];exact h.f0
 ·intro n _ _;rw[h.f0];exact PgK.refl _ n
theorem StN.write {c:Cm}{T:DS}{done:Int->Prop}(h:StN c S0 done T){n:Nat}{v:Int}{t:ByteArray}(hv:fndM (S0.lb 3) noM c.frames n=some v)(hs:t.size=1024)(hb:∀i,i<1024->bytS t i=(bL (S0.lb 3) (64+1028*v.toNat+4+i)).toNat)(count:Int):StN c S0 (λx=>done x∨x=n) ⟨updF T.lb (2*0) (onL (1024*n) t false (T.lb (2*0))),T.ws++[⟨0,1024*n,t,false⟩],-1,count,false⟩:=by
 refine⟨h.l1,h.l2,h.l3,⟨rfl,rfl⟩,?_,?_,?_,?_⟩
 ·show othF 0 (T.ws++[_])=_;rw[othF_snoc,if_pos rfl];exact h.oth
 ·show onL (1024*n) t false (T.lb 0)=foldF 0 (T.ws++[_]) (T.lb 1);rw[foldF_snoc,if_pos rfl,<-h.fold]
 ·intro m hm hk;exact(h.page m hm hk).trans (pg_write (by omega) (λe=>by rw[e,hv] at hk;cases hk))
 ·intro m u hm hd hu;show 1024*(m+1)<=(onL (1024*n) t false (T.lb 0)).length∧∀i,i<1024->bL (onL (1024*n) t false (T.lb 0)) (1024*m+i)=_;by_cases e:m=n
  ·subst e;rw[hv] at hu;injection hu with hu;subst hu;refine⟨by rw[onL_len,hs];simp;omega,λi hi=>?_⟩;rw[onL_get,if_pos (by omega)];have:=hb i hi;rw[<-bytS_ll] at this;rw[show 1024*m+i-1024*m=i by omega];exact UInt8.toNat_inj.1 this
  ·have hd:done m:=by
    rcases hd with hd|hd
    ·exact hd
    ·exact absurd (by omega) e
   obtain⟨s1,s2⟩:=h.set m u hm hd hu;refine⟨Nat.le_trans s1 onL_ge,λi hi=>?_⟩;rw[onL_get,if_neg (by omega)];exact s2 i hi
theorem stl_nf (h:Inv L S0 kept now m)(hz:(S0.lb 2).length<=67108864):∀(ks:List Int) (done:Int->Prop) (T:DS),StN L.last S0 done T->ks.Pairwise (·<·)->(∀x∈ks,(L.pl x).isSome=true)->∃T',stlK L ks T=(0,T')∧StN L.last S0 (λx=>done x∨(x∈ks∧x<(L.last.pages:Int))) T'
 | [],done,T,hT,_,_=>⟨T,rfl,⟨hT.l1,hT.l2,hT.l3,hT.nf,hT.oth,hT.fold,hT.page,λn v hn hd=>hT.set n v hn (by rcases hd with hd | hd;exact hd;cases hd.1)⟩⟩
 | x :: r, done, T, hT, hp, hks => by
  rw[List.pairwise_cons] at hp;have hx:=hks x (List.mem_cons_self ..);have h6:=h.pos x hx;by_cases hpg:(L.last.pages:Int)<=x
  ·refine⟨T,?_,⟨hT.l1,hT.l2,hT.l3,hT.nf,hT.oth,hT.fold,hT.page,λn v hn hd=>hT.set n v hn ?_⟩⟩
   ·unfold stlK;rw[if_pos hpg]
   ·rcases hd with hd|⟨hd,hl⟩
    ·exact hd
    ·rcases List.mem_cons.1 hd with hd|hd
     ·omega
     ·have:=hp.1 _ hd;omega
  ·obtain⟨n,rfl⟩:∃n:Nat,x=n:=⟨x.toNat,by omega⟩;obtain⟨v,hv⟩:=Option.isSome_iff_exists.1 hx;have hv0:=hv;rw[h.pl] at hv;have hlt:=fndM_lt hv;obtain⟨w,rfl⟩:∃w:Nat,v=w:=⟨v.toNat,by omega⟩;have hfr:=h.fr;have hlen:64+1028*L.last.frames<=(S0.lb 2).length:=by
    have:=h.len;omega
   have hR:=rd_ok (lb:=T.lb) (f:=1) (p:=64+1028*w+4) (n:=1024) (by decide) (by show _<=(T.lb 2).length;rw[hT.l2];omega) (by show(T.lb 2).length<=_;rw[hT.l2];exact hz);have ec:((64+1028*w+4:Nat):Int)=64+1028*(w:Int)+4:=by omega
   obtain⟨t,y,e2,hx',hy⟩:∃t y,rdF T (w:Int)=(t,y)∧t=rdS ((1:Nat):Int) ((64+1028*w+4:Nat):Int) ((1024:Nat):Int) T.lb false∧y=rdE ((1:Nat):Int) ((64+1028*w+4:Nat):Int) ((1024:Nat):Int) T.lb false:=by
    unfold rdF;rw[hT.nf.2,ec];exact⟨_,_,rfl,rfl,rfl⟩
   rw[<-hx',<-hy] at hR;obtain⟨r1,r2,r3⟩:=hR;clear hx' hy;subst r1;have e2':rdF T ((L.pl n).getD 0)=(t,0):=by rw[hv0];exact e2
   clear e2;unfold stlK;generalize rdF T ((L.pl n).getD 0)=z at e2';subst e2';rw[if_neg hpg,if_neg (λk=>k rfl)]
   dsimp only
   have hS:=hT.write (t:=t) (n:=n) (v:=(w:Int)) hv r2 (λi hi=>by
     rw[r3 i hi];show(bL (T.lb 2) _).toNat=_;rw[hT.l2,Int.toNat_natCast];exact congrArg UInt8.toNat (h.eff.same _ (by omega))) (T.count+1)
   rw[op_nf hT.nf 0 (1024*n) t false (f:=0) (p:=1024*(n:Int)) rfl (by omega) (by decide) (by omega),if_neg (λk=>k rfl)];obtain⟨T',k1,k2⟩:=stl_nf h hz r _ _ hS hp.2 (λy hy=>hks y (List.mem_cons_of_mem _ hy));refine⟨T',k1,⟨k2.l1,k2.l2,k2.l3,k2.nf,k2.oth,k2.fold,k2.page,λn' v' hn hd=>k2.set n' v' hn ?_⟩⟩;rcases hd with hd | ⟨hd,hl⟩
   ·exact .inl (.inl hd)
   ·rcases List.mem_cons.1 hd with hd|hd
    ·exact .inl (.inr hd)
    ·exact .inr ⟨hd,hl⟩
theorem stlL_nf (h:Inv L S kept now m)(hn:NoF S)(hz:(S.lb 2).length<=67108864)(hpg:L.last.pages<=60000)(ks:List Int)(hK:KeysOf L.pl ks):∃T T2,stlL L S ks=(0,T2)∧StN L.last S (λx=>False∨(x∈ks∧x<(L.last.pages:Int))) T∧T2.lb 0=onL (1024*L.last.pages) ⟨#[]⟩ true (T.lb 0)∧T2.lb 1=onL (1024*L.last.pages) ⟨#[]⟩ true (T.lb 0)∧T2.lb 2=S.lb 2∧T2.lb 3=S.lb 3∧T2.ws=S.ws∧NoF T2:=by
 unfold stlL;obtain⟨T,e,hT⟩:=stl_nf h hz ks _ S (h.stN hn) hK.sorted (λx hx=>((hK.mem x).1 hx).2);have s0:(⟨#[]⟩:ByteArray).size=0:=rfl;rw[e,if_neg (λk=>k rfl),op_nf hT.nf 0 (1024*L.last.pages) ⟨#[]⟩ true (f:=0) (p:=1024*(L.last.pages:Int)) rfl (by omega) (by decide) (by rw[s0];omega),if_neg (λk=>k rfl)];rw[syn_nf ⟨rfl,rfl⟩ 0 (f:=0) rfl (by decide)];refine⟨T,_,rfl,hT,rfl,?_,hT.l2,hT.l3,?_,⟨rfl,rfl⟩⟩
 ·show foldF 0 (T.ws++[_]) (T.lb 1)=_;rw[foldF_snoc,if_pos rfl,<-hT.fold]
 ·show othF 0 (T.ws++[_])=_;rw[othF_snoc,if_pos rfl];exact hT.oth
theorem cut_zero {l:List UInt8}{i:Nat}(h:p<=i):bL (onL p ⟨#[]⟩ true l) i=0:=by
 unfold bL;rw[List.getElem?_eq_none]
 ·rfl
 ·rw[onL_len,if_pos rfl];show p+0<=i;omega
theorem cut_view {P P' log:List UInt8}{k:Nat}{F:Int->Option ByteArray}(h:VwN P log k F)(log':List UInt8)(hs:∀(n:Nat) (v:Int),n<p->n<60000->fndM log noM k n=some v->1024*(n+1)<=P'.length∧∀i,i<1024->bL P' (1024*n+i)=bL log (64+1028*v.toNat+4+i))(hp:∀n:Nat,n<60000->fndM log noM k n=none->PgK P P' n):Vw (onL (1024*p) ⟨#[]⟩ true P') log' 0 (cutK F p):=by
 have s0:(⟨#[]⟩:ByteArray).size=0:=rfl;have hl:(onL (1024*p) ⟨#[]⟩ true P').length=1024*p:=by rw[onL_len,if_pos rfl];rfl
 refine⟨λn hn=>⟨(λv hv=>by cases hv),λ_=>?_⟩,λx v hv=>by cases hv⟩;by_cases hnp:n<p
 ·have ec:cutK F p n=F n:=if_pos (by omega);rw[ec];have hg:∀i,i<1024->bL (onL (1024*p) ⟨#[]⟩ true P') (1024*n+i)=bL P' (1024*n+i):=λi hi=>cut_get (by rw[s0];omega)
  cases hv:fndM log noM k n with
  | some v =>
   obtain⟨t,h1,h2,h3⟩:=(h n hn).inlog v hv;obtain⟨s1,s2⟩:=hs n v hnp hn hv;refine⟨λt' ht=>?_,λhF=>by rw[h1] at hF;cases hF⟩;rw[h1] at ht;injection ht with ht;subst ht;exact⟨h2,by rw[hl];omega,λi hi=>by rw[h3 i hi,hg i hi,s2 i hi]⟩
  | none =>
   obtain⟨h1,h2⟩:=(h n hn).place hv;obtain⟨p1,p2⟩:=hp n hn hv;exact⟨λt ht=>⟨(h1 t ht).1,by rw[hl];omega,λi hi=>by rw[(h1 t ht).2.2 i hi,hg i hi,p1 i hi]⟩,λhF i hi=>by rw[hg i hi,p1 i hi];exact h2 hF i hi⟩
 ·have ec:cutK F p n=none:=if_neg (by omega);rw[ec];exact⟨(λt ht=>by cases ht),λ_ i hi=>cut_zero (by omega)⟩
theorem ck_nf {K:Int->Option ByteArray}(h:Inv L S K K m)(hn:NoF S)(hL:L.fr=L.last.frames)(h0:¬L.fr=0)(hz:(S.lb 2).length<=67108864)(hpg:L.last.pages<=60000)(ks:List Int)(hK:KeysOf L.pl ks):∃L' S',ckL L S ks=(0,L',S')∧NoF S'∧L'.last.pages=L.last.pages∧Inv L' S' (cutK K L.last.pages) (cutK K L.last.pages) 0:=by
 unfold ckL;rw[if_neg (λk=>k hL),if_neg h0];obtain⟨T,T2,e,hT,s0,s1,s2,s3,sw,sn⟩:=stlL_nf h hn hz hpg ks hK;rw[e,if_neg (λk=>k rfl)];have hfr:=h.fr;have hset:∀(n:Nat) (v:Int),n<L.last.pages->n<60000->fndM (S.lb 3) noM L.last.frames n=some v->1024*(n+1)<=(T.lb 0).length∧∀i,i<1024->bL (T.lb 0) (1024*n+i)=bL (S.lb 3) (64+1028*v.toNat+4+i):=λn v hnp hn hv =>
  hT.set n v hn (.inr ⟨(hK.mem n).2 ⟨by
   have hw:(Lit.int .i64 (n:Int)).wf=true:=WalkArith.wf_i64 ⟨by omega,by omega⟩;exact hw,by rw[h.pl,hv];rfl⟩,by omega⟩) hv
 have hV:∀log',Vw (T2.lb 1) log' 0 (cutK K L.last.pages):=λlog'=>by rw[s1];exact cut_view h.kv.pg log' hset hT.page
 obtain⟨S3,e3,k0,k1,k2,k3,k4,k5⟩:=tl_nf (L:=L) (S:=T2) (fr:=0) (pg:=L.last.pages) (a:=64+1028*L.last.frames) ⟨by rw[s3];exact h.pre.tp,by rw[s2,s3,sw];exact h.pre.seen,by rw[sw];exact h.pre.wait⟩ sn (by omega) (by decide) (by omega) (.inl rfl);show ∃L' S',(if ¬(tlL L T2 0 L.last.pages).1=0 then tlL L T2 0 L.last.pages else(0,{ (tlL L T2 0 L.last.pages).2.1 with pl:=λ_=>none },(tlL L T2 0 L.last.pages).2.2))=_∧_;rw[e3];simp only[not_true_eq_false,if_false];have hfh:L.fh=λ_=>none:=by
  funext x;cases hx:L.fh x with
  | none=>rfl
  | some v=>have:=h.fh x v hx;omega
 refine⟨_,_,rfl,k0,rfl,⟨⟨Nat.le_refl _,Nat.le_refl _⟩,.inl rfl,⟨k5,by rw[k4,<-k3];rfl,by rw[k4];exact Wt.nil _ _⟩,by rw[k1,k2,s0,s1],rfl,?_,?_,by rw[k2];exact hV _,by rw[k2];exact hV _⟩⟩
 ·show mrg (λ_=>none) L.fh=λ_=>none
  rw[hfh];rfl
 ·intro x v hv;have hv:L.fh x=some v:=hv;rw[hfh] at hv;cases hv
theorem keys_few {log:List UInt8}:∀{k:Nat} {ks:List Int},ks.Nodup->(∀x∈ks,(fndM log noM k x).isSome=true)->ks.length<=k
 | 0, ks, _, h => by
  cases ks with
  | nil=>exact Nat.le_refl _
  | cons x r=>have:=h x (List.mem_cons_self ..);cases this
 | k + 1, ks, hd, h => by
  have hd':(ks.erase (frN log k:Int)).Nodup:=hd.erase _;have:=keys_few (k:=k) hd' (λx hx=>by
   have hne:¬x=(frN log k:Int):=λe=>by
    rw[e] at hx;exact(hd.mem_erase_iff.1 hx).1 rfl
   have hx':=h x (List.mem_of_mem_erase hx);have hx':(updM (fndM log noM k) (frN log k) k x).isSome=true:=hx';unfold updM at hx';rw[if_neg hne] at hx';exact hx')
  have hl:ks.length<=(ks.erase (frN log k:Int)).length+1:=by
   rw[List.length_erase];split<;>omega
  omega
end Go.Proofs.YtiaibgfhigdgdaaGreat
