/- a part -/
import Derived.Test.YtfjkockcgddgbaaGreatP6
set_option maxRecDepth 100000
set_option maxHeartbeats 8000000
namespace Go.Proofs.YtfjkockcgddgbaaGreat
variable {S:DS}{f p:Int}{a pg m k n:Nat}{ws:List Chg}{L:LS}{F kept now:Int→Option ByteArray}{t:ByteArray}{c:Cm}
theorem op_two (hd:S.down=false)(f' p':Nat)(t:ByteArray)(c:Bool)(hf:f=f')(hp:p=p')(hf2:f'<2)(hs:p'+t.size≤67108864):opD S f p t c=(2,{ S with down:=true })∨∃left,opD S f p t c=(0,⟨updF S.lb (2*f') (onL p' t c (S.lb (2*f'))),S.ws++[⟨f',p',t,c⟩],left,S.count+1,false⟩):=by
 subst hf hp;have ha:askE f' p' t.size S.down=0:=by
  unfold askE fitsD;rw[hd,if_pos (by simp;omega)];rfl
 unfold opD;rw[if_pos ha];by_cases hl:S.left=0
 ·rw[if_pos hl];exact .inl rfl
 ·rw[if_neg hl];exact .inr ⟨decL S.left,by rw[hd];rfl⟩
theorem syn_two (hd:S.down=false)(f':Nat)(hf:f=f')(hf2:f'<2):synD S f=(2,{ S with down:=true })∨∃left,synD S f=(0,⟨updF S.lb (2*f'+1) (foldF f' S.ws (S.lb (2*f'+1))),othF f' S.ws,left,S.count+1,false⟩):=by
 subst hf;have ha:askE f' 0 0 S.down=0:=by
  unfold askE fitsD;rw[hd,if_pos (by simp;omega)];rfl
 unfold synD;rw[if_pos ha];by_cases hl:S.left=0
 ·rw[if_pos hl];exact .inl rfl
 ·rw[if_neg hl];exact .inr ⟨decL S.left,by rw[hd];rfl⟩
theorem oth_none (h:Wt a noK ws):othF 1 ws=[]:=by
 unfold othF;rw[List.filter_eq_nil_iff];intro x hx;rcases h x hx with h | ⟨_,_,⟨n,hn,_⟩,_⟩ | ⟨_,_,_,n,hn⟩
 ·rw[h.1];decide
 ·cases hn
 ·cases hn
structure Pre (c:Cm) (S:DS) (a:Nat):Prop where
 tp:TP (S.lb 3) c
 seen:S.lb 2=foldF 1 S.ws (S.lb 3)
 wait:Wt a noK S.ws
theorem tl_out {fr:Nat}{F':Int→Option ByteArray}(h:Pre L.last S a)(hup:S.down=false)(h1:64+1028*L.last.frames≤a)(h2:64+1028*fr≤a)(hf1:fr<4294967296)(hp1:pg<4294967296)(hf:fr=0∨64+1028*fr≤(S.lb 3).length)(hv:Vw (S.lb 1) (S.lb 3) L.last.frames F)(hv':Vw (S.lb 1) (S.lb 3) fr F'){q:Nat}(hq:L.last.frames≤q)(hq':fr≤q):(∃S',tlL L S fr pg=(2,L,S')∧S'.down=true∧CrOr S' F L.last.pages F' pg q)∨(∃S',tlL L S fr pg=(0,{ L with last:=flC L.last fr pg,fr:=fr },S')∧S'.lb 0=S.lb 0∧S'.lb 1=S.lb 1∧S'.lb 3=S'.lb 2∧S'.ws=[]∧S'.down=false∧TP (S'.lb 3) (flC L.last fr pg)∧(∀j,64≤j→j<a→bL (S'.lb 3) j=bL (S.lb 3) j)∧(S.lb 3).length≤(S'.lb 3).length):=by
 have hs:=h.tp.slot;have hts:=txtB_size (nxN L.last.number) fr pg;have hE:EffL a (S.lb 3) (S.lb 2):=by rw[h.seen];exact fold_eff h.wait _
 unfold tlL;rcases op_two hup 1 (16+24*(1-L.last.slot)) (txtB (nxN L.last.number) fr pg) false (f:=1) (p:=16+24*((1-L.last.slot:Nat):Int)) rfl (by omega) (by decide) (by omega) with e | ⟨left,e⟩
 ·rw[e];refine .inl ⟨_,rfl,rfl,CrOK.or ?_ F' pg⟩;refine CrOK.same (S:=S) ?_ rfl rfl;refine crash_wt h.tp hv ?_ hq;intro x hx;exact(Wt.more h.wait x hx).elim (fun k=>.inl ⟨k.1,k.2.1,by omega⟩) .inr
 ·rw[e,if_pos rfl];obtain⟨T,hT⟩:∃T:DS,T=⟨updF S.lb (2*1) (onL (16+24*(1-L.last.slot)) (txtB (nxN L.last.number) fr pg) false (S.lb (2*1))),S.ws++[⟨1,16+24*(1-L.last.slot),txtB (nxN L.last.number) fr pg,false⟩],left,S.count+1,false⟩:=⟨_,rfl⟩;rw[←hT];have t0:T.lb 0=S.lb 0:=by rw[hT];rfl
  have t1:T.lb 1=S.lb 1:=by rw[hT];rfl
  have t2:T.lb 2=onL (16+24*(1-L.last.slot)) (txtB (nxN L.last.number) fr pg) false (S.lb 2):=by rw[hT];rfl
  have t3:T.lb 3=S.lb 3:=by rw[hT];rfl
  have tw:T.ws=S.ws++[⟨1,16+24*(1-L.last.slot),txtB (nxN L.last.number) fr pg,false⟩]:=by rw[hT]
  have td:T.down=false:=by rw[hT]
  clear hT e;show(∃S',(if(synD T 1).1=0 then _ else _)=_∧_)∨(∃S',(if(synD T 1).1=0 then _ else _)=_∧_);rcases syn_two td 1 (f:=1) rfl (by decide) with e | ⟨left',e⟩
  ·rw[e];refine .inl ⟨_,rfl,rfl,?_⟩;have:=crash_slot (S:=T) (c:=L.last) (F:=F) (F':=F') (by rw[t3];exact h.tp) tw h.wait h1 h2 hf1 hp1 (by rw[t3];exact hf) (by rw[t1,t3];exact hv) (by rw[t1,t3];exact hv') hq hq';exact this
  ·rw[e,if_pos rfl];refine .inr ⟨_,rfl,t0,t1,?_,?_,rfl,?_,?_,?_⟩
   all_goals dsimp only
   all_goals try rw[show updF T.lb (2*1+1) (foldF 1 T.ws (T.lb (2*1+1))) 3=T.lb 2 by rw[show(2*1+1)=3 from rfl,updF_at,tw,t3,foldF_snoc,if_pos rfl,t2,h.seen]]
   ·rfl
   ·rw[tw,othF_snoc,if_pos rfl,oth_none h.wait]
   ·rw[t2];exact(h.tp.eff hE (by omega)).whole fr pg hf1 hp1 (hf.imp id fun k=>Nat.le_trans k hE.len)
   ·intro j j1 j2;rw[t2,onL_get,if_neg (by omega)];exact hE.same j j2
   ·rw[t2];exact Nat.le_trans hE.len onL_ge
theorem opD_two (S:DS)(f' p':Nat)(t:ByteArray)(c:Bool)(hf:f=f')(hp:p=p')(hf2:f'<2)(hs:p'+t.size≤67108864):opD S f p t c=(2,{ S with down:=true })∨(S.down=false∧∃left,opD S f p t c=(0,⟨updF S.lb (2*f') (onL p' t c (S.lb (2*f'))),S.ws++[⟨f',p',t,c⟩],left,S.count+1,false⟩)):=by
 cases hd:S.down with
 | false=>exact(op_two hd f' p' t c hf hp hf2 hs).imp id (fun h=>⟨rfl,h⟩)
 | true =>
  left;subst hf hp;have ha:askE f' p' t.size S.down=2:=by
   unfold askE fitsD;rw[hd,if_pos (by simp;omega)];rfl
  unfold opD;rw[ha,if_neg (by decide)];have:({ S with down:=true }:DS)=S:=by cases S;simp at hd;rw[hd]
  rw[this]
structure Inv (L:LS) (S:DS) (kept now:Int→Option ByteArray) (m:Nat):Prop where
 fr:L.last.frames≤L.fr∧L.fr≤m
 len:L.fr=0∨64+1028*L.fr≤(S.lb 2).length
 pre:Pre L.last S (64+1028*L.last.frames)
 f0:S.lb 0=S.lb 1
 pl:L.pl=fndM (S.lb 3) noM L.last.frames
 al:mrg L.pl L.fh=fndM (S.lb 2) noM L.fr
 fh:∀x v,L.fh x=some v→(L.last.frames:Int)≤v∧v<L.fr
 kv:Vw (S.lb 1) (S.lb 3) L.last.frames kept
 nv:Vw (S.lb 1) (S.lb 2) L.fr now
theorem Inv.eff (h:Inv L S kept now m):EffL (64+1028*L.last.frames) (S.lb 3) (S.lb 2):=by rw[h.pre.seen];exact fold_eff h.pre.wait _
theorem Inv.crash (h:Inv L S kept now m):CrOK S kept L.last.pages m:=crash_wt h.pre.tp h.kv (Wt.more h.pre.wait) (Nat.le_trans h.fr.1 h.fr.2)
theorem Inv.mono (h:Inv L S kept now m)(hk:m≤k):Inv L S kept now k:=⟨⟨h.fr.1,Nat.le_trans h.fr.2 hk⟩,h.len,h.pre,h.f0,h.pl,h.al,h.fh,h.kv,h.nv⟩
theorem Inv.same {T:DS}(h:Inv L S kept now m)(h1:T.lb=S.lb)(h2:T.ws=S.ws):Inv L T kept now m:=by
 obtain⟨lb,ws,l,c,d⟩:=S;obtain⟨lb',ws',l',c',d'⟩:=T
 dsimp only at h1 h2
 subst h1 h2;exact⟨h.fr,h.len,⟨h.pre.tp,h.pre.seen,h.pre.wait⟩,h.f0,h.pl,h.al,h.fh,h.kv,h.nv⟩
theorem Inv.pos (h:Inv L S kept now m)(x:Int)(hx:(L.pl x).isSome=true):0≤x∧x<60000:=by
 have:(mrg L.pl L.fh x).isSome=true:=by
  unfold mrg;cases L.fh x with
  | some v=>rfl
  | none=>exact hx
 rw[h.al] at this;obtain⟨v,hv⟩:=Option.isSome_iff_exists.1 this;exact h.nv.ks x v hv
theorem Inv.posF (h:Inv L S kept now m)(x:Int)(hx:(L.fh x).isSome=true):0≤x∧x<60000:=by
 obtain⟨v,hv⟩:=Option.isSome_iff_exists.1 hx;have:mrg L.pl L.fh x=some v:=by unfold mrg;rw[hv]
 rw[h.al] at this;exact h.nv.ks x v this
theorem Inv.okp (h:Inv L S kept now m)(hm:m≤1000000):okM L.pl:=fun x v hv=>by
 rw[h.pl] at hv;have:=fndM_lt hv;have:=h.fr;omega
theorem Inv.okf (h:Inv L S kept now m)(hm:m≤1000000):okM L.fh:=fun x v hv=>by
 have:=h.fh x v hv;have:=h.fr;omega
theorem ap_out (h:Inv L S kept now m)(hm:m≤60000)(hn:n<60000)(ht:t.size=1024):(apL L S n t=(2,L,{ S with down:=true }))∨(S.down=false∧∃S',apL L S n t=(0,{ L with fh:=updM L.fh n L.fr,fr:=L.fr+1 },S')∧S'.down=false∧Inv { L with fh:=updM L.fh n L.fr,fr:=L.fr+1 } S' kept (wth now n t) (m+1)):=by
 have hfr:=h.fr;have hs:(fourB n++t).size=1028:=by rw[ByteArray.size_append,fourB_size,ht]
 have hpg:isPg n=true:=decide_eq_true (by omega);unfold apL;rw[if_neg (fun k=>k ⟨hpg,ht⟩),if_neg (by omega),Int.toNat_natCast];rcases opD_two S 1 (64+1028*L.fr) (fourB n++t) false (f:=1) (p:=64+1028*(L.fr:Int)) rfl (by omega) (by decide) (by omega) with e | ⟨hd,left,e⟩
 ·rw[e];exact .inl rfl
 ·rw[e,if_pos rfl];refine .inr ⟨hd,_,rfl,rfl,?_⟩;have hE:=h.eff;have e2:=fndM_new (log:=S.lb 2) (k:=L.fr) ht (n:=n) (by omega);refine⟨⟨by show L.last.frames≤L.fr+1;omega,by show L.fr+1≤m+1;omega⟩,.inr ?_,⟨h.pre.tp,?_,?_⟩,h.f0,h.pl,?_,?_,h.kv,h.nv.append ht hn⟩
  ·show 64+1028*(L.fr+1)≤(onL (64+1028*L.fr) (fourB n++t) false (S.lb 2)).length;rw[onL_len,hs];simp;omega
  ·show onL (64+1028*L.fr) (fourB n++t) false (S.lb 2)=foldF 1 (S.ws++[_]) (S.lb 3);rw[foldF_snoc,if_pos rfl,h.pre.seen]
  ·exact Wt.snoc h.pre.wait (.inl ⟨rfl,rfl,by show 64+1028*L.last.frames≤64+1028*L.fr;omega⟩)
  ·show mrg L.pl (updM L.fh n L.fr)=fndM (onL (64+1028*L.fr) (fourB n++t) false (S.lb 2)) noM (L.fr+1);rw[e2,←h.al];funext x;unfold mrg updM;by_cases hx:x=(n:Int)
   ·rw[if_pos hx,if_pos hx]
   ·rw[if_neg hx,if_neg hx]
  ·intro x v hv;have hv:updM L.fh n L.fr x=some v:=hv;unfold updM at hv;show(L.last.frames:Int)≤v∧v<((L.fr+1:Nat):Int);split at hv
   ·injection hv with hv;omega
   ·have:=h.fh x v hv;omega
theorem bk_out (h:Inv L S kept now m):Inv (bkL L) S kept kept m:=by
 have hE:=h.eff;have hfr:=h.fr;have e1:fndM (S.lb 2) noM L.last.frames=L.pl:=by rw[h.pl];exact fndM_same (fun j _ j2=>hE.same j j2)
 have e2:mrg L.pl (fun _=>none)=L.pl:=by funext x;rfl
 refine⟨⟨Nat.le_refl _,by show L.last.frames≤m;omega⟩,?_,h.pre,h.f0,h.pl,?_,(fun x v hv=>by cases hv),h.kv,?_⟩
 ·show L.last.frames=0∨64+1028*L.last.frames≤_;have:=h.len;omega
 ·show mrg L.pl (fun _=>none)=fndM (S.lb 2) noM L.last.frames;rw[e1,e2]
 ·exact h.kv.keep (fun j _ j2=>hE.same j j2) (fun n _ _=>PgK.refl _ n)
theorem cm_out (h:Inv L S kept now m)(hm:m≤60000)(hn:n<60000)(ht:t.size=1024)(hp0:1≤pg)(hpg:pg≤60000):(∃L' S',cmL L S n t pg=(2,L',S')∧S'.down=true∧CrOr S' kept L.last.pages (wth now n t) pg (m+1))∨(∃L' S',cmL L S n t pg=(0,L',S')∧S'.down=false∧L'.last.pages=pg∧Inv L' S' (wth now n t) (wth now n t) (m+1)):=by
 unfold cmL;rw[if_neg (fun k=>k ⟨by omega,by omega⟩)];rcases ap_out h hm hn ht with e1 | ⟨u1,S1,e1,v1,I1⟩
 ·rw[e1];exact .inl ⟨_,_,rfl,rfl,((h.mono (Nat.le_succ m)).crash.same rfl rfl).or _ _⟩
 ·generalize hL1:({ L with fh:=updM L.fh n L.fr,fr:=L.fr+1 }:LS)=L1 at e1 I1;have hp:L.pl=L1.pl:=by rw[←hL1]
  have hq:L.last=L1.last:=by rw[←hL1]
  rw[e1,if_neg (fun k=>k rfl),hp,hq];clear hp hL1 e1 h;show(∃L' S',(if ¬(synD S1 1).1=0 then((synD S1 1).1,L1,(synD S1 1).2) else if ¬(tlL L1 (synD S1 1).2 L1.fr (pg:Int).toNat).1=0 then tlL L1 (synD S1 1).2 L1.fr (pg:Int).toNat else(0,{ (tlL L1 (synD S1 1).2 L1.fr (pg:Int).toNat).2.1 with pl:=mrg L1.pl L1.fh,fh:=fun _=>none },(tlL L1 (synD S1 1).2 L1.fr (pg:Int).toNat).2.2))=_∧_)∨(∃L' S',(if ¬(synD S1 1).1=0 then((synD S1 1).1,L1,(synD S1 1).2) else if ¬(tlL L1 (synD S1 1).2 L1.fr (pg:Int).toNat).1=0 then tlL L1 (synD S1 1).2 L1.fr (pg:Int).toNat else(0,{ (tlL L1 (synD S1 1).2 L1.fr (pg:Int).toNat).2.1 with pl:=mrg L1.pl L1.fh,fh:=fun _=>none },(tlL L1 (synD S1 1).2 L1.fr (pg:Int).toNat).2.2))=_∧_);rw[Int.toNat_natCast];have hfr:=I1.fr;have hE:=I1.eff;rcases syn_two v1 1 (f:=1) rfl (by decide) with e | ⟨left,e⟩
  ·rw[e];exact .inl ⟨_,_,rfl,rfl,(I1.crash.same rfl rfl).or _ _⟩
  ·generalize hS2:(⟨updF S1.lb (2*1+1) (foldF 1 S1.ws (S1.lb (2*1+1))),othF 1 S1.ws,left,S1.count+1,false⟩:DS)=S2 at e;rw[e,if_neg (fun k=>k rfl)];have s0:S2.lb 0=S1.lb 0:=by rw[←hS2];rfl
   have s1:S2.lb 1=S1.lb 1:=by rw[←hS2];rfl
   have s2:S2.lb 2=S1.lb 2:=by rw[←hS2];rfl
   have s3:S2.lb 3=S1.lb 2:=by rw[←hS2,I1.pre.seen];rfl
   have sw:S2.ws=[]:=by rw[←hS2];exact oth_none I1.pre.wait
   have sd:S2.down=false:=by rw[←hS2]
   clear hS2 e;have hlen:=I1.len;rcases tl_out (L:=L1) (S:=S2) (fr:=L1.fr) (pg:=pg) (a:=64+1028*L1.fr) (F:=kept) (F':=wth now n t) ⟨by rw[s3];exact I1.pre.tp.eff hE (by omega),by rw[sw,s2,s3];rfl,by rw[sw];exact Wt.nil _ _⟩ sd (by omega) (by omega) (by omega) (by omega) (by rw[s3];exact hlen)
    (by rw[s1,s3];exact I1.kv.keep (fun j _ j2=>hE.same j j2) (fun n _ _=>PgK.refl _ n)) (by rw[s1,s3];exact I1.nv) (q:=m+1) (by omega) (by omega) with⟨S3,e3,d3,c3⟩ | ⟨S3,e3,k0,k1,k2,k3,k4,k5,k6,k7⟩
   ·rw[e3];exact .inl ⟨_,_,rfl,d3,c3⟩
   ·rw[e3,if_neg (fun k=>k rfl)];refine .inr ⟨_,_,rfl,k4,rfl,?_⟩;have eL:fndM (S3.lb 3) noM L1.fr=fndM (S1.lb 2) noM L1.fr:=fndM_same (fun j j1 j2=>by rw[k6 j j1 j2,s3]);have hV:Vw (S3.lb 1) (S3.lb 3) L1.fr (wth now n t):=by
     rw[k1,s1];exact I1.nv.keep (fun j j1 j2=>by rw[k6 j j1 j2,s3]) (fun n _ _=>PgK.refl _ n)
    refine⟨⟨Nat.le_refl _,hfr.2⟩,?_,⟨k5,by rw[k3,←k2];rfl,by rw[k3];exact Wt.nil _ _⟩,by rw[k0,k1,s0,s1];exact I1.f0,?_,?_,(fun x v hv=>by cases hv),hV,by rw[←k2];exact hV⟩
    ·show L1.fr=0∨64+1028*L1.fr≤(S3.lb 2).length;rw[←k2];rw[s3] at k7;omega
    ·show mrg L1.pl L1.fh=fndM (S3.lb 3) noM L1.fr;rw[eL];exact I1.al
    ·show mrg (mrg L1.pl L1.fh) (fun _=>none)=fndM (S3.lb 2) noM L1.fr;rw[←k2,eL,←I1.al];funext x;rfl
theorem rd_out (h:Inv L S kept now m)(hm:m≤60000)(hn:n<60000)(ht:now n=some t)(h0:(S.lb 0).length≤67108864)(h2:(S.lb 2).length≤67108864):rdL L S n=(t,0)∨(S.down=true∧rdL L S n=(⟨#[]⟩,2)):=by
 have hpg:isPg n=true:=decide_eq_true (by omega);have hfr:=h.fr;have hV:=h.nv.pg n hn;have hal:mrg L.pl L.fh n=fndM (S.lb 2) noM L.fr n:=congrFun h.al n;have hF:∀v:Int,fndM (S.lb 2) noM L.fr n=some v→rdF S v=(t,0)∨(S.down=true∧rdF S v=(⟨#[]⟩,2)):=fun v hv=>by
  obtain⟨t',t1,t2,t3⟩:=hV.inlog v hv;rw[ht] at t1;injection t1 with t1;subst t1;have hv':=fndM_lt hv;have hl:=h.len;obtain⟨v,rfl⟩:∃k:Nat,v=k:=⟨v.toNat,by omega⟩;have ec:((64+1028*v+4:Nat):Int)=64+1028*(v:Int)+4:=by omega
  cases hd:S.down with
  | false =>
   left;have hR:=rd_ok (lb:=S.lb) (f:=1) (p:=64+1028*v+4) (n:=1024) (by decide) (by show _≤(S.lb 2).length;omega) h2;obtain⟨x,y,e2,hx,hy⟩:∃x y,rdF S (v:Int)=(x,y)∧x=rdS ((1:Nat):Int) ((64+1028*v+4:Nat):Int) ((1024:Nat):Int) S.lb false∧y=rdE ((1:Nat):Int) ((64+1028*v+4:Nat):Int) ((1024:Nat):Int) S.lb false:=by
    unfold rdF;rw[hd,ec];exact⟨_,_,rfl,rfl,rfl⟩
   rw[←hx,←hy] at hR;obtain⟨r1,r2,r3⟩:=hR;rw[e2,r1];refine Prod.ext (ext_byt (by show x.size=_;rw[r2,t2]) fun i hi=>?_) rfl
   change i<x.size at hi
   rw[r2] at hi;exact(r3 i hi).trans (t3 i hi).symm
  | true =>
   right;refine⟨rfl,?_⟩;have ha:rdE 1 (64+1028*(v:Int)+4) 1024 S.lb true=2:=by
    have a:askE 1 (64+1028*(v:Int)+4) 1024 true=2:=by
     unfold askE fitsD;rw[if_pos (by simp;omega)];rfl
    unfold rdE;rw[a,if_neg (by decide)]
   unfold rdF rdS;rw[hd,ha,if_neg (by decide)]
 unfold rdL;rw[if_neg (fun h=>h hpg)];unfold mrg at hal;cases hfh:L.fh n with
 | some v =>
  rw[hfh] at hal
  dsimp only
  exact hF v hal.symm
 | none =>
  rw[hfh] at hal
  dsimp only at hal ⊢
  cases hpl:L.pl n with
  | some v =>
   rw[hpl] at hal
   dsimp only
   exact hF v hal.symm
  | none =>
   rw[hpl] at hal
   dsimp only
   obtain⟨p1,p2⟩:=hV.place hal.symm;obtain⟨t2,t4,t3⟩:=p1 t ht;cases hd:S.down with
   | true=>right;exact⟨rfl,by rw[if_pos rfl]⟩
   | false =>
    left;rw[if_neg (by decide)];have hl0:S.lb 0=S.lb 1:=h.f0;rw[if_neg (by rw[hl0];omega)];have ec:((1024*n:Nat):Int)=1024*(n:Int):=by omega
    have hR:=rd_ok (lb:=S.lb) (f:=0) (p:=1024*n) (n:=1024) (by decide) (by show _≤(S.lb 0).length;rw[hl0];omega) h0;rw[show((0:Nat):Int)=0 from rfl,ec,show((1024:Nat):Int)=1024 from rfl] at hR;obtain⟨r1,r2,r3⟩:=hR;rw[r1];refine Prod.ext (ext_byt (by show(rdS 0 (1024*(n:Int)) 1024 S.lb false).size=_;rw[r2,t2]) fun i hi=>?_) rfl
    change i<(rdS 0 (1024*(n:Int)) 1024 S.lb false).size at hi
    rw[r2] at hi;refine(r3 i hi).trans ?_;show(bL (S.lb 0) (1024*n+i)).toNat=_;rw[hl0];exact(t3 i hi).symm
theorem op_up2 {lb:Nat→List UInt8}{c:Int}(b:Bool)(hf:f=0∨f=1)(ht:(t.size:Int)≤67108864):opD ⟨lb,ws,-1,c,false⟩ f 0 t b=(0,⟨updF lb (2*f.toNat) (onL 0 t b (lb (2*f.toNat))),ws++[⟨f.toNat,0,t,b⟩],-1,c+1,false⟩):=by
 unfold opD
 dsimp only
 rw[if_pos (ask0 hf (by omega) ht),if_neg (show ¬(-1:Int)=0 by decide)];rfl
def logN:List UInt8:=ll (markB++txtB 1 0 0)
def newS:DS:=⟨updF (updF (fun _=>[]) 2 logN) 3 logN,[],-1,4,false⟩
theorem logN_len:logN.length=40:=by
 unfold logN;rw[ll_len,ByteArray.size_append,txtB_size];rfl
theorem cut_none:onL 0 (⟨#[]⟩:ByteArray) true []=[]:=rfl
theorem mark_size:markB.size=16:=rfl
theorem beg_new:∃S1 S2 S3,Beg newD S1 S2 S3 newS 0:=by
 have hs:(markB++txtB 1 0 0).size=40:=logN_len;have e1:opD newD 1 0 ⟨#[]⟩ true=(0,⟨updF (fun _=>[]) 2 [],[⟨1,0,⟨#[]⟩,true⟩],-1,1,false⟩):=by
  rw[show newD=⟨fun _=>[],[],-1,0,false⟩ from rfl,op_up2 true (.inr rfl) (by decide)];rfl
 have u0:updF (fun _:Nat=>([]:List UInt8)) 2 []=fun _=>[]:=by funext i;unfold updF;split<;>rfl
 have u1:updF (fun _:Nat=>([]:List UInt8)) 3 []=fun _=>[]:=by funext i;unfold updF;split<;>rfl
 rw[u0] at e1;have e2:synD ⟨fun _=>[],[⟨1,0,⟨#[]⟩,true⟩],-1,1,false⟩ 1=(0,⟨fun _=>[],[],-1,2,false⟩):=by
  rw[syn_up (.inr rfl)];show(0,DS.mk (updF (fun _=>[]) 3 []) [] (-1) 2 false)=_;rw[u1]
 have e3:opD ⟨fun _=>[],[],-1,2,false⟩ 1 0 (markB++txtB 1 0 0) false=(0,⟨updF (fun _=>[]) 2 logN,[⟨1,0,markB++txtB 1 0 0,false⟩],-1,3,false⟩):=by
  rw[op_up2 false (.inr rfl) (by rw[hs];decide)];have e:onL 0 (markB++txtB 1 0 0) false []=logN:=onL_new _;show(0,DS.mk (updF (fun _=>[]) 2 (onL 0 (markB++txtB 1 0 0) false [])) _ (-1) 3 false)=_;rw[e];rfl
 have e4:synD ⟨updF (fun _=>[]) 2 logN,[⟨1,0,markB++txtB 1 0 0,false⟩],-1,3,false⟩ 1=(0,newS):=by
  rw[syn_up (.inr rfl)];have e:onL 0 (markB++txtB 1 0 0) false []=logN:=onL_new _;show(0,DS.mk (updF (updF (fun _=>[]) 2 logN) 3 (onL 0 (markB++txtB 1 0 0) false [])) [] (-1) 4 false)=_;rw[e];rfl
 exact⟨_,_,_,e1,e2,e3,e4⟩
theorem logN_byt {i:Nat}(h:i<64):bytS (headP logN) i=bytS (markB++txtB 1 0 0) i:=by
 rw[headP_byt _ h];exact bytS_ll _ _
theorem tp_new:TP logN ⟨0,1,0,0⟩:=by
 have hs:(markB++txtB 1 0 0).size=40:=logN_len;have hh:=headP_size logN;have ht:=txtB_size 1 0 0;refine⟨.inl ⟨by rw[logN_len];decide,by rw[logN_len];decide⟩,?_,by decide,by decide,by decide,by decide,?_,.inl rfl,.inl ?_⟩
 ·unfold isMark;refine decide_eq_true ⟨by rw[hh];decide,ext_byt (by rw[ByteArray.size_extract,hh,mark_size];decide) fun i hi=>?_⟩;rw[ByteArray.size_extract,hh] at hi;have hi:i<16:=by omega
  rw[byt_cut (by omega) (by omega),logN_byt (by omega),byt_left (by rw[mark_size];omega),Nat.zero_add]
 ·show(headP logN).extract 16 40=txtB 1 0 0;refine ext_byt (by rw[ByteArray.size_extract,hh,ht];decide) fun i hi=>?_
  rw[ByteArray.size_extract,hh] at hi;have hi:i<24:=by omega
  rw[byt_cut (by omega) (by omega),logN_byt (by omega),show 16+i=markB.size+i from rfl,byt_right]
 ·show numB (headP logN) 52=0;have z:∀i,i<4→bytS (headP logN) (52+i)=0:=fun i hi=>by
   rw[logN_byt (by omega)];unfold bytS;rw[dif_neg (by omega)]
  have z0:=z 0 (by decide);have z1:=z 1 (by decide);have z2:=z 2 (by decide);have z3:=z 3 (by decide);unfold numB numK numK numK numK numK;rw[z0,z1,z2,z3]
def noP:Int→Option ByteArray:=fun _=>none
theorem vw_none (log:List UInt8):Vw [] log 0 noP:=⟨fun _ _=>⟨(fun v hv=>by cases hv),fun _=>⟨(fun t ht=>by cases ht),fun _ _ _=>rfl⟩⟩,fun x v hv=>by cases hv⟩
theorem inv_new:Inv ⟨⟨0,1,0,0⟩,0,fun _=>none,fun _=>none⟩ newS noP noP 0:=
 ⟨⟨Nat.le_refl _,Nat.le_refl _⟩,.inl rfl,⟨tp_new,rfl,Wt.nil _ _⟩,rfl,rfl,rfl,(fun x v hv=>by cases hv),vw_none _,vw_none _⟩
theorem new_last:lastC (newD.lb 2)=cm0:=rfl
def NoF (S:DS):Prop:=S.left=-1∧S.down=false
theorem opD_nf (h:NoF S)(f p:Int)(t:ByteArray)(c:Bool):NoF (opD S f p t c).2:=by
 unfold opD;split
 ·split
  ·rename_i h1 h2
   rw[h.1] at h2;exact absurd h2 (by decide)
  ·exact⟨by show decL S.left=-1;rw[h.1];rfl,h.2⟩
 ·exact h
theorem synD_nf (h:NoF S)(f:Int):NoF (synD S f).2:=by
 unfold synD;split
 ·split
  ·rename_i h1 h2
   rw[h.1] at h2;exact absurd h2 (by decide)
  ·exact⟨by show decL S.left=-1;rw[h.1];rfl,h.2⟩
 ·exact h
theorem apL_nf (h:NoF S)(n:Int)(t:ByteArray):NoF (apL L S n t).2.2:=by
 have h1:=opD_nf h 1 (64+1028*(L.fr:Int)) (fourB n.toNat++t) false;unfold apL;split
 ·exact h
 ·split
  ·exact h
  ·split
   ·exact h1
   ·exact h1
theorem tlL_nf (h:NoF S)(fr pg:Nat):NoF (tlL L S fr pg).2.2:=by
 have h1:=opD_nf h 1 (16+24*((1-L.last.slot:Nat):Int)) (txtB (nxN L.last.number) fr pg) false;have h2:=synD_nf h1 1;unfold tlL;split
 ·split
  ·exact h2
  ·exact h2
 ·exact h1
theorem cmL_nf (h:NoF S)(n:Int)(t:ByteArray)(pg:Int):NoF (cmL L S n t pg).2.2:=by
 have h1:=apL_nf (L:=L) h n t;have h2:=synD_nf h1 1;have h3:=tlL_nf (L:=(apL L S n t).2.1) h2 (apL L S n t).2.1.fr pg.toNat;unfold cmL;split
 ·exact h
 ·split
  ·exact h1
  ·split
   ·exact h2
   ·split
    ·exact h3
    ·exact h3
theorem cmL_ok (h:okS S k)(n:Int)(t:ByteArray)(pg:Int):okS (cmL L S n t pg).2.2 (k+4):=by
 have h1:=apL_ok (L:=L) h n t;have h2:=synD_ok h1 1;have h3:=tlL_ok (L:=(apL L S n t).2.1) h2 (apL L S n t).2.1.fr pg.toNat;unfold cmL;split
 ·exact h.mono (by omega)
 ·split
  ·exact h1.mono (by omega)
  ·split
   ·exact h2.mono (by omega)
   ·split
    ·exact h3.mono (by omega)
    ·exact h3.mono (by omega)
theorem good_inv (h:GoodS S F c):Inv (opnL (S.lb 2)) S F F c.frames∧(opnL (S.lb 2)).last=c:=by
 have hl:=h.tp.last;have e1:(opnL (S.lb 2)).last=c:=hl;have e2:(opnL (S.lb 2)).fr=c.frames:=by show(lastC (S.lb 2)).frames=_;rw[hl]
 have e3:(opnL (S.lb 2)).pl=fndM (S.lb 2) noM c.frames:=by show fndM _ _ (lastC (S.lb 2)).frames=_;rw[hl];rfl
 refine⟨⟨by rw[e1,e2];exact⟨Nat.le_refl _,Nat.le_refl _⟩,by rw[e2];rcases h.tp.fits with k | k;exact .inl k;exact .inr k,⟨by rw[e1,h.f1];exact h.tp,by rw[h.ws,h.f1];rfl,by rw[h.ws];exact Wt.nil _ _⟩,h.f0.symm,by rw[e1,e3,h.f1],?_,(fun x v hv=>by cases hv),by rw[e1,h.f0,h.f1];exact h.vw,by rw[e2,h.f0];exact h.vw⟩,e1⟩;rw[e2,e3];rfl
theorem GoodS.moved (h:GoodS S F c)(hs:∀i<4,(S.lb i).length≤67108864):GoodS (mv S 2) F c∧NoF (mv S 2):=by
 obtain⟨m0,m1,m2,m3,m4⟩:=mv_two S hs;have hM:=mv_ok S hs 2 (Nat.le_refl _);exact⟨⟨by rw[m2];exact h.tp,by rw[m0,m2];exact h.vw,by rw[m0,m1],by rw[m2,m3],m4,hM.down⟩,hM.left,hM.down⟩
end Go.Proofs.YtfjkockcgddgbaaGreat
