/- a part -/
import Derived.Test.YtiaibgfhigdgdaaGreatM24
set_option maxRecDepth 100000
set_option maxHeartbeats 8000000
namespace Go.Proofs.YtiaibgfhigdgdaaGreat
open Tryz
open Go.RowKit Go.Lib Go.Maps Go.Sort
variable {kd:Int}{s:Nat->SD}{q:Nat->MD}{w0 X Y w:World}{D Gp tg mg kg pk m m' pages pages' i k n lo:Nat}{V V':PV}{K K':Pgs}{A A' Ak:Nat->PgV}{fl fl' flk:List Nat}{v:Value}{xs:List Value}
def InK (kd:Int)(n:Nat)(s:Nat->SD)(q:Nat->MD):Prop:=∀j,j<2 ->
 (kd=6∨kd=7->(q j).em=(s j).es∧(s j).ek=(s j).es∧(j<n->(q j).ekm=(s j).ek)) ∧
 (kd=8->(q j).ekm=(s j).ek∧(s j).es=(s j).ek∧(j<n->(q j).em=(s j).es)) ∧
 (¬(kd=6∨kd=7)->¬kd=8->(q j).em=(s j).es∧(q j).ekm=(s j).ek)
def Eqs (s:Nat->SD)(q:Nat->MD):Prop:=∀j,j<2->(q j).em=(s j).es∧(q j).ekm=(s j).ek
theorem InK.done (h:InK kd 2 s q):Eqs s q:=λj hj=>by
 obtain⟨h1,h2,h3⟩:=h j hj;by_cases a:kd=6∨kd=7
 ·exact⟨(h1 a).1,(h1 a).2.2 hj⟩
 ·by_cases b:kd=8
  ·exact⟨(h2 b).2.2 hj,(h2 b).1⟩
  ·exact h3 a b
structure LwM (w0 Y:World) (D Gp tg mg kg:Nat) (V:PV) (K:Pgs) (pk m:Nat) (A:Nat->PgV) (fl:List Nat) (pages:Nat) (Ak:Nat->PgV) (flk:List Nat) (s:Nat->SD) (q:Nat->MD) (i:Nat):Prop where
 sem:Sem2 w0 Y D Gp V K pk m A fl pages Ak flk s (λj=>(q j).rt) i
 mem:Mem w0 Y Gp tg mg kg q
def LwI (w0 Y:World)(D Gp tg mg kg:Nat)(kd:Int)(n i:Nat):Prop:=∃(V:PV) (K:Pgs) (pk m:Nat) (A:Nat->PgV) (fl:List Nat) (pages:Nat) (Ak:Nat->PgV) (flk:List Nat) (s:Nat->SD) (q:Nat->MD),LwM w0 Y D Gp tg mg kg V K pk m A fl pages Ak flk s q i∧InK kd n s q
def KpA (X Y:World):Prop:=∀(c:Nat) (cs:Array Value),X.heap[c]?=some (.cells cs 45 (0,0))->Y.heap[c]?=some (.cells cs 45 (0,0))
section
variable {rt:Nat->Nat}
theorem Sem2.rts {rt':Nat->Nat}(h:Sem2 w0 X D Gp V K pk m A fl pages Ak flk s rt i)(e:∀j,j<2->rt' j=rt j):Sem2 w0 X D Gp V K pk m A fl pages Ak flk s rt' i:=
 ⟨h.ts,h.ks,h.tr,h.trk,λj hj=>by rw[e j hj];exact h.rt j hj,h.len,h.nn,h.mm,h.pg⟩
theorem Mem.kpA (h:Mem w0 X Gp tg mg kg q)(hk:k<2)(hf:LF w0.heap.size (q k).mb X Y):KpA X Y:=λc cs hc=>hf.keep c cs _ hc (by decide) (blk_ne hc (h.mp k hk).blk (by decide))
theorem TS.kpA (ts:TS X w0.heap.size D Gp V K pk m A fl pages)(hs:St2 X Y w0.heap.size V V'):KpA X Y:=λc cs hc=>ts.stay hs hc (by decide)
theorem kpA_below (hb:Below X.heap.size X Y):KpA X Y:=λc _ hc=>(hb.block c (gl hc)).trans hc
theorem LwM.below (h:LwM w0 X D Gp tg mg kg V K pk m A fl pages Ak flk s q i)(hb:Below X.heap.size X Y):LwM w0 Y D Gp tg mg kg V K pk m A fl pages Ak flk s q i:=
 ⟨h.sem.stay (h.sem.ts.below hb).1,h.mem.stay h.sem.ts (h.sem.ts.below hb).2⟩
theorem LwM.step (h:LwM w0 X D Gp tg mg kg V K pk m A fl pages Ak flk s q i)(he:Eqs s q)(hk:k<2)(hi:i<=250)(h6:¬(kd=6∨kd=7))(h8:¬kd=8)(hP:@stepP (besT (s (oth k)).d (s (oth k)).t) X w0.heap.size D Gp K pk m pages [] (numT (s k).d (s k).t) (q k).tb (q k).mb (s k).d (s k).es.length Y):LwI w0 Y D Gp tg mg kg kd 0 (i+1)∧KpA X Y:=by
 obtain⟨V',m',A',fl',pages',x,v',p1,p2,p3,p4⟩:=h.sem.step hk hi hP;refine⟨⟨V',K,pk,m',A',fl',pages',Ak,flk,upS s k x,upS q k { q k with v:=v',em:=x.es },⟨p1.rts λj _=>?_,h.mem.step hk p4 p3⟩,λj hj=>⟨λe=>absurd e h6,λe=>absurd e h8,λ_ _=>?_⟩⟩,h.mem.kpA hk p4⟩
 ·by_cases e:j=k
  ·subst e;rw[upS_at]
  ·rw[upS_ne _ _ e]
 ·by_cases e:j=k
  ·subst e;rw[upS_at,upS_at];exact⟨rfl,(he j hj).2.trans p2.symm⟩
  ·rw[upS_ne _ _ e,upS_ne _ _ e];exact he j hj
variable {af aa an:Int}{sx tt:ByteArray}{kp ca:Option Addr}{kn kc cn cc:Nat}
theorem callsW {f:FuncId}{args:Array Value}{P Q:Ending->World->Prop}(h:Calls prog f args w P)(hi:∀e w',P e w'->Q e w'):Calls prog f args w Q:=λcs=>by
 obtain⟨e,w',fr,p,r⟩:=h cs;exact⟨e,w',fr,hi e w' p,r⟩
theorem kstep (kd:Int)(h:LwM w0 X D Gp tg mg kg V K pk m A fl pages Ak flk s q i)(he:Eqs s q)(hk:k<2)(hi:i<=250)(h7:¬kd=7)(hsz:sx.size<=140737488355328)(htz:tt.size<=140737488355328)(han:-9223372036854775808<=an∧an<=9223372036854775807):Calls prog 14 #[(.pointer (some ⟨Gp,0,none⟩)),(.pointer (some ⟨(q k).tb,0,none⟩)),(.pointer (some ⟨(q k).mb,0,none⟩)),(.agg #[.int .i64 kd,.int .i64 af,.int .i64 aa,.int .i64 an,.string sx,.string tt,.slice kp kn kc,.slice ca cn cc])] X λe w'=>e=.returned (.bool true)∧LwI w0 w' D Gp tg mg kg kd 0 (i+1)∧KpA X w':=by
 have hs:=h.sem.small hi hk;have hT:=h.sem.tr k hk;have ht:TB X (q k).tb Gp (numT (s k).d (s k).t):=by rw[(h.sem.rt k hk).1];exact h.mem.tb k hk
 have hM:MpV X (q k).mb (q k).v (s k).es:=by rw[<-(he k hk).1];exact h.mem.mp k hk
 have hB:=h.mem.low.2.2.2 k hk;have ts:=h.sem.ts;by_cases e1:kd=1
 ·subst e1;refine callsW (@cstep1 X w0.heap.size D Gp V K pk m A fl [] pages (q k).tb (q k).mb (s k).es (q k).v af aa an sx tt kp ca kn kc cn cc (besT (s (oth k)).d (s (oth k)).t) (s k).d (s k).t ts (by omega) hT ht hM (by omega) (by omega) hsz) ?_;rintro e w'⟨rfl,V',p1,p2⟩;exact⟨rfl,h.step he hk hi (by decide) (by decide) (@stepP.same X w' w0.heap.size D Gp V V' K pk m A fl [] pages (q k).tb (q k).mb (s k).es (q k).v (besT (s (oth k)).d (s (oth k)).t) (s k).d (s k).t ts hT ht hM p1 p2)⟩
 by_cases e2:kd=2
 ·subst e2;refine callsW (@cstep2 X w0.heap.size D Gp V K pk m A fl [] pages (q k).tb (q k).mb (s k).es (q k).v af aa an sx tt kp ca kn kc cn cc (besT (s (oth k)).d (s (oth k)).t) (s k).d (s k).t ts (by omega) (by omega) hT ht hM hB (by omega) (by omega) hsz htz han) ?_;rintro e w'⟨rfl,p⟩;exact⟨rfl,h.step he hk hi (by decide) (by decide) p⟩
 by_cases e3:kd=3
 ·subst e3;refine callsW (@cstep3 X w0.heap.size D Gp V K pk m A fl [] pages (q k).tb (q k).mb (s k).es (q k).v af aa an sx tt kp ca kn kc cn cc (besT (s (oth k)).d (s (oth k)).t) (s k).d (s k).t ts (by omega) (by omega) hT ht hM hB (by omega) (by omega) hsz) ?_;rintro e w'⟨rfl,p⟩;exact⟨rfl,h.step he hk hi (by decide) (by decide) p⟩
 by_cases e4:kd=4
 ·subst e4;refine callsW (@cstep4 X w0.heap.size D Gp V K pk m A fl [] pages (q k).tb (q k).mb (s k).es (q k).v af aa an sx tt kp ca kn kc cn cc (besT (s (oth k)).d (s (oth k)).t) (s k).d (s k).t ts (by omega) hT ht hM (by omega) hsz) ?_;rintro e w'⟨rfl,p⟩;exact⟨rfl,h.step he hk hi (by decide) (by decide) p⟩
 by_cases e5:kd=5
 ·subst e5;refine callsW (@cstep5 X w0.heap.size D Gp V K pk m A fl [] pages (q k).tb (q k).mb (s k).es (q k).v af aa an sx tt kp ca kn kc cn cc (besT (s (oth k)).d (s (oth k)).t) (s k).d (s k).t ts (by omega) hT ht hM (by omega) hsz) ?_;rintro e w'⟨rfl,p⟩;exact⟨rfl,h.step he hk hi (by decide) (by decide) p⟩
 by_cases e6:kd=6
 ·subst e6;refine callsW (cstep6 (af:=af) (aa:=aa) (an:=an) (s:=sx) (tt:=tt) (kp:=kp) (ca:=ca) (kn:=kn) (kc:=kc) (cn:=cn) (cc:=cc) (tb:=(q k).tb) (mb:=(q k).mb) ts (by omega) hsz) ?_;rintro e w'⟨rfl,V',K',p1,p2,p3⟩;refine⟨rfl,⟨V',K',pages,m+2,A,fl,pages,A,fl,_,q,⟨h.sem.commit p1 p2,h.mem.stay ts p3⟩,λj hj=>⟨λ_=>⟨(he j hj).1,rfl,λe=>absurd e (Nat.not_lt_zero _)⟩,λe=>absurd e (by decide),λe=>absurd (.inl rfl) e⟩⟩,ts.kpA p3⟩
 by_cases e8:kd=8
 ·subst e8;refine callsW (cstep8 (af:=af) (aa:=aa) (an:=an) (s:=sx) (tt:=tt) (kp:=kp) (ca:=ca) (kn:=kn) (kc:=kc) (cn:=cn) (cc:=cc) (tb:=(q k).tb) (mb:=(q k).mb) ts (by omega) h.sem.ks hsz) ?_;rintro e w'⟨rfl,V',p1,p2⟩;refine⟨rfl,⟨V',K,pk,m,Ak,flk,pk,Ak,flk,_,q,⟨h.sem.back p1,h.mem.stay ts p2⟩,λj hj=>⟨λe=>absurd e (by decide),λ_=>⟨(he j hj).2,rfl,λe=>absurd e (Nat.not_lt_zero _)⟩,λ_ e=>absurd rfl e⟩⟩,ts.kpA p2⟩
 ·refine callsW (cstepN (Gp:=Gp) (af:=af) (aa:=aa) (an:=an) (s:=sx) (tt:=tt) (kp:=kp) (ca:=ca) (kn:=kn) (kc:=kc) (cn:=cn) (cc:=cc) (tb:=(q k).tb) (mb:=(q k).mb) kd e1 e2 e3 e4 e5 e6 e8 hsz) ?_;rintro e w'⟨rfl,p⟩;exact⟨rfl,⟨V,K,pk,m,A,fl,pages,Ak,flk,s,q,⟨h.sem.next (ts.below p).1,h.mem.stay ts (ts.below p).2⟩,λj hj=>⟨λe=>absurd e (by omega),λe=>absurd e e8,λ_ _=>he j hj⟩⟩,kpA_below p⟩
theorem kdrop (h:LwM w0 X D Gp tg mg kg V K pk m A fl pages Ak flk s q i)(he:Eqs s q)(hk:k<2)(hi:i<=250)(tcap mcap:Nat):Calls prog 13 #[(.pointer (some ⟨Gp,0,none⟩)),.slice (some ⟨tg,0,none⟩) 2 tcap,.slice (some ⟨mg,0,none⟩) 2 mcap,.int .i64 (k:Int)] X λe w'=>e=.returned (.bool true)∧LwI w0 w' D Gp tg mg kg 7 0 (i+1)∧KpA X w':=by
 have hs:=h.sem.small hi hk;have hT:=h.sem.tr k hk;have ht:TB X (q k).tb Gp (numT (s k).d (s k).t):=by rw[(h.sem.rt k hk).1];exact h.mem.tb k hk
 have hM:MpV X (q k).mb (q k).v (s k).es:=by rw[<-(he k hk).1];exact h.mem.mp k hk
 have hB:=h.mem.low.2.2.2 k hk;have ts:=h.sem.ts;have hl:(numsT (s k).d (s k).t).length=(nodT (s k).d (s k).t).length:=by simp[numsT]
 obtain⟨cur,a1,a2⟩:=h.mem.tr;obtain⟨cum,b1,b2⟩:=h.mem.mr;refine callsW (@cdropped X w0.heap.size D Gp V K pk m A fl pages (q k).tb (q k).mb tg mg k tcap mcap (s k).es (q k).v cur cum (besT (s (oth k)).d (s (oth k)).t) (s k).d (s k).t ts (by omega) (by omega) hT ht hM ⟨hB,h.mem.low.1⟩ hk a1 (a2 k hk) b1 (b2 k hk)) ?_;rintro e w'⟨rfl,V',K',A',fl',pages',n,tb',p1,p2,p3,p4,p5,p6,p7,p8,p9⟩;obtain⟨m',s',r1,r2,r3,r4⟩:=h.sem.drop hk p9 p1 p2 p3;refine⟨rfl,⟨V',K',pages',m',A',fl',pages',A',fl',s',_,⟨r1.rts λj hj=>?_,h.mem.drop hk a1 a2 p8 p7 p4 p6⟩,λj hj=>⟨λ_=>⟨?_,r2 j hj,λe=>absurd e (Nat.not_lt_zero _)⟩,λe=>absurd e (by decide),λe=>absurd (.inr rfl) e⟩⟩,λc cs hc=>p8.keep c cs _ hc (by decide) (blk_ne hc hM.blk (by decide)) (blk_ne hc a1 (by decide))⟩
 ·by_cases e:j=k
  ·subst e;rw[upS_at,upS_at]
  ·rw[upS_ne _ _ e,upS_ne _ _ e]
 ·by_cases e:j=k
  ·subst e;rw[upS_at,r3]
  ·rw[upS_ne _ _ e];have:j=oth k:=by unfold oth;omega
   rw[this,r4];exact(he _ (oth_lt k)).1
end
def A00:Nat->PgV:=λ_=>⟨4,0,[]⟩
theorem ts_first {B:Nat}(h:PO w B D Gp V K00 K00 1 1)(hn:NoF V.S)(hp:V.P.pages=1)(hf:V.P.free=0):TS w B D Gp V K00 1 1 A00 [] 1:=by
 refine⟨⟨K00,h,λn hn'=>⟨?_,(show okP ⟨4,0,[]⟩ from⟨⟨by decide,by decide⟩,by decide,by decide⟩)⟩⟩,hp,hf,rfl,trivial,λf hf=>by simp at hf,hn,List.nodup_nil⟩;have e:n=0:=by omega
 subst e;show K00 0=some (pgX ⟨4,0,[]⟩);rw[pgX_none];rfl
theorem klt_nil (k:ByteArray):klt k ⟨#[]⟩=false:=by
 unfold klt;rw[show(⟨#[]⟩:ByteArray).toList=[] by rw[ByteArray.toList_eq]];cases k.toList<;>rfl
theorem scan_full (es:List Ent):scanE (-1) false ⟨#[]⟩ ⟨#[]⟩ es=es:=by
 rw[scan_all,List.filter_eq_self];intro e _;unfold inR;rw[klt_nil,show(⟨#[]⟩:ByteArray).toList=[] by rw[ByteArray.toList_eq]];rfl
def LwE (w0 Y:World)(D Gp tg mg kg:Nat)(i:Nat):Prop:=∃(V:PV) (K:Pgs) (pk m:Nat) (A:Nat->PgV) (fl:List Nat) (pages:Nat) (Ak:Nat->PgV) (flk:List Nat) (s:Nat->SD) (q:Nat->MD),LwM w0 Y D Gp tg mg kg V K pk m A fl pages Ak flk s q i∧Eqs s q
theorem LwI.done (h:LwI w0 X D Gp tg mg kg kd 2 i):LwE w0 X D Gp tg mg kg i:=by
 obtain⟨V,K,pk,m,A,fl,pages,Ak,flk,s,q,h1,h2⟩:=h;exact⟨V,K,pk,m,A,fl,pages,Ak,flk,s,q,h1,h2.done⟩
theorem LwE.bel (h:LwE w0 X D Gp tg mg kg i):Below w0.heap.size w0 X:=by
 obtain⟨V,K,pk,m,A,fl,pages,Ak,flk,s,q,h1,h2⟩:=h;exact h1.mem.bel
theorem LwM.keep (h:LwM w0 X D Gp tg mg kg V K pk m A fl pages Ak flk s q i)(hI:InK kd n s q)(hk:kd=6∨kd=7)(hn:n<2):LwI w0 ((X.alloc (.cells #[(q n).v] 34)).setCell ⟨kg,n,none⟩ (.pointer (some ⟨X.heap.size,0,none⟩))) D Gp tg mg kg kd (n+1) i∧KpA X ((X.alloc (.cells #[(q n).v] 34)).setCell ⟨kg,n,none⟩ (.pointer (some ⟨X.heap.size,0,none⟩))):=by
 obtain⟨a,b,c⟩:=h.mem.keep h.sem.ts hn;refine⟨⟨V,K,pk,m,A,fl,pages,Ak,flk,s,_,⟨(h.sem.stay b).rts λj hj=>?_,a⟩,λj hj=>?_⟩,λc' cs hc=>c c' cs _ hc (by decide)⟩
 ·by_cases e:j=n
  ·subst e;rw[upS_at]
  ·rw[upS_ne _ _ e]
 ·obtain⟨h1,h2,h3⟩:=hI j hj;obtain⟨g1,g2,g3⟩:=h1 hk;refine⟨λ_=>?_,λe=>by omega,λe=>absurd hk e⟩;by_cases e:j=n
  ·subst e;rw[upS_at];exact⟨g1,g2,λ_=>g1.trans g2.symm⟩
  ·rw[upS_ne _ _ e];exact⟨g1,g2,λl=>g3 (by omega)⟩
theorem LwM.back (h:LwM w0 X D Gp tg mg kg V K pk m A fl pages Ak flk s q i)(hI:InK 8 n s q)(hn:n<2):LwI w0 (X.setCell ⟨(q n).mb,0,none⟩ (q n).vk) D Gp tg mg kg 8 (n+1) i∧KpA X (X.setCell ⟨(q n).mb,0,none⟩ (q n).vk):=by
 obtain⟨a,b,c⟩:=h.mem.back h.sem.ts hn;refine⟨⟨V,K,pk,m,A,fl,pages,Ak,flk,s,_,⟨(h.sem.stay b).rts λj hj=>?_,a⟩,λj hj=>?_⟩,h.mem.kpA hn c⟩
 ·by_cases e:j=n
  ·subst e;rw[upS_at]
  ·rw[upS_ne _ _ e]
 ·obtain⟨h1,h2,h3⟩:=hI j hj;obtain⟨g1,g2,g3⟩:=h2 rfl;refine⟨λe=>absurd e (by decide),λ_=>?_,λ_ e=>absurd rfl e⟩;by_cases e:j=n
  ·subst e;rw[upS_at];exact⟨g1,g2,λ_=>g1.trans g2.symm⟩
  ·rw[upS_ne _ _ e];exact⟨g1,g2,λl=>g3 (by omega)⟩
theorem LwI.nothing (h:LwI w0 X D Gp tg mg kg kd n i)(h6:¬kd=6)(h7:¬kd=7)(h8:¬kd=8):LwI w0 X D Gp tg mg kg kd (n+1) i:=by
 obtain⟨V,K,pk,m,A,fl,pages,Ak,flk,s,q,h1,h2⟩:=h;refine⟨V,K,pk,m,A,fl,pages,Ak,flk,s,q,h1,λj hj=>⟨λe=>absurd e (by omega),λe=>absurd e h8,(h2 j hj).2.2⟩⟩
structure OpS (w0 Y:World) (D Gp mg b0 b1:Nat) (V:PV) (m:Nat) (A:Nat->PgV) (fl:List Nat) (pages i:Nat) (v:Value) (tbs rts:List Nat):Prop where
 ts:TS Y w0.heap.size D Gp V K00 1 m A fl pages
 row:Y.ownsRow w0.heap.size 38 1 v i (tbs.map λb=>(.pointer (some ⟨b,0,none⟩)))
 len:tbs.length=i∧rts.length=i
 tb:∀j,j<i->TB Y (tbs.getD j 0) Gp (rts.getD j 0)
 perm:(0::(fl++rts)).Perm (List.range pages)
 lf:∀r∈rts,A r=⟨1,0,[]⟩
 mm:m<=1+3*i
 pg:pages<=1+i
 mgb:Y.heap[mg]?=some (.cells #[(.pointer (some ⟨b0,0,none⟩)),(.pointer (some ⟨b1,0,none⟩))] 31 (0,0))
 m0:Y.heap[b0]?=some (.cells #[(.slice none 0 0)] 34 (0,0))
 m1:Y.heap[b1]?=some (.cells #[(.slice none 0 0)] 34 (0,0))
 low:w0.heap.size<=mg∧w0.heap.size<=b0∧w0.heap.size<=b1∧¬b0=b1
 bel:Below w0.heap.size w0 Y
section
variable {Z:World}{b0 b1:Nat}{v':Value}{tbs rts:List Nat}
theorem row_isP (h:w.ownsRow lo 38 1 v n xs){g:Nat}(hg:v.ownBlock=some g):∃cs,w.heap[g]?=some (.cells cs 38 (0,0)):=by
 rcases h.2 with⟨e,_⟩|⟨g',cap,cur,e,-,h1,-⟩
 ·rw[e] at hg;simp[Value.ownBlock] at hg
 ·rw[e] at hg;simp[Value.ownBlock] at hg;exact⟨cur,hg ▸ h1⟩
theorem row_keepP {w':World}(h:w.ownsRow lo 38 1 v n xs)(hk:∀g,v.ownBlock=some g->w'.heap[g]?=w.heap[g]?):w'.ownsRow lo 38 1 v n xs:=by
 refine⟨h.1,?_⟩;rcases h.2 with e | ⟨g,cap,cur,e,h1,h2,h3⟩
 ·exact .inl e
 ·exact .inr ⟨g,cap,cur,e,h1,(hk g (by rw[e];simp[Value.ownBlock])).trans h2,h3⟩
theorem OpS.more {W:World}{tb:Nat}(h:OpS w0 X D Gp mg b0 b1 V m A fl pages i v tbs rts)(ts:TS Y w0.heap.size D Gp V' K00 1 (m+3) (updA A' n ⟨1,0,[]⟩) fl' pages')(hs:St2 X Y w0.heap.size V V')(hr:AllR A fl pages n A' fl' pages')(hb:Below Y.heap.size Y Z)(ht:TB Z tb Gp n)(ho:W.ownsRow w0.heap.size 38 1 v' (i+1) ((tbs.map λb=>(.pointer (some ⟨b,0,none⟩)))++[(.pointer (some ⟨tb,0,none⟩))]))(hg:Z.grownBy W v.ownBlock):OpS w0 W D Gp mg b0 b1 V' (m+3) (updA A' n ⟨1,0,[]⟩) fl' pages' (i+1) v' (tbs++[tb]) (rts++[n]):=by
 have k1:∀(c:Nat) (cs:Array Value) (t:TypeId),X.heap[c]?=some (.cells cs t (0,0))->tyQ t=false->Z.heap[c]?=some (.cells cs t (0,0)):=λc cs t hc ht=>(hb.block c (gl (h.ts.stay hs hc ht))).trans (h.ts.stay hs hc ht)
 have hrow:Z.ownsRow w0.heap.size 38 1 v i (tbs.map λb=>(.pointer (some ⟨b,0,none⟩))):=row_keepP h.row λg hg=>by
  obtain⟨cs,hcs⟩:=row_isP h.row hg;exact(k1 _ _ _ hcs (by decide)).trans hcs.symm
 have k2:∀(c:Nat) (cs:Array Value) (t:TypeId),Z.heap[c]?=some (.cells cs t (0,0))->¬t=38->W.heap[c]?=some (.cells cs t (0,0)):=λc cs t hc hn=>(hg.block c (gl hc) (λe=>by
  obtain⟨cs2,h2⟩:=row_isP hrow e.symm;exact blk_ne hc h2 hn rfl)).trans hc
 have k3:∀(c:Nat) (cs:Array Value) (t:TypeId),X.heap[c]?=some (.cells cs t (0,0))->tyQ t=false->¬t=38->W.heap[c]?=some (.cells cs t (0,0)):=λc cs t hc h1 h2=>k2 c cs t (k1 c cs t hc h1) h2
 have tz:=(ts.below hb).1;have hp:=hr.perm _ h.perm;have hnr:¬n∈rts:=λhm=>by
  have hd:=hp.nodup_iff.2 List.nodup_range;rw[List.nodup_cons,List.nodup_append,List.nodup_cons] at hd;exact hd.2.2.1.1 hm
 refine⟨tz.keptN ⟨hg.size,λc hc hl=>hg.block c hc (λe=>hl (by
  obtain⟨cs,hcs⟩:=row_isP hrow e.symm;exact .inl ⟨cs,_,hcs,by decide⟩))⟩,by simpa using ho,by simp[h.len],λj hj=>?_,?_,λr hr2=>?_,by have:=h.mm;omega,by have:=h.pg;have:=hr.pgs;omega,k3 _ _ _ h.mgb (by decide) (by decide),k3 _ _ _ h.m0 (by decide) (by decide),k3 _ _ _ h.m1 (by decide) (by decide),h.low,?_⟩
 ·by_cases e:j<i
  ·have e1:(tbs++[tb]).getD j 0=tbs.getD j 0:=by simp[List.getD,List.getElem?_append_left (show j<tbs.length by rw[h.len.1];exact e)]
   have e2:(rts++[n]).getD j 0=rts.getD j 0:=by simp[List.getD,List.getElem?_append_left (show j<rts.length by rw[h.len.2];exact e)]
   rw[e1,e2];exact k3 _ _ _ (h.tb j e) (by decide) (by decide)
  ·have ej:j=i:=by omega
   subst ej;have e1:(tbs++[tb]).getD j 0=tb:=by simp[List.getD,h.len.1]
   have e2:(rts++[n]).getD j 0=n:=by simp[List.getD,h.len.2]
   rw[e1,e2];exact k2 _ _ _ ht (by decide)
 ·refine List.Perm.trans (List.Perm.cons _ (List.Perm.append_left _ ?_)) hp;exact List.perm_append_singleton n rts
 ·rcases List.mem_append.1 hr2 with h1|h1
  ·have hne:¬r=n:=λe=>hnr (e ▸ h1)
   have h0:¬r=0:=λe=>by
    have hd:=hp.nodup_iff.2 List.nodup_range;rw[List.nodup_cons] at hd;exact hd.1 (e ▸ List.mem_append_right _ (List.mem_cons_of_mem _ h1))
   rw[updA_ne _ _ hne,hr.same _ h0 hne];exact h.lf r h1
  ·have:r=n:=by simpa using h1
   rw[this,updA_at]
 ·exact below_grown ((h.bel.trans hs.bel.toBelow).trans (hb.mono ts.lo)) hg (λg e=>(World.ownsRow.lt hrow g e).1) tz.lo
theorem OpS.start {k0 k1 t0 t1 r0 r1:Nat}{tcap:Nat}(h:OpS w0 X D Gp mg b0 b1 V m A fl pages 2 (.slice (some ⟨tg,0,none⟩) 2 tcap) [t0,t1] [r0,r1])(ts:TS Y w0.heap.size D Gp V' K pages (m+2) A fl pages)(ks:KS K pages A fl)(hs:St2 X Y w0.heap.size V V')(hb:Below Y.heap.size Y Z)(hk:Z.heap[kg]?=some (.cells #[(.pointer (some ⟨k0,0,none⟩)),(.pointer (some ⟨k1,0,none⟩))] 31 (0,0)))(h0:Z.heap[k0]?=some (.cells #[(.slice none 0 0)] 34 (0,0)))(h1:Z.heap[k1]?=some (.cells #[(.slice none 0 0)] 34 (0,0)))(hl:Y.heap.size<=kg∧Y.heap.size<=k0∧Y.heap.size<=k1):LwE w0 Z D Gp tg mg kg 0:=by
 have kx:∀(c:Nat) (cs:Array Value) (t:TypeId),X.heap[c]?=some (.cells cs t (0,0))->tyQ t=false->c<Y.heap.size∧Z.heap[c]?=some (.cells cs t (0,0)):=λc cs t hc ht=>⟨(gl (h.ts.stay hs hc ht)),(hb.block c (gl (h.ts.stay hs hc ht))).trans (h.ts.stay hs hc ht)⟩
 have tz:=(ts.below hb).1;have hrow:=h.row;obtain⟨cur,c1,c2,c3⟩:∃cur,X.heap[tg]?=some (.cells cur 38 (0,0))∧(cur[0]?=some (.pointer (some ⟨t0,0,none⟩))∧cur[1]?=some (.pointer (some ⟨t1,0,none⟩)))∧w0.heap.size<=tg:=by
  rcases hrow.2 with⟨_,e⟩|⟨g,cap,cur,e,hb,hg,x1,x2,x3,x4⟩
  ·omega
  ·injection e with e1 e2 e3;injection e1 with e1;injection e1 with e1;subst e1;refine⟨cur,hg,?_,hb⟩;have hj:∀j,j<2->cur[j]?=([(.pointer (some ⟨t0,0,none⟩)),(.pointer (some ⟨t1,0,none⟩))]:List Value)[j]?:=λj hj=>by
    have e1:(cur.toList.take (2*1))[j]?=([(.pointer (some ⟨t0,0,none⟩)),(.pointer (some ⟨t1,0,none⟩))]:List Value)[j]?:=by rw[x4];rfl
    rw[List.getElem?_take,if_pos (by omega)] at e1;rw[<-Array.getElem?_toList,e1]
   exact⟨hj 0 (by decide),hj 1 (by decide)⟩
 have hp:=h.perm;have tr:∀(a b:Nat),(0::(fl++[a,b])).Perm (List.range pages)->A a=⟨1,0,[]⟩->A b=⟨1,0,[]⟩->@Tr (besT 0 (⟨b,0,[]⟩:Lf)) A fl pages [] 0 (⟨a,0,[]⟩:Lf) []:=λa b hab ha hb=>by
  refine @tr_new [] (besT 0 (⟨b,0,[]⟩:Lf)) A fl pages a ?_ ha ?_
  ·exact hab
  ·intro p hp;have hp:p∈nodT 0 (⟨b,0,[]⟩:Lf):=hp;have:p=(b,pgT 0 (⟨b,0,[]⟩:Lf)):=by simpa[nodT] using hp
   rw[this];exact hb
 have a0:=h.lf r0 (by simp);have a1:=h.lf r1 (by simp);have T0:=tr r0 r1 hp a0 a1;have T1:=tr r1 r0 (List.Perm.trans (List.Perm.cons _ (List.Perm.append_left _ (List.Perm.swap _ _ _))) hp) a1 a0;let s:Nat->SD:=λj=>if j=0 then⟨0,(⟨r0,0,[]⟩:Lf),[],0,(⟨r0,0,[]⟩:Lf),[],0⟩ else⟨0,(⟨r1,0,[]⟩:Lf),[],0,(⟨r1,0,[]⟩:Lf),[],0⟩
 let q:Nat->MD:=λj=>if j=0 then⟨t0,r0,b0,k0,(.slice none 0 0),(.slice none 0 0),[],[]⟩ else⟨t1,r1,b1,k1,(.slice none 0 0),(.slice none 0 0),[],[]⟩
 have two:∀{P:Nat->Prop},P 0->P 1->∀j,j<2->P j:=λp0 p1 j hj=>by
  have:j=0∨j=1:=by omega
  rcases this with rfl|rfl
  ·exact p0
  ·exact p1
 have nilR:∀(b:Nat),Z.heap[b]?=some (.cells #[(.slice none 0 0)] 34 (0,0))->MpV Z b (.slice none 0 0) []:=λb hb=>⟨hb,⟨rfl,.inl ⟨rfl,rfl⟩⟩⟩
 have B0:=kx _ _ _ h.m0 (by decide);have B1:=kx _ _ _ h.m1 (by decide);have G1:=kx _ _ _ h.mgb (by decide);have G2:=kx _ _ _ c1 (by decide);refine⟨V',K,pages,m+2,A,fl,pages,A,fl,s,q,⟨⟨tz,ks,two T0 T1,two T0 T1,two ⟨rfl,rfl⟩ ⟨rfl,rfl⟩,two ⟨Nat.le_refl _,Nat.le_refl _⟩ ⟨Nat.le_refl _,Nat.le_refl _⟩,Nat.le_refl _,by have:=h.mm;show m+2+10*(0+0)<=_;omega,by have:=h.pg;omega⟩,⟨two ?_ ?_,two (nilR _ B0.2) (nilR _ B1.2),two (nilR _ h0) (nilR _ h1),⟨cur,G2.2,two c2.1 c2.2⟩,⟨_,G1.2,two rfl rfl⟩,⟨_,hk,two rfl rfl⟩,?_,?_,?_,⟨c3,h.low.1,Nat.le_trans ts.lo hl.1,two h.low.2.1 h.low.2.2.1⟩,(h.bel.trans hs.bel.toBelow).trans (hb.mono ts.lo)⟩⟩,two ⟨rfl,rfl⟩ ⟨rfl,rfl⟩⟩
 ·exact(kx _ _ _ (h.tb 0 (by decide)) (by decide)).2
 ·exact(kx _ _ _ (h.tb 1 (by decide)) (by decide)).2
 ·intro i j hi hj hn;have:(i=0∧j=1)∨(i=1∧j=0):=by omega
  rcases this with⟨rfl,rfl⟩|⟨rfl,rfl⟩
  ·exact h.low.2.2.2
  ·exact λe=>h.low.2.2.2 e.symm
 ·have x0:=B0.1;have x1:=B1.1;intro i j hi hj
  revert j
  refine two ?_ ?_
  ·revert i;refine two ?_ ?_
   ·show ¬k0=b0;omega
   ·show ¬k1=b0;omega
  ·revert i;refine two ?_ ?_
   ·show ¬k0=b1;omega
   ·show ¬k1=b1;omega
 ·have:=G1.1;omega
end
end Go.Proofs.YtiaibgfhigdgdaaGreat
