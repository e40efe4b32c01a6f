/- a part -/
import Derived.Maps.OwnOps
import Derived.Test.YtiaibgfhigdgdaaGreatS5
import Derived.Test.YtiaibgfhigdgdaaGreatShelf
import Derived.Lib.OwnBridge
import Derived.Sort.OwnSortedInts
set_option maxRecDepth 100000
set_option maxHeartbeats 8000000
namespace Go.Proofs.YtiaibgfhigdgdaaGreat
open Go.RowKit Go.Lib Go.Maps
variable {X Y Z w:World}{b n D m k B G bp bf Gp g c d:Nat}{v:Value}{ps:List MemPlace}{F:Int→Option Nat}{x:Int}{L L':LS}{S S':DS}{l:List Int}{r:Option Nat}{t:TypeId}{s:ByteArray}{M':List Nat}{cs:Array Value}{q:Int→Bool}
def litI:Lit→Int
 | .int _ x=>x
 | _=>0
theorem own_keys {R:Value→Option (DataW Unit×List MemPlace)}{D:DataW Unit}(h:X.ownsMap Tryz.prog 3 R b n D):∃ks:List Int,ks.Nodup∧X.ownsMap Tryz.prog 3 R b ks.length D∧Maps.size D=ks.length∧(∀x,i64 x→(Maps.has D (.int .i64 x)=true↔x∈ks))∧∀x∈ks,i64 x:=by
 obtain⟨es0,e0,hp,-⟩:=h.entries lawI;obtain⟨es,clock,hb,F,hs,hD⟩:=h;have hL:es0=(es.toList.map (WideElems.rg Tryz.prog 3 R)).foldr DataW.insert []:=by
  rw[e0] at hD;injection hD
 have hI:∀p∈es0,∃x,p.1=.int .i64 x∧i64 x:=fun p hp=>by
  rw[hL,mem_sorted,List.mem_map] at hp;obtain⟨en,hen,rfl⟩:=hp;obtain⟨y,hy⟩:=F.reads en hen;have hk:=WideElems.rd_key hy;obtain⟨x,-,h2,h3⟩:=Maps.keyOf_int_inv Tryz.underlying3 hk;refine⟨x,?_,h3⟩;unfold WideElems.rg;rw[hy];exact h2
 have hlen:es0.length=es.size:=by rw[hL];exact length_read es
 subst e0;refine⟨es0.map (fun p=>litI p.1),?_,⟨es,clock,hb,F,by rw[List.length_map,hlen];exact Nat.le_refl _,hD⟩,by rw[List.length_map];rfl,fun x hx=>?_,fun x hx=>?_⟩
 ·refine List.pairwise_map.2 (List.Pairwise.imp_of_mem ?_ hp);intro p q h1 h2 hne he;obtain⟨x,ex,-⟩:=hI p h1;obtain⟨y,ey,-⟩:=hI q h2;rw[ex,ey] at he hne;exact hne (by have:x=y:=he;rw[this])
 ·rw[has_eq,List.any_eq_true,List.mem_map];constructor
  ·rintro⟨p,h1,h2⟩;refine⟨p,h1,?_⟩;obtain⟨y,ey,-⟩:=hI p h1;rw[ey] at h2 ⊢;show y=x;by_cases e:y=x
   ·exact e
   ·rw[sameKey_ne (fun h=>by injection h with _ h;exact e h)] at h2;cases h2
  ·rintro⟨p,h1,h2⟩;refine⟨p,h1,?_⟩;obtain⟨y,ey,-⟩:=hI p h1;rw[ey] at h2 ⊢;obtain rfl:y=x:=h2;simp[Lit.sameKey]
 ·obtain⟨p,h1,rfl⟩:=List.mem_map.1 hx;obtain⟨y,ey,iy⟩:=hI p h1;rw[ey];exact iy
def ptrElem:Value→Option (DataW Unit×List MemPlace)
 | .pointer none=>some (.nil,[])
 | .pointer (some ⟨b,0,none⟩)=>some (.lit (.int .i64 b),[])
 | _=>none
theorem ptrElem_mk (b:Nat):ptrElem (.pointer (some ⟨b,0,none⟩))=some (.lit (.int .i64 b),[]):=rfl
theorem ptrElem_inv {b:Int}(h:ptrElem v=some (.lit (.int .i64 b),ps)):∃n:Nat,b=n∧v=.pointer (some ⟨n,0,none⟩):=by
 unfold ptrElem at h;split at h
 ·injection h with h;injection h with h _;cases h
 ·injection h with h;injection h with h _;injection h with h;injection h with _ h;exact⟨_,h.symm,rfl⟩
 ·cases h
theorem ptrElem_nil (h:ptrElem v=some (.nil,ps)):v=.pointer none:=by
 unfold ptrElem at h;split at h
 ·rfl
 ·injection h with h;injection h with h _;cases h
 ·cases h
theorem zeroP (w:World):(zeroValue 100).run Tryz.prog w=.ok (.pointer none) w:=by kernel_rfl
def MF (X:World)(b n:Nat)(F:Int→Option Nat):Prop:=∃D:DataW Unit,X.ownsMap Tryz.prog 3 ptrElem b n D∧∀x,i64 x→(Maps.has D (.int .i64 x)=(F x).isSome∧∀v,F x=some v→∀z,D.atKey (.int .i64 x) z=.lit (.int .i64 v))
theorem MF.lt (h:MF X b n F):b<X.heap.size:=by obtain⟨D,h,-⟩:=h;exact h.lt
theorem MF.mono (h:MF X b n F)(hn:n≤m):MF X b m F:=by obtain⟨D,h,k⟩:=h;exact⟨D,h.mono hn,k⟩
theorem MF.keep (h:MF X b n F)(e:Y.heap[b]?=X.heap[b]?):MF Y b n F:=by
 obtain⟨D,⟨es,clock,hb,r⟩,k⟩:=h;exact⟨D,⟨es,clock,e.trans hb,r⟩,k⟩
theorem MF.isMap (h:MF X b n F):∃es clock,X.heap[b]?=some (.map es clock):=by
 obtain⟨D,⟨es,clock,hb,r⟩,k⟩:=h;exact⟨es,clock,hb⟩
theorem MF.far (h:MF X b n F)(T:TypeId→Bool):farT T X b:=fun cur e fz he=>by
 obtain⟨es,clock,hb⟩:=h.isMap;rw[hb] at he;cases he
theorem MF.congr {F':Int→Option Nat}(h:MF X b n F)(he:∀x,i64 x→F' x=F x):MF X b n F':=by
 obtain⟨D,ho,k⟩:=h;exact⟨D,ho,fun x hx=>by rw[he x hx];exact k x hx⟩
def ptrO:Option Nat→Value
 | none=>.pointer none
 | some b=>.pointer (some ⟨b,0,none⟩)
theorem MF.look (h:MF X b n F)(hx:i64 x):(Instr.lookup 85 (.map (some b)) (.int .i64 x) true).run Tryz.prog X=.ok (.tuple #[ptrO (F x),.bool (F x).isSome]) X:=by
 obtain⟨D,h,k⟩:=h;obtain⟨k1,k2⟩:=k x hx;obtain⟨v,ps,hrun,hR⟩:=h.look_ok lawI Tryz.underlying85 (zeroP X) (show ptrElem (.pointer none)=some (.nil,[]) from rfl) (keyOf_int_mk Tryz.underlying3 hx);rw[hrun,k1];cases hF:F x with
 | none =>
  rw[hF] at k1;rw[atKey_of_not_has k1] at hR;rw[ptrElem_nil hR];rfl
 | some v =>
  rw[k2 v hF] at hR;obtain⟨n,e,rfl⟩:=ptrElem_inv hR;obtain rfl:v=n:=by omega
  rfl
theorem MF.look1 (h:MF X b n F)(hx:i64 x):(Instr.lookup 85 (.map (some b)) (.int .i64 x) false).run Tryz.prog X=.ok (ptrO (F x)) X:=by
 obtain⟨D,h,k⟩:=h;obtain⟨k1,k2⟩:=k x hx;obtain⟨v,ps,hrun,hR⟩:=h.lookup lawI Tryz.underlying85 (zeroP X) (show ptrElem (.pointer none)=some (.nil,[]) from rfl) (keyOf_int_mk Tryz.underlying3 hx);rw[hrun];cases hF:F x with
 | none =>
  rw[hF] at k1;rw[atKey_of_not_has k1] at hR;rw[ptrElem_nil hR];rfl
 | some v =>
  rw[k2 v hF] at hR;obtain⟨n,e,rfl⟩:=ptrElem_inv hR;obtain rfl:v=n:=by omega
  rfl
def updP (F:Int→Option Nat)(k:Int)(v:Nat):Int→Option Nat:=fun x=>if x=k then some v else F x
def delP (F:Int→Option Nat)(k:Int):Int→Option Nat:=fun x=>if x=k then none else F x
theorem MF.put (h:MF X b n F)(hn:n≤1000000){v:Nat}(hx:i64 x):∃Y,(Instr.mapUpdate 85 (.map (some b)) (.int .i64 x) (.pointer (some ⟨v,0,none⟩))).run Tryz.prog X=.ok () Y∧MF Y b (n+1) (updP F x v)∧X.grownBy Y (some b):=by
 obtain⟨D,h,k⟩:=h;obtain⟨Y,hrun,hY,hg⟩:=h.update lawI Tryz.underlying85 (by unfold maxLen;omega) (keyOf_int_mk Tryz.underlying3 hx) (ptrElem_mk v);refine⟨Y,hrun,⟨_,hY,fun y hy=>?_⟩,hg⟩;unfold updP;by_cases e:y=x
 ·subst e;rw[if_pos rfl];refine⟨has_put_same h.isMap (keyLit _) _,fun u hu z=>?_⟩;obtain rfl:v=u:=by simpa using hu
  exact atKey_put_same h.isMap (keyLit _) _ z
 ·have ne:Lit.int .i64 y≠Lit.int .i64 x:=fun h=>by injection h with _ h;exact e h
  rw[if_neg e,has_put_other ne];exact⟨(k y hy).1,fun u hu z=>by rw[atKey_put_other ne];exact(k y hy).2 u hu z⟩
theorem MF.drop (h:MF X b n F)(hx:i64 x)(ty:TypeId):∃Y,(Builtin.delete_ #[85,3] ty #[.map (some b),.int .i64 x]).run Tryz.prog X=.ok (.tuple #[]) Y∧MF Y b n (delP F x)∧X.grownBy Y (some b):=by
 obtain⟨D,h,k⟩:=h;obtain⟨Y,hrun,hY,hg⟩:=h.drop lawI Tryz.underlying85 (keyOf_int_mk Tryz.underlying3 hx) ty;refine⟨Y,hrun,⟨_,hY,fun y hy=>?_⟩,hg.grown⟩;unfold delP;by_cases e:y=x
 ·subst e;rw[if_pos rfl];exact⟨has_del_same,fun u hu z=>by cases hu⟩
 ·have ne:Lit.int .i64 y≠Lit.int .i64 x:=fun h=>by injection h with _ h;exact e h
  rw[if_neg e,has_del_other ne];exact⟨(k y hy).1,fun u hu z=>by rw[atKey_del_other ne];exact(k y hy).2 u hu z⟩
def MU (X:World)(b n:Nat)(F:Int→Bool):Prop:=∃D:DataW Unit,X.ownsMap Tryz.prog 3 unitElem b n D∧∀x,i64 x→Maps.has D (.int .i64 x)=F x
theorem MU.lt {F:Int→Bool}(h:MU X b n F):b<X.heap.size:=by obtain⟨D,h,-⟩:=h;exact h.lt
theorem MU.mono {F:Int→Bool}(h:MU X b n F)(hn:n≤m):MU X b m F:=by obtain⟨D,h,k⟩:=h;exact⟨D,h.mono hn,k⟩
theorem MU.keep {F:Int→Bool}(h:MU X b n F)(e:Y.heap[b]?=X.heap[b]?):MU Y b n F:=by
 obtain⟨D,⟨es,clock,hb,r⟩,k⟩:=h;exact⟨D,⟨es,clock,e.trans hb,r⟩,k⟩
theorem MU.isMap {F:Int→Bool}(h:MU X b n F):∃es clock,X.heap[b]?=some (.map es clock):=by
 obtain⟨D,⟨es,clock,hb,r⟩,k⟩:=h;exact⟨es,clock,hb⟩
theorem MU.far {F:Int→Bool}(h:MU X b n F)(T:TypeId→Bool):farT T X b:=fun cur e fz he=>by
 obtain⟨es,clock,hb⟩:=h.isMap;rw[hb] at he;cases he
def updU (F:Int→Bool)(k:Int):Int→Bool:=fun x=>if x=k then true else F x
theorem MU.put {F:Int→Bool}(h:MU X b n F)(hn:n≤1000000)(hx:i64 x):∃Y,(Instr.mapUpdate 86 (.map (some b)) (.int .i64 x) (.agg #[])).run Tryz.prog X=.ok () Y∧MU Y b (n+1) (updU F x)∧X.grownBy Y (some b):=by
 obtain⟨D,h,k⟩:=h;obtain⟨Y,hrun,hY,hg⟩:=h.update lawI Tryz.underlying86 (by unfold maxLen;omega) (keyOf_int_mk Tryz.underlying3 hx) unitElem_mk;refine⟨Y,hrun,⟨_,hY,fun y hy=>?_⟩,hg⟩;unfold updU;by_cases e:y=x
 ·subst e;rw[if_pos rfl];exact has_put_same h.isMap (keyLit _) _
 ·have ne:Lit.int .i64 y≠Lit.int .i64 x:=fun h=>by injection h with _ h;exact e h
  rw[if_neg e,has_put_other ne];exact k y hy
theorem nodup_len:∀{ks l:List Int},ks.Nodup→(∀x∈ks,x∈l)→ks.length≤l.length
 | [],_,_,_=>Nat.zero_le _
 | x :: r, l, hn, hs => by
  obtain⟨h1,h2⟩:=List.nodup_cons.1 hn;have hx:=hs x (List.mem_cons_self ..);have:=nodup_len (ks:=r) (l:=l.erase x) h2 (fun y hy=>(List.mem_erase_of_ne (fun(e:y=x)=>h1 (by rw[←e];exact hy))).2 (hs y (List.mem_cons_of_mem _ hy)));rw[List.length_erase_of_mem hx] at this;have hp:0<l.length:=List.length_pos_of_mem hx;simp;omega
theorem MI.small {F:Int→Option Int}(h:MI X b n F)(hF:∀x,(F x).isSome=true→0≤x∧x<k):MI X b k F:=by
 obtain⟨D,h,hk⟩:=h;obtain⟨ks,h1,h2,h3,h4,h5⟩:=own_keys h;refine⟨D,h2.mono ?_,hk⟩;have:=nodup_len (ks:=ks) (l:=(List.range k).map (fun n:Nat=>(n:Int))) h1 (fun x hx=>by
  have i:=h5 x hx;have:=hF x (by rw[←(hk x i).1];exact(h4 x i).2 hx);rw[List.mem_map];exact⟨x.toNat,List.mem_range.2 (by omega),by omega⟩)
 simpa using this
theorem MU.small {F:Int→Bool}(h:MU X b n F)(k:Nat)(hF:∀x,F x=true→0≤x∧x<k):MU X b k F:=by
 obtain⟨D,h,hk⟩:=h;obtain⟨ks,h1,h2,h3,h4,h5⟩:=own_keys h;refine⟨D,h2.mono ?_,hk⟩;have:=nodup_len (ks:=ks) (l:=(List.range k).map (fun n:Nat=>(n:Int))) h1 (fun x hx=>by
  have i:=h5 x hx;have:=hF x (by rw[←hk x i];exact(h4 x i).2 hx);rw[List.mem_map];exact⟨x.toNat,List.mem_range.2 (by omega),by omega⟩)
 simpa using this
theorem MF.small (h:MF X b n F)(l:List Int)(hF:∀x,(F x).isSome=true→x∈l):MF X b l.length F:=by
 obtain⟨D,h,hk⟩:=h;obtain⟨ks,h1,h2,h3,h4,h5⟩:=own_keys h;exact⟨D,h2.mono (nodup_len h1 (fun x hx=>hF x (by rw[←(hk x (h5 x hx)).1];exact(h4 x (h5 x hx)).2 hx))),hk⟩
structure FrP where
 blk:Nat
 text:ByteArray
 dirty:Bool
structure PS where
 most:Nat
 pages:Nat
 free:Nat
 fs:Int→Option FrP
 order:List Int
 chg:Int→Bool
 hits:Int
 misses:Int
 spills:Int
def isDr (P:PS)(n:Int):Bool:=match P.fs n with | some f=>f.dirty | none=>false
def dct (P:PS):Nat:=P.order.countP (isDr P)
abbrev Pgs:=Int→Option ByteArray
structure PI (P:PS) (L:LS) (S:DS) (C K N:Pgs) (pk m:Nat):Prop where
 inv:∃j k,Inv L S K N j∧j+dct P≤m∧okS S k∧k+dct P≤4*m+20
 nd:P.order.Nodup
 keys:∀n,n∈P.order↔(P.fs n).isSome=true
 rng:∀n∈P.order,0≤n∧n<P.pages
 most:P.order.length≤P.most∧8≤P.most∧P.most≤64
 pg:1≤pk∧pk≤P.pages∧P.pages≤59000
 last:L.last.pages=pk
 cur:∀n:Int,0≤n→n<P.pages→∃t,C n=some t∧t.size=1024∧(∀f,P.fs n=some f→f.text=t)∧(P.fs n=none→N n=some t)
 clean:∀n f,P.fs n=some f→f.dirty=false→N n=some f.text
 chg:∀n:Int,P.chg n=false→0≤n→n<P.pages→n<pk∧N n=K n∧∀f,P.fs n=some f→f.dirty=false
 chr:∀n,P.chg n=true→0≤n∧n<P.pages
 kd:∀n:Int,0≤n→n<pk→∃t,K n=some t∧t.size=1024
theorem cnt_off {p:Int→Bool}(hp:p x=true):∀{l:List Int},l.Nodup→x∈l→l.countP (fun n=>if n=x then false else p n)+1=l.countP p
 | a :: r, hn, hx => by
  obtain⟨h1,h2⟩:=List.nodup_cons.1 hn;by_cases e:a=x
  ·subst e;have:r.countP (fun n=>if n=a then false else p n)=r.countP p:=List.countP_congr fun y hy=>by
    have:¬y=a:=fun e=>h1 (e ▸ hy)
    simp[this]
   rw[List.countP_cons,List.countP_cons,this,if_pos hp,if_neg (by simp)]
  ·have hx':x∈r:=(List.mem_cons.1 hx).resolve_left (fun h=>e h.symm);have:=cnt_off hp h2 hx';rw[List.countP_cons,List.countP_cons];simp only[if_neg e];omega
theorem cnt_on {x:Int}{p:Int→Bool}:∀{l:List Int},l.Nodup→l.countP (fun n=>if n=x then true else p n)≤l.countP p+1
 | [],_=>by simp
 | a :: r, hn => by
  obtain⟨h1,h2⟩:=List.nodup_cons.1 hn;by_cases e:a=x
  ·subst e;have:r.countP (fun n=>if n=a then true else p n)=r.countP p:=List.countP_congr fun y hy=>by
    have:¬y=a:=fun e=>h1 (e ▸ hy)
    simp[this]
   rw[List.countP_cons,List.countP_cons,this];simp
  ·have:=cnt_on (x:=x) (p:=p) h2;rw[List.countP_cons,List.countP_cons];simp only[if_neg e];omega
def updR (F:Int→Option FrP)(k:Int)(f:FrP):Int→Option FrP:=fun x=>if x=k then some f else F x
def delR (F:Int→Option FrP)(k:Int):Int→Option FrP:=fun x=>if x=k then none else F x
theorem updR_at (F:Int→Option FrP)(k:Int)(f:FrP):updR F k f k=some f:=if_pos rfl
theorem updR_ne (F:Int→Option FrP){k:Int}(f:FrP)(h:¬x=k):updR F k f x=F x:=if_neg h
theorem delR_at (F:Int→Option FrP)(k:Int):delR F k k=none:=if_pos rfl
theorem delR_ne (F:Int→Option FrP){k:Int}(h:¬x=k):delR F k x=F x:=if_neg h
theorem wth_at (F:Pgs)(n:Int)(s:ByteArray):wth F n s n=some s:=if_pos rfl
theorem wth_ne (F:Pgs){n:Int}(s:ByteArray)(h:¬x=n):wth F n s x=F x:=if_neg h
theorem PI.held {P:PS}{C K N:Pgs}{pk:Nat}(h:PI P L S C K N pk m){n:Int}{f:FrP}(hf:P.fs n=some f):n∈P.order∧0≤n∧n<P.pages∧C n=some f.text∧f.text.size=1024:=by
 have h1:n∈P.order:=(h.keys n).2 (by rw[hf];rfl);have h2:=h.rng n h1;obtain⟨t,c1,c2,c3,c4⟩:=h.cur n h2.1 h2.2;have:=c3 f hf;subst this;exact⟨h1,h2.1,h2.2,c1,c2⟩
theorem PI.down {P:PS}{C K N:Pgs}{pk:Nat}(h:PI P L S C K N pk m):PI P L { S with down:=true } C K N pk m:=by
 obtain⟨j,k,h1,h2,h3,h4⟩:=h.inv;exact⟨⟨j,k,h1.same rfl rfl,h2,h3,h4⟩,h.nd,h.keys,h.rng,h.most,h.pg,h.last,h.cur,h.clean,h.chg,h.chr,h.kd⟩
theorem PI.mono {P:PS}{C K N:Pgs}{pk m':Nat}(h:PI P L S C K N pk m)(hm:m≤m'):PI P L S C K N pk m':=by
 obtain⟨j,k,h1,h2,h3,h4⟩:=h.inv;exact⟨⟨j,k,h1,by omega,h3,by omega⟩,h.nd,h.keys,h.rng,h.most,h.pg,h.last,h.cur,h.clean,h.chg,h.chr,h.kd⟩
theorem PI.stat {P:PS}{C K N:Pgs}{pk:Nat}(h:PI P L S C K N pk m)(a b c:Int)(fr:Nat):PI { P with hits:=a,misses:=b,spills:=c,free:=fr } L S C K N pk m:=
 ⟨h.inv,h.nd,h.keys,h.rng,h.most,h.pg,h.last,h.cur,h.clean,h.chg,h.chr,h.kd⟩
theorem PI.perm {P:PS}{C K N:Pgs}{pk:Nat}(h:PI P L S C K N pk m)(hp:l.Perm P.order):PI { P with order:=l } L S C K N pk m:=by
 have hd:dct { P with order:=l }=dct P:=hp.countP_eq _;refine⟨by rw[hd];exact h.inv,hp.nodup_iff.2 h.nd,fun n=>(hp.mem_iff).trans (h.keys n),fun n hn=>h.rng n (hp.mem_iff.1 hn),by show l.length≤_∧_;rw[hp.length_eq];exact h.most,h.pg,h.last,h.cur,h.clean,h.chg,h.chr,h.kd⟩
theorem PI.logged {P:PS}{C K N:Pgs}{pk:Nat}(h:PI P L S C K N pk m){f:FrP}(hf:P.fs x=some f)(hd:f.dirty=true)(hl:L'.last=L.last)(hI:∀j,Inv L S K N j→j≤m→Inv L' S' K (wth N x f.text) (j+1))(hk:∀k,okS S k→okS S' (k+1)):PI { P with fs:=updR P.fs x { f with dirty:=false }} L' S' C K (wth N x f.text) pk m:=by
 obtain⟨j,k,h1,h2,h3,h4⟩:=h.inv;obtain⟨g1,g2,g3,g4,g5⟩:=h.held hf;have hc:dct { P with fs:=updR P.fs x { f with dirty:=false }}+1=dct P:=by
  unfold dct;rw[←cnt_off (x:=x) (p:=isDr P) (by unfold isDr;rw[hf];exact hd) h.nd g1]
  congr 1
  refine List.countP_congr fun y _=>?_
  unfold isDr;by_cases e:y=x
  ·subst e;simp[updR]
  ·simp[updR,e]
 refine⟨⟨j+1,k+1,hI j h1 (by omega),by omega,hk k h3,by omega⟩,h.nd,fun n=>?_,h.rng,h.most,h.pg,by rw[hl];exact h.last,fun n n0 n1=>?_,fun n f' hf' hd'=>?_,fun n hn n0 n1=>?_,h.chr,h.kd⟩
 ·show _↔(updR P.fs x _ n).isSome=true;by_cases e:n=x
  ·subst e;rw[updR_at];exact⟨fun _=>rfl,fun _=>g1⟩
  ·rw[updR_ne _ _ e];exact h.keys n
 ·obtain⟨t,c1,c2,c3,c4⟩:=h.cur n n0 n1;refine⟨t,c1,c2,?_,?_⟩
  ·intro f' hf';have hf':updR P.fs x { f with dirty:=false } n=some f':=hf';by_cases e:n=x
   ·subst e;rw[updR_at] at hf';injection hf' with hf';rw[←hf'];exact c3 f hf
   ·rw[updR_ne _ _ e] at hf';exact c3 f' hf'
  ·intro hn;have hn:updR P.fs x { f with dirty:=false } n=none:=hn;by_cases e:n=x
   ·subst e;rw[updR_at] at hn;cases hn
   ·rw[updR_ne _ _ e] at hn;rw[wth_ne _ _ e];exact c4 hn
 ·have hf':updR P.fs x { f with dirty:=false } n=some f':=hf';by_cases e:n=x
  ·subst e;rw[updR_at] at hf';injection hf' with hf';rw[wth_at,←hf']
  ·rw[updR_ne _ _ e] at hf';rw[wth_ne _ _ e];exact h.clean n f' hf' hd'
 ·obtain⟨a1,a2,a3⟩:=h.chg n hn n0 n1;have e:¬n=x:=fun e=>by
   subst e;have:=a3 f hf;rw[hd] at this;cases this
  refine⟨a1,by rw[wth_ne _ _ e];exact a2,fun f' hf'=>?_⟩;have hf':updR P.fs x { f with dirty:=false } n=some f':=hf';rw[updR_ne _ _ e] at hf';exact a3 f' hf'
theorem PI.gone {P:PS}{C K N:Pgs}{pk:Nat}(h:PI P L S C K N pk m){r:List Int}{f:FrP}(ho:P.order=x::r)(hf:P.fs x=some f)(hd:f.dirty=false):PI { P with fs:=delR P.fs x,order:=r } L S C K N pk m:=by
 obtain⟨j,k,h1,h2,h3,h4⟩:=h.inv;have hnd:=h.nd;rw[ho,List.nodup_cons] at hnd;have hc:dct { P with fs:=delR P.fs x,order:=r }≤dct P:=by
  unfold dct;rw[ho,List.countP_cons];have:r.countP (isDr { P with fs:=delR P.fs x,order:=r })=r.countP (isDr P):=List.countP_congr fun y hy=>by
   have:¬y=x:=fun e=>hnd.1 (e ▸ hy)
   unfold isDr;simp[delR,this]
  show r.countP _≤_;rw[this];omega
 have hl:=h.most;rw[ho] at hl;refine⟨⟨j,k,h1,by omega,h3,by omega⟩,hnd.2,fun n=>?_,fun n hn=>h.rng n (by rw[ho];exact List.mem_cons_of_mem _ hn),⟨Nat.le_trans (by simp) hl.1,hl.2⟩,h.pg,h.last,fun n n0 n1=>?_,fun n f' hf' hd'=>?_,fun n hn n0 n1=>?_,h.chr,h.kd⟩
 ·show n∈r↔(delR P.fs x n).isSome=true;by_cases e:n=x
  ·subst e;rw[delR_at];exact⟨fun k=>absurd k hnd.1,fun k=>by cases k⟩
  ·rw[delR_ne _ e,←h.keys n,ho];exact⟨fun k=>List.mem_cons_of_mem _ k,fun k=>(List.mem_cons.1 k).resolve_left e⟩
 ·obtain⟨t,c1,c2,c3,c4⟩:=h.cur n n0 n1;refine⟨t,c1,c2,?_,?_⟩
  ·intro f' hf';have hf':delR P.fs x n=some f':=hf';by_cases e:n=x
   ·subst e;rw[delR_at] at hf';cases hf'
   ·rw[delR_ne _ e] at hf';exact c3 f' hf'
  ·intro hn;have hn:delR P.fs x n=none:=hn;by_cases e:n=x
   ·subst e;rw[←c3 f hf];exact h.clean n f hf hd
   ·rw[delR_ne _ e] at hn;exact c4 hn
 ·have hf':delR P.fs x n=some f':=hf';by_cases e:n=x
  ·subst e;rw[delR_at] at hf';cases hf'
  ·rw[delR_ne _ e] at hf';exact h.clean n f' hf' hd'
 ·obtain⟨a1,a2,a3⟩:=h.chg n hn n0 n1;refine⟨a1,a2,fun f' hf'=>?_⟩;have hf':delR P.fs x n=some f':=hf';by_cases e:n=x
  ·subst e;rw[delR_at] at hf';cases hf'
  ·rw[delR_ne _ e] at hf';exact a3 f' hf'
theorem PI.hold {P:PS}{C K N:Pgs}{pk:Nat}(h:PI P L S C K N pk m){n:Int}{t:ByteArray}(b:Nat)(n0:0≤n)(n1:n<P.pages)(hn:P.fs n=none)(ht:C n=some t)(hl:P.order.length<P.most):PI { P with fs:=updR P.fs n ⟨b,t,false⟩,order:=P.order++[n]} L S C K N pk m:=by
 obtain⟨j,k,h1,h2,h3,h4⟩:=h.inv;have hni:¬n∈P.order:=fun k=>by have:=(h.keys n).1 k;rw[hn] at this;cases this
 have hN:N n=some t:=by
  obtain⟨t',c1,c2,c3,c4⟩:=h.cur n n0 n1;rw[ht] at c1;injection c1 with c1;subst c1;exact c4 hn
 have hc:dct { P with fs:=updR P.fs n ⟨b,t,false⟩,order:=P.order++[n]}=dct P:=by
  unfold dct;show(P.order++[n]).countP _=_;rw[List.countP_append];have e1:P.order.countP (isDr { P with fs:=updR P.fs n ⟨b,t,false⟩,order:=P.order++[n]})=P.order.countP (isDr P):=List.countP_congr fun y hy=>by
   have:¬y=n:=fun e=>hni (e ▸ hy)
   unfold isDr;simp[updR,this]
  rw[e1];simp[isDr,updR]
 refine⟨by rw[hc];exact⟨j,k,h1,h2,h3,h4⟩,?_,fun x=>?_,fun x hx=>?_,⟨by show(P.order++[n]).length≤_;simp;omega,h.most.2⟩,h.pg,h.last,fun x x0 x1=>?_,fun x f' hf' hd'=>?_,fun x hx x0 x1=>?_,h.chr,h.kd⟩
 ·show(P.order++[n]).Nodup;rw[List.nodup_append];exact⟨h.nd,by simp,fun a ha b hb e=>by simp at hb;subst hb;subst e;exact hni ha⟩
 ·show x∈P.order++[n]↔(updR P.fs n _ x).isSome=true;by_cases e:x=n
  ·subst e;rw[updR_at];simp
  ·rw[updR_ne _ _ e,←h.keys x];simp[e]
 ·rcases List.mem_append.1 hx with hx|hx
  ·exact h.rng x hx
  ·obtain rfl:=List.mem_singleton.1 hx;exact⟨n0,n1⟩
 ·obtain⟨t',c1,c2,c3,c4⟩:=h.cur x x0 x1;refine⟨t',c1,c2,?_,?_⟩
  ·intro f' hf';have hf':updR P.fs n ⟨b,t,false⟩ x=some f':=hf';by_cases e:x=n
   ·subst e;rw[updR_at] at hf';injection hf' with hf';rw[←hf'];rw[ht] at c1;injection c1
   ·rw[updR_ne _ _ e] at hf';exact c3 f' hf'
  ·intro hn';have hn':updR P.fs n ⟨b,t,false⟩ x=none:=hn';by_cases e:x=n
   ·subst e;rw[updR_at] at hn';cases hn'
   ·rw[updR_ne _ _ e] at hn';exact c4 hn'
 ·have hf':updR P.fs n ⟨b,t,false⟩ x=some f':=hf';by_cases e:x=n
  ·subst e;rw[updR_at] at hf';injection hf' with hf';rw[←hf'];exact hN
  ·rw[updR_ne _ _ e] at hf';exact h.clean x f' hf' hd'
 ·obtain⟨a1,a2,a3⟩:=h.chg x hx x0 x1;refine⟨a1,a2,fun f' hf'=>?_⟩;have hf':updR P.fs n ⟨b,t,false⟩ x=some f':=hf';by_cases e:x=n
  ·subst e;rw[updR_at] at hf';injection hf' with hf';rw[←hf']
  ·rw[updR_ne _ _ e] at hf';exact a3 f' hf'
def chP (P:PS)(n:Int)(b:Nat)(s:ByteArray):PS:={ P with fs:=updR P.fs n ⟨b,s,true⟩,chg:=updU P.chg n }
theorem PI.change {P:PS}{C K N:Pgs}{pk:Nat}(h:PI P L S C K N pk m){n:Int}{f:FrP}(hf:P.fs n=some f)(hs:s.size=1024):PI (chP P n f.blk s) L S (wth C n s) K N pk (m+1):=by
 obtain⟨j,k,h1,h2,h3,h4⟩:=h.inv;obtain⟨g1,g2,g3,g4,g5⟩:=h.held hf;have hc:dct (chP P n f.blk s)≤dct P+1:=by
  unfold dct;refine Nat.le_trans (Nat.le_of_eq ?_) (cnt_on (x:=n) (p:=isDr P) h.nd);show P.order.countP _=_;refine List.countP_congr fun y _=>?_
  unfold isDr chP;by_cases e:y=n
  ·subst e;simp[updR]
  ·simp[updR,e]
 have up:∀{x:Int},(chP P n f.blk s).fs x=if x=n then some ⟨f.blk,s,true⟩ else P.fs x:=rfl;refine⟨⟨j,k,h1,by omega,h3,by omega⟩,h.nd,fun x=>?_,h.rng,h.most,h.pg,h.last,fun x x0 x1=>?_,fun x f' hf' hd'=>?_,fun x hx x0 x1=>?_,fun x hx=>?_,h.kd⟩
 ·rw[up];by_cases e:x=n
  ·subst e;rw[if_pos rfl];exact⟨fun _=>rfl,fun _=>g1⟩
  ·rw[if_neg e];exact h.keys x
 ·by_cases e:x=n
  ·subst e;refine⟨s,wth_at _ _ _,hs,fun f' hf'=>?_,fun hn=>?_⟩
   ·rw[up,if_pos rfl] at hf';injection hf' with hf';rw[←hf']
   ·rw[up,if_pos rfl] at hn;cases hn
  ·obtain⟨t',c1,c2,c3,c4⟩:=h.cur x x0 x1;exact⟨t',by rw[wth_ne _ _ e];exact c1,c2,fun f' hf'=>by rw[up,if_neg e] at hf';exact c3 f' hf',fun hn=>by rw[up,if_neg e] at hn;exact c4 hn⟩
 ·rw[up] at hf';by_cases e:x=n
  ·rw[if_pos e] at hf';injection hf' with hf';rw[←hf'] at hd';cases hd'
  ·rw[if_neg e] at hf';exact h.clean x f' hf' hd'
 ·have hx:(if x=n then true else P.chg x)=false:=hx;by_cases e:x=n
  ·rw[if_pos e] at hx;cases hx
  ·rw[if_neg e] at hx;obtain⟨a1,a2,a3⟩:=h.chg x hx x0 x1;exact⟨a1,a2,fun f' hf'=>by rw[up,if_neg e] at hf';exact a3 f' hf'⟩
 ·have hx:(if x=n then true else P.chg x)=true:=hx;by_cases e:x=n
  ·subst e;exact⟨g2,g3⟩
  ·rw[if_neg e] at hx;exact h.chr x hx
theorem PI.grow {P:PS}{C K N:Pgs}{pk:Nat}(h:PI P L S C K N pk m)(b:Nat)(hs:s.size=1024)(hl:P.order.length<P.most)(hp:P.pages<59000):PI { P with pages:=P.pages+1,fs:=updR P.fs P.pages ⟨b,s,true⟩,order:=P.order++[(P.pages:Int)],chg:=updU P.chg P.pages } L S (wth C P.pages s) K N pk (m+1):=by
 obtain⟨j,k,h1,h2,h3,h4⟩:=h.inv;have hni:¬(P.pages:Int)∈P.order:=fun k=>by have:=(h.rng _ k).2;omega
 have hpg:=h.pg;obtain⟨Q,hQ⟩:∃Q:PS,Q={ P with pages:=P.pages+1,fs:=updR P.fs P.pages ⟨b,s,true⟩,order:=P.order++[(P.pages:Int)],chg:=updU P.chg P.pages }:=⟨_,rfl⟩;have q1:Q.pages=P.pages+1:=by rw[hQ]
 have q2:∀x,Q.fs x=if x=(P.pages:Int) then some ⟨b,s,true⟩ else P.fs x:=fun x=>by rw[hQ];rfl
 have q3:Q.order=P.order++[(P.pages:Int)]:=by rw[hQ]
 have q4:∀x,Q.chg x=if x=(P.pages:Int) then true else P.chg x:=fun x=>by rw[hQ];rfl
 have q5:Q.most=P.most:=by rw[hQ]
 rw[←hQ];clear hQ;have hc:dct Q≤dct P+1:=by
  unfold dct;rw[q3,List.countP_append];have e1:P.order.countP (isDr Q)=P.order.countP (isDr P):=List.countP_congr fun y hy=>by
   have:¬y=(P.pages:Int):=fun e=>hni (e ▸ hy)
   unfold isDr;rw[q2,if_neg this]
  rw[e1];have:=List.countP_le_length (l:=[(P.pages:Int)]) (p:=isDr Q);simp at this ⊢;omega
 refine⟨⟨j,k,h1,by omega,h3,by omega⟩,?_,fun x=>?_,fun x hx=>?_,⟨by rw[q3,q5];simp;omega,by rw[q5];exact h.most.2⟩,⟨hpg.1,by omega,by omega⟩,h.last,fun x x0 x1=>?_,fun x f' hf' hd'=>?_,fun x hx x0 x1=>?_,fun x hx=>?_,h.kd⟩
 ·rw[q3,List.nodup_append];exact⟨h.nd,by simp,fun a ha b hb e=>by simp at hb;subst hb;subst e;exact hni ha⟩
 ·rw[q2,q3];by_cases e:x=(P.pages:Int)
  ·rw[if_pos e];simp[e]
  ·rw[if_neg e,←h.keys x];simp[e]
 ·rw[q3] at hx;rw[q1];rcases List.mem_append.1 hx with hx | hx
  ·have:=h.rng x hx;omega
  ·obtain rfl:=List.mem_singleton.1 hx;omega
 ·by_cases e:x=(P.pages:Int)
  ·subst e;refine⟨s,wth_at _ _ _,hs,fun f' hf'=>?_,fun hn=>?_⟩
   ·rw[q2,if_pos rfl] at hf';injection hf' with hf';rw[←hf']
   ·rw[q2,if_pos rfl] at hn;cases hn
  ·obtain⟨t',c1,c2,c3,c4⟩:=h.cur x x0 (by omega);exact⟨t',by rw[wth_ne _ _ e];exact c1,c2,fun f' hf'=>by rw[q2,if_neg e] at hf';exact c3 f' hf',fun hn=>by rw[q2,if_neg e] at hn;exact c4 hn⟩
 ·rw[q2] at hf';by_cases e:x=(P.pages:Int)
  ·rw[if_pos e] at hf';injection hf' with hf';rw[←hf'] at hd';cases hd'
  ·rw[if_neg e] at hf';exact h.clean x f' hf' hd'
 ·rw[q4] at hx;by_cases e:x=(P.pages:Int)
  ·rw[if_pos e] at hx;cases hx
  ·rw[if_neg e] at hx;obtain⟨a1,a2,a3⟩:=h.chg x hx x0 (by omega);exact⟨a1,a2,fun f' hf'=>by rw[q2,if_neg e] at hf';exact a3 f' hf'⟩
 ·rw[q4] at hx;by_cases e:x=(P.pages:Int)
  ·subst e;omega
  ·rw[if_neg e] at hx;have:=h.chr x hx;omega
theorem PL.small (h:PL X B D G bp bf n L S)(hp:∀x,(L.pl x).isSome=true→0≤x∧x<k)(hf:∀x,(L.fh x).isSome=true→0≤x∧x<k):PL X B D G bp bf k L S:=
 ⟨h.blk,h.low,h.dif,h.mp.small hp,h.mf.small hf,h.dsk⟩
structure Bk where
 G:Nat
 bp:Nat
 bf:Nat
 bF:Nat
 bC:Nat
 vo:Value
def Bk.M (b:Bk):List Nat:=b.bp::b.bf::b.bF::b.bC::b.vo.ownBlock.toList
def poolC (b:Bk)(P:PS):Array Value:=#[(.pointer (some ⟨b.G,0,none⟩)),.int .i64 P.most,.int .i64 P.pages,.int .i64 P.free,.map (some b.bF),b.vo,.map (some b.bC),.int .i64 P.hits,.int .i64 P.misses,.int .i64 P.spills]
def frC (f:FrP):Array Value:=#[.string f.text,.int .i64 0,.bool f.dirty]
structure PP (X:World) (B D Gp:Nat) (b:Bk) (P:PS) (L:LS) (S:DS):Prop where
 blk:X.heap[Gp]?=some (.cells (poolC b P) 90 (0,0))
 log:PL X B D b.G b.bp b.bf 60000 L S
 fmap:MF X b.bF 65 (fun n=>(P.fs n).map (·.blk))
 chm:MU X b.bC 60000 P.chg
 frs:∀n f,P.fs n=some f→X.heap[f.blk]?=some (.cells (frC f) 103 (0,0))∧B≤f.blk
 inj:∀n n' f f',P.fs n=some f→P.fs n'=some f'→f.blk=f'.blk→n=n'
 ord:X.ownsRow B 3 1 b.vo P.order.length (P.order.map (Value.int .i64))
 low:B≤Gp∧B≤b.bF∧B≤b.bC
 dif:¬b.bF=b.bC∧¬b.bF=b.bp∧¬b.bF=b.bf∧¬b.bC=b.bp∧¬b.bC=b.bf
def tyQ (t:TypeId):Bool:=tyP t || decide (t=127) || decide (t=90) || decide (t=103) || decide (t=3)
def tyF (t:TypeId):Bool:=tyP t || decide (t=127) || decide (t=90) || decide (t=103)
theorem tyF_of (h:tyQ t=false):tyF t=false:=by
 unfold tyQ at h;simp only[Bool.or_eq_false_iff] at h;unfold tyF;simp only[Bool.or_eq_false_iff];exact h.1
structure BelP (M M':List Nat) (B:Nat) (X Y:World):Prop extends Below B X Y where
 far:∀b,b<X.heap.size→farT tyF X b→¬b∈M→Y.heap[b]?=X.heap[b]?
 maps:∀b∈M',b∈M∨X.heap.size≤b
 u:KpU B X Y
theorem BelP.refl (M:List Nat)(B:Nat)(X:World):BelP M M B X X:=⟨Below.refl _ _,fun _ _ _ _=>rfl,fun _ h=>.inl h,KpU.refl _ _⟩
theorem BelP.trans {M M'':List Nat}(h:BelP M M' B X Y)(k:BelP M' M'' B Y Z):BelP M M'' B X Z:=
 ⟨h.toBelow.trans k.toBelow,fun b hb hf hm=>by
  have e:=h.far b hb hf hm;have hm':¬b∈M':=fun hb'=>(h.maps b hb').elim hm (fun k=>by omega)
  exact(k.far b (Nat.lt_of_lt_of_le hb h.size) (hf.of e) hm').trans e,fun b hb=>(k.maps b hb).elim (fun h1=>h.maps b h1) (fun h1=>.inr (Nat.le_trans h.size h1)),h.u.trans k.u h.size⟩
theorem farQ (h:farT tyF X b):farT tyP X b:=fun cur e fz he=>by
 have:=h cur e fz he;unfold tyF at this;simp only[Bool.or_eq_false_iff] at this;exact this.1.1.1
theorem nfar (h:X.heap[b]?=some (.cells cs t (0,0)))(ht:tyF t=true):¬farT tyF X b:=fun hf=>by
 have:=hf cs t (0,0) h;rw[ht] at this;cases this
theorem PP.lt {b:Bk}{P:PS}(h:PP X B D Gp b P L S):Gp<X.heap.size:=(Array.getElem?_eq_some_iff.1 h.blk).1
theorem PP.farG {b:Bk}{P:PS}(h:PP X B D Gp b P L S):farT tyP X Gp:=far_of h.blk (by decide)
theorem PP.cells {b:Bk}{P:PS}(h:PP X B D Gp b P L S):X.cell? ⟨Gp,0,none⟩=some (.pointer (some ⟨b.G,0,none⟩))∧X.cell? ⟨Gp,1,none⟩=some (.int .i64 P.most)∧X.cell? ⟨Gp,2,none⟩=some (.int .i64 P.pages)∧X.cell? ⟨Gp,3,none⟩=some (.int .i64 P.free)∧X.cell? ⟨Gp,4,none⟩=some (.map (some b.bF))∧X.cell? ⟨Gp,5,none⟩=some b.vo∧X.cell? ⟨Gp,6,none⟩=some (.map (some b.bC))∧X.cell? ⟨Gp,7,none⟩=some (.int .i64 P.hits)∧X.cell? ⟨Gp,8,none⟩=some (.int .i64 P.misses)∧X.cell? ⟨Gp,9,none⟩=some (.int .i64 P.spills):=by
 refine⟨?_,?_,?_,?_,?_,?_,?_,?_,?_,?_⟩<;>simp[World.cell?,h.blk,poolC]
theorem PP.unfrozen {b:Bk}{P:PS}(h:PP X B D Gp b P L S)(k:Nat):X.frozen? ⟨Gp,k,none⟩=false:=by simp[World.frozen?,h.blk]
theorem PP.fcells {b:Bk}{P:PS}(h:PP X B D Gp b P L S){n:Int}{f:FrP}(hf:P.fs n=some f):X.cell? ⟨f.blk,0,none⟩=some (.string f.text)∧X.cell? ⟨f.blk,1,none⟩=some (.int .i64 0)∧X.cell? ⟨f.blk,2,none⟩=some (.bool f.dirty)∧X.frozen? ⟨f.blk,0,none⟩=false∧X.frozen? ⟨f.blk,2,none⟩=false∧f.blk<X.heap.size:=by
 have hb:=(h.frs n f hf).1;refine⟨?_,?_,?_,?_,?_,(Array.getElem?_eq_some_iff.1 hb).1⟩
 ·simp[World.cell?,hb,frC]
 ·simp[World.cell?,hb,frC]
 ·simp[World.cell?,hb,frC]
 ·simp[World.frozen?,hb]
 ·simp[World.frozen?,hb]
theorem PP.rowblk {b:Bk}{P:PS}(h:PP X B D Gp b P L S)(hg:b.vo.ownBlock=some g):(∃cur,X.heap[g]?=some (.cells cur 3 (0,0)))∧B≤g∧g<X.heap.size:=by
 have hl:=World.ownsRow.lt h.ord g hg;refine⟨?_,hl⟩;rcases h.ord.2 with⟨e,_⟩ | ⟨g',cap,cur,e,_,hgg,_⟩
 ·rw[e] at hg;cases hg
 ·rw[e] at hg;injection hg with hg;have hg:g'=g:=hg;subst hg;exact⟨cur,hgg⟩
theorem PP.below {b:Bk}{P:PS}(h:PP X B D Gp b P L S)(hb:Below X.heap.size X Y):PP Y B D Gp b P L S:=
 ⟨(hb.block _ h.lt).trans h.blk,h.log.below hb,h.fmap.keep (hb.block _ h.fmap.lt),h.chm.keep (hb.block _ h.chm.lt),fun n f hf=>⟨(hb.block _ (h.fcells hf).2.2.2.2.2).trans (h.frs n f hf).1,(h.frs n f hf).2⟩,h.inj,row_below h.ord hb,h.low,h.dif⟩
theorem PP.logs {b:Bk}{P:PS}(h:PP X B D Gp b P L S)(hb:BelL b.G b.bp b.bf B X Y)(hl:PL Y B D b.G b.bp b.bf 60000 L' S'):PP Y B D Gp b P L' S':=by
 obtain⟨e1,c1,m1⟩:=h.log.mp.isMap;obtain⟨e2,c2,m2⟩:=h.log.mf.isMap;have k:∀(g:Nat) (cs:Array Value) (t:TypeId),X.heap[g]?=some (.cells cs t (0,0))→tyP t=false→¬t=127→Y.heap[g]?=X.heap[g]?:=fun g cs t hg ht hn=>by
  refine hb.far g (Array.getElem?_eq_some_iff.1 hg).1 (far_of hg ht) (fun e=>?_) (fun e=>?_) (fun e=>?_)
  ·subst e;rw[h.log.blk] at hg;injection hg with hg;injection hg with _ hg _;exact hn hg.symm
  ·subst e;rw[m1] at hg;cases hg
  ·subst e;rw[m2] at hg;cases hg
 obtain⟨e3,c3,m3⟩:=h.fmap.isMap;obtain⟨e4,c4,m4⟩:=h.chm.isMap;have nG:∀{g:Nat} {es:Array MapEntry} {c:Nat},X.heap[g]?=some (.map es c)→¬g=b.G:=fun hg e=>by subst e;rw[h.log.blk] at hg;cases hg
 refine⟨(k Gp _ _ h.blk (by decide) (by decide)).trans h.blk,hl,h.fmap.keep (hb.far _ h.fmap.lt (h.fmap.far _) (nG m3) h.dif.2.1 h.dif.2.2.1),h.chm.keep (hb.far _ h.chm.lt (h.chm.far _) (nG m4) h.dif.2.2.2.1 h.dif.2.2.2.2),fun n f hf=>⟨(k _ _ _ (h.frs n f hf).1 (by decide) (by decide)).trans (h.frs n f hf).1,(h.frs n f hf).2⟩,h.inj,row_keep h.ord fun g hg=>?_,h.low,h.dif⟩;obtain⟨⟨cur,hc⟩,-⟩:=h.rowblk hg;exact k g cur _ hc (by decide) (by decide)
theorem PP.logs_stay {b:Bk}{P:PS}(h:PP X B D Gp b P L S)(hb:BelL b.G b.bp b.bf B X Y)(hg:X.heap[g]?=some (.cells cs t (0,0)))(ht:tyP t=false)(hn:¬t=127):Y.heap[g]?=X.heap[g]?:=by
 obtain⟨e1,c1,m1⟩:=h.log.mp.isMap;obtain⟨e2,c2,m2⟩:=h.log.mf.isMap;refine hb.far g (Array.getElem?_eq_some_iff.1 hg).1 (far_of hg ht) (fun e=>?_) (fun e=>?_) (fun e=>?_)
 ·subst e;rw[h.log.blk] at hg;injection hg with hg;injection hg with _ hg _;exact hn hg.symm
 ·subst e;rw[m1] at hg;cases hg
 ·subst e;rw[m2] at hg;cases hg
def IntS (X Y:World):Prop:=∀(g:Nat) (cs:Array Value),X.heap[g]?=some (.cells cs 3 (0,0))→Y.heap[g]?=X.heap[g]?
theorem PP.belL {b:Bk}{P:PS}(h:PP X B D Gp b P L S)(hb:BelL b.G b.bp b.bf B X Y):BelP b.M b.M B X Y:=
 ⟨hb.toBelow,fun g hg hf hm=>hb.far g hg (farQ hf) (fun e=>by subst e;exact nfar h.log.blk (by decide) hf) (fun e=>hm (by subst e;simp[Bk.M])) (fun e=>hm (by subst e;simp[Bk.M])),fun _ hg=>.inl hg,hb.u⟩
theorem PL.other (h:PL X B D G bp bf n L S)(hg:X.grownBy Y (some c))(hf:farT tyP X c)(h1:¬G=c)(h2:¬bp=c)(h3:¬bf=c):PL Y B D G bp bf n L S:=
 ⟨(hg.block _ h.lt (fun e=>by injection e with e;exact h1 e)).trans h.blk,h.low,h.dif,h.mp.keep (hg.block _ h.mp.lt (fun e=>by injection e with e;exact h2 e)),h.mf.keep (hg.block _ h.mf.lt (fun e=>by injection e with e;exact h3 e)),h.dsk.grown hg hf⟩
def isC (X:World)(c:Nat)(t:TypeId):Prop:=∃cs,X.heap[c]?=some (.cells cs t (0,0))
def isM (X:World)(c:Nat):Prop:=∃es k,X.heap[c]?=some (.map es k)
theorem ne_CM (h:isC X c t)(k:isM X d):¬d=c:=fun e=>by
 subst e;obtain⟨cs,h⟩:=h;obtain⟨es,q,k⟩:=k;rw[h] at k;cases k
theorem ne_CC {u:TypeId}(h:isC X c t)(k:isC X d u)(hn:¬u=t):¬d=c:=fun e=>by
 subst e;obtain⟨cs,h⟩:=h;obtain⟨es,k⟩:=k;rw[h] at k;injection k with k;injection k with _ k _;exact hn k.symm
theorem isC.far (h:isC X c t)(ht:tyP t=false):farT tyP X c:=by obtain⟨cs,h⟩:=h;exact far_of h ht
theorem grown_belP {M:List Nat}(hg:X.grownBy Y (some c))(hl:B≤c)(hc:¬farT tyF X c∨c∈M)(hB:B≤X.heap.size)(hP:farT tyP X c):BelP M M B X Y:=
 ⟨⟨hg.os,hg.tape,hg.output,hg.size,fun i hi=>hg.block i (Nat.lt_of_lt_of_le hi hB) (fun e=>by injection e with e;omega)⟩,fun i hi hf hm=>hg.block i hi (fun e=>by injection e with e;subst e;exact hc.elim (fun k=>k hf) (fun k=>hm k)),fun _ h=>.inl h,KpU.far hg hP⟩
theorem below_belP (h:Below X.heap.size X Y)(hB:B≤X.heap.size)(M:List Nat):BelP M M B X Y:=⟨h.mono hB,fun b hb _ _=>h.block b hb,fun _ h=>.inl h,KpU.below h⟩
section
variable {b:Bk}{P:PS}
theorem PP.kinds (h:PP X B D Gp b P L S):isC X Gp 90∧isC X b.G 127∧isM X b.bp∧isM X b.bf∧isM X b.bF∧isM X b.bC∧(∀n f,P.fs n=some f→isC X f.blk 103)∧(∀g,b.vo.ownBlock=some g→isC X g 3):=
 ⟨⟨_,h.blk⟩,⟨_,h.log.blk⟩,h.log.mp.isMap,h.log.mf.isMap,h.fmap.isMap,h.chm.isMap,fun n f hf=>⟨_,(h.frs n f hf).1⟩,fun _ hg=>(h.rowblk hg).1⟩
theorem PP.own {P':PS}(h:PP X B D Gp b P L S)(he:(poolC b P).setIfInBounds k v=poolC b P')(h1:P'.fs=P.fs)(h2:P'.order=P.order)(h3:P'.chg=P.chg):PP (X.setCell ⟨Gp,k,none⟩ v) B D Gp b P' L S:=by
 obtain⟨k1,k2,k3,k4,k5,k6,k7,k8⟩:=h.kinds;have hg:=set_grown X Gp k v;have st:∀c,¬c=Gp→c<X.heap.size→(X.setCell ⟨Gp,k,none⟩ v).heap[c]?=X.heap[c]?:=fun c hc hl=>hg.block c hl (fun e=>by injection e with e;exact hc e)
 refine⟨by rw[set_blk h.blk,he],h.log.other hg (k1.far (by decide)) (ne_CC k1 k2 (by decide)) (ne_CM k1 k3) (ne_CM k1 k4),?_,?_,fun n f hf=>?_,fun n n' f f' hf hf'=>?_,?_,h.low,h.dif⟩
 ·rw[h1];exact h.fmap.keep (st _ (ne_CM k1 k5) h.fmap.lt)
 ·rw[h3];exact h.chm.keep (st _ (ne_CM k1 k6) h.chm.lt)
 ·rw[h1] at hf;exact⟨(st _ (ne_CC k1 (k7 n f hf) (by decide)) (h.fcells hf).2.2.2.2.2).trans (h.frs n f hf).1,(h.frs n f hf).2⟩
 ·rw[h1] at hf hf';exact h.inj n n' f f' hf hf'
 ·rw[h2];exact row_keep h.ord fun g hg'=>st _ (ne_CC k1 (k8 g hg') (by decide)) (h.rowblk hg').2.2
theorem PP.own_bel (h:PP X B D Gp b P L S)(k:Nat)(v:Value)(hB:B≤X.heap.size):BelP b.M b.M B X (X.setCell ⟨Gp,k,none⟩ v):=grown_belP (set_grown X Gp k v) h.low.1 (.inl (nfar h.blk (by decide))) hB h.farG
theorem PP.order (h:PP X B D Gp b P L S)(hg:X.grownBy Y r)(hr:∀g,r=some g→b.vo.ownBlock=some g)(ho:Y.ownsRow B 3 1 v l.length (l.map (Value.int .i64)))(hn:∀g,v.ownBlock=some g→b.vo.ownBlock=some g∨X.heap.size≤g):PP (Y.setCell ⟨Gp,5,none⟩ v) B D Gp { b with vo:=v } { P with order:=l } L S:=by
 obtain⟨k1,k2,k3,k4,k5,k6,k7,k8⟩:=h.kinds;have st:∀c,¬some c=r→c<X.heap.size→Y.heap[c]?=X.heap[c]?:=fun c hc hl=>hg.block c hl hc
 have nr:∀{c:Nat},(∀g,b.vo.ownBlock=some g→¬c=g)→¬some c=r:=fun hc e=>hc _ (hr _ e.symm) rfl
 have yblk:Y.heap[Gp]?=some (.cells (poolC b P) 90 (0,0)):=(st _ (nr fun g hg'=>ne_CC (k8 g hg') k1 (by decide)) h.lt).trans h.blk;have ylt:=(Array.getElem?_eq_some_iff.1 yblk).1;have hg2:=set_grown Y Gp 5 v;have st2:∀c,¬c=Gp→c<Y.heap.size→(Y.setCell ⟨Gp,5,none⟩ v).heap[c]?=Y.heap[c]?:=fun c hc hl=>hg2.block c hl (fun e=>by injection e with e;exact hc e)
 have both:∀c,(∀g,b.vo.ownBlock=some g→¬c=g)→¬c=Gp→c<X.heap.size→(Y.setCell ⟨Gp,5,none⟩ v).heap[c]?=X.heap[c]?:=fun c h1 h2 h3=>(st2 c h2 (Nat.lt_of_lt_of_le h3 hg.size)).trans (st c (nr h1) h3)
 have hlog:PL Y B D b.G b.bp b.bf 60000 L S:=by
  cases r with
  | none=>exact h.log.below ⟨hg.os,hg.tape,hg.output,hg.size,fun i hi=>hg.block i hi (by simp)⟩
  | some g =>
   have:=k8 g (hr g rfl);exact h.log.other hg (this.far (by decide)) (ne_CC this k2 (by decide)) (ne_CM this k3) (ne_CM this k4)
 refine⟨by rw[set_blk yblk];rfl,hlog.other hg2 (far_of yblk (by decide)) (ne_CC ⟨_,yblk⟩ ⟨_,hlog.blk⟩ (by decide)) (ne_CM ⟨_,yblk⟩ hlog.mp.isMap) (ne_CM ⟨_,yblk⟩ hlog.mf.isMap),?_,?_,fun n f hf=>?_,h.inj,?_,h.low,h.dif⟩
 ·exact h.fmap.keep (both _ (fun g hg'=>ne_CM (k8 g hg') k5) (ne_CM k1 k5) h.fmap.lt)
 ·exact h.chm.keep (both _ (fun g hg'=>ne_CM (k8 g hg') k6) (ne_CM k1 k6) h.chm.lt)
 ·exact⟨(both _ (fun g hg'=>ne_CC (k8 g hg') (k7 n f hf) (by decide)) (ne_CC k1 (k7 n f hf) (by decide)) (h.fcells hf).2.2.2.2.2).trans (h.frs n f hf).1,(h.frs n f hf).2⟩
 ·exact row_keep ho fun g hg'=>st2 g (fun e=>by
   subst e;rcases hn _ hg' with h1 | h1
   ·exact ne_CC (k8 _ h1) k1 (by decide) rfl
   ·have:=h.lt;omega) (World.ownsRow.lt ho g hg').2
theorem PP.order_bel (h:PP X B D Gp b P L S)(hg:X.grownBy Y r)(hr:∀g,r=some g→b.vo.ownBlock=some g)(hB:B≤X.heap.size)(hn:∀g,v.ownBlock=some g→b.vo.ownBlock=some g∨X.heap.size≤g):BelP b.M ({ b with vo:=v }:Bk).M B X (Y.setCell ⟨Gp,5,none⟩ v):=by
 have h1:BelP b.M b.M B X Y:=by
  cases r with
  | none=>exact below_belP ⟨hg.os,hg.tape,hg.output,hg.size,fun i hi=>hg.block i hi (by simp)⟩ hB _
  | some g =>
   obtain⟨⟨cur,hc⟩,hl,-⟩:=h.rowblk (hr g rfl);exact grown_belP hg hl (.inr (by simp[Bk.M,hr g rfl])) hB (far_of hc (by decide))
 have h2:BelP b.M b.M B X (Y.setCell ⟨Gp,5,none⟩ v):=by
  have yblk:Y.heap[Gp]?=some (.cells (poolC b P) 90 (0,0)):=by
   refine(hg.block Gp h.lt (fun e=>?_)).trans h.blk;have:=hr _ e.symm;exact ne_CC (h.kinds.2.2.2.2.2.2.2 _ this) h.kinds.1 (by decide) rfl
  exact h1.trans (grown_belP (set_grown Y Gp 5 v) h.low.1 (.inl (nfar yblk (by decide))) (Nat.le_trans hB hg.size) (far_of yblk (by decide)))
 refine⟨h2.toBelow,h2.far,fun c hc=>?_,h2.u⟩;simp only[Bk.M,List.mem_cons,Option.mem_toList] at hc ⊢;rcases hc with hc | hc | hc | hc | hc
 ·exact .inl (.inl hc)
 ·exact .inl (.inr (.inl hc))
 ·exact .inl (.inr (.inr (.inl hc)))
 ·exact .inl (.inr (.inr (.inr (.inl hc))))
 ·rcases hn c hc with k|k
  ·exact .inl (.inr (.inr (.inr (.inr k))))
  ·exact .inr k
theorem PP.frame {n:Int}{f f':FrP}(h:PP X B D Gp b P L S)(hf:P.fs n=some f)(hb:f'.blk=f.blk)(hg:X.grownBy Y (some f.blk))(hY:Y.heap[f.blk]?=some (.cells (frC f') 103 (0,0))):PP Y B D Gp b { P with fs:=updR P.fs n f' } L S:=by
 obtain⟨k1,k2,k3,k4,k5,k6,k7,k8⟩:=h.kinds;have kf:=k7 n f hf;have st:∀c,¬c=f.blk→c<X.heap.size→Y.heap[c]?=X.heap[c]?:=fun c hc hl=>hg.block c hl (fun e=>by injection e with e;exact hc e)
 refine⟨(st _ (ne_CC kf k1 (by decide)) h.lt).trans h.blk,h.log.other hg (kf.far (by decide)) (ne_CC kf k2 (by decide)) (ne_CM kf k3) (ne_CM kf k4),?_,h.chm.keep (st _ (ne_CM kf k6) h.chm.lt),fun m g hm=>?_,fun m m' g g' hm hm' hgg=>?_,row_keep h.ord fun g hg'=>st _ (ne_CC kf (k8 g hg') (by decide)) (h.rowblk hg').2.2,h.low,h.dif⟩
 ·refine(h.fmap.keep (st _ (ne_CM kf k5) h.fmap.lt)).congr fun x _=>?_
  show(updR P.fs n f' x).map (·.blk)=_;by_cases e:x=n
  ·subst e;rw[updR_at,hf];show some f'.blk=some f.blk;rw[hb]
  ·rw[updR_ne _ _ e]
 ·have hm:updR P.fs n f' m=some g:=hm;by_cases e:m=n
  ·subst e;rw[updR_at] at hm;injection hm with hm;subst hm;rw[hb];exact⟨hY,(h.frs m f hf).2⟩
  ·rw[updR_ne _ _ e] at hm;exact⟨(st _ (fun k=>e (h.inj m n g f hm hf k)) (h.fcells hm).2.2.2.2.2).trans (h.frs m g hm).1,(h.frs m g hm).2⟩
 ·have hm:updR P.fs n f' m=some g:=hm;have hm':updR P.fs n f' m'=some g':=hm';have b1:∃q,P.fs m=some q∧q.blk=g.blk:=by
   by_cases e:m=n
   ·subst e;rw[updR_at] at hm;injection hm with hm;subst hm;exact⟨f,hf,hb.symm⟩
   ·rw[updR_ne _ _ e] at hm;exact⟨g,hm,rfl⟩
  have b2:∃q,P.fs m'=some q∧q.blk=g'.blk:=by
   by_cases e:m'=n
   ·subst e;rw[updR_at] at hm';injection hm' with hm';subst hm';exact⟨f,hf,hb.symm⟩
   ·rw[updR_ne _ _ e] at hm';exact⟨g',hm',rfl⟩
  obtain⟨q,q1,q2⟩:=b1;obtain⟨q',q1',q2'⟩:=b2;exact h.inj m m' q q' q1 q1' (by rw[q2,q2'];exact hgg)
theorem PP.frame_bel {n:Int}{f:FrP}(h:PP X B D Gp b P L S)(hf:P.fs n=some f)(hg:X.grownBy Y (some f.blk))(hB:B≤X.heap.size):BelP b.M b.M B X Y:=grown_belP hg (h.frs n f hf).2 (.inl (nfar (h.frs n f hf).1 (by decide))) hB (far_of (h.frs n f hf).1 (by decide))
theorem PP.fmaps {fs:Int→Option FrP}(h:PP X B D Gp b P L S)(hg:X.grownBy Y (some b.bF))(hM:MF Y b.bF k (fun n=>(fs n).map (·.blk)))(hk:k≤65)(hfr:∀n f,fs n=some f→(X.heap[f.blk]?=some (.cells (frC f) 103 (0,0))∧B≤f.blk))(hi:∀n n' f f',fs n=some f→fs n'=some f'→f.blk=f'.blk→n=n'):PP Y B D Gp b { P with fs:=fs } L S:=by
 obtain⟨k1,k2,k3,k4,k5,k6,k7,k8⟩:=h.kinds;have st:∀c,¬c=b.bF→c<X.heap.size→Y.heap[c]?=X.heap[c]?:=fun c hc hl=>hg.block c hl (fun e=>by injection e with e;exact hc e)
 refine⟨(st _ (fun e=>ne_CM k1 k5 e.symm) h.lt).trans h.blk,h.log.other hg (h.fmap.far _) (fun e=>ne_CM k2 k5 e.symm) (fun e=>h.dif.2.1 e.symm) (fun e=>h.dif.2.2.1 e.symm),hM.mono hk,h.chm.keep (st _ (fun e=>h.dif.1 e.symm) h.chm.lt),fun n f hf=>?_,hi,row_keep h.ord fun g hg'=>st _ (fun e=>ne_CM (k8 g hg') k5 e.symm) (h.rowblk hg').2.2,h.low,h.dif⟩;have:=hfr n f hf;exact⟨(st _ (fun e=>ne_CM ⟨_,this.1⟩ k5 e.symm) (Array.getElem?_eq_some_iff.1 this.1).1).trans this.1,this.2⟩
theorem PP.fmaps_bel (h:PP X B D Gp b P L S)(hg:X.grownBy Y (some b.bF))(hB:B≤X.heap.size):BelP b.M b.M B X Y:=grown_belP hg h.low.2.1 (.inr (by simp[Bk.M])) hB (h.fmap.far _)
theorem PP.chms {c:Int→Bool}(h:PP X B D Gp b P L S)(hg:X.grownBy Y (some b.bC))(hM:MU Y b.bC k c)(hk:k≤60000):PP Y B D Gp b { P with chg:=c } L S:=by
 obtain⟨k1,k2,k3,k4,k5,k6,k7,k8⟩:=h.kinds;have st:∀c,¬c=b.bC→c<X.heap.size→Y.heap[c]?=X.heap[c]?:=fun c hc hl=>hg.block c hl (fun e=>by injection e with e;exact hc e)
 exact⟨(st _ (fun e=>ne_CM k1 k6 e.symm) h.lt).trans h.blk,h.log.other hg (h.chm.far _) (fun e=>ne_CM k2 k6 e.symm) (fun e=>h.dif.2.2.2.1 e.symm) (fun e=>h.dif.2.2.2.2 e.symm),h.fmap.keep (st _ h.dif.1 h.fmap.lt),hM.mono hk,fun n f hf=>⟨(st _ (fun e=>ne_CM (k7 n f hf) k6 e.symm) (h.fcells hf).2.2.2.2.2).trans (h.frs n f hf).1,(h.frs n f hf).2⟩,h.inj,row_keep h.ord fun g hg'=>st _ (fun e=>ne_CM (k8 g hg') k6 e.symm) (h.rowblk hg').2.2,h.low,h.dif⟩
theorem PP.chms_bel (h:PP X B D Gp b P L S)(hg:X.grownBy Y (some b.bC))(hB:B≤X.heap.size):BelP b.M b.M B X Y:=grown_belP hg h.low.2.2 (.inr (by simp[Bk.M])) hB (h.chm.far _)
theorem PP.other (h:PP X B D Gp b P L S)(hg:X.grownBy Y (some c))(hc:isC X c t)(ht:tyQ t=false):PP Y B D Gp b P L S:=by
 obtain⟨k1,k2,k3,k4,k5,k6,k7,k8⟩:=h.kinds;unfold tyQ at ht;simp only[Bool.or_eq_false_iff,decide_eq_false_iff_not] at ht;obtain⟨⟨⟨⟨t1,t2⟩,t3⟩,t4⟩,t5⟩:=ht;have st:∀d,¬d=c→d<X.heap.size→Y.heap[d]?=X.heap[d]?:=fun d hd hl=>hg.block d hl (fun e=>by injection e with e;exact hd e)
 exact⟨(st _ (ne_CC hc k1 (fun e=>t3 e.symm)) h.lt).trans h.blk,h.log.other hg (hc.far t1) (ne_CC hc k2 (fun e=>t2 e.symm)) (ne_CM hc k3) (ne_CM hc k4),h.fmap.keep (st _ (ne_CM hc k5) h.fmap.lt),h.chm.keep (st _ (ne_CM hc k6) h.chm.lt),fun n f hf=>⟨(st _ (ne_CC hc (k7 n f hf) (fun e=>t4 e.symm)) (h.fcells hf).2.2.2.2.2).trans (h.frs n f hf).1,(h.frs n f hf).2⟩,h.inj,row_keep h.ord fun g hg'=>st _ (ne_CC hc (k8 g hg') (fun e=>t5 e.symm)) (h.rowblk hg').2.2,h.low,h.dif⟩
end
theorem BelP.other {M:List Nat}(h:BelP M M' B X Y)(hg:Y.grownBy Z (some c))(hc:X.heap.size≤c)(hB:B≤X.heap.size):BelP M M' B X Z:=
 ⟨h.toBelow.trans ⟨hg.os,hg.tape,hg.output,hg.size,fun i hi=>hg.block i (Nat.lt_of_lt_of_le hi (Nat.le_trans hB h.size)) (fun e=>by injection e with e;omega)⟩,fun i hi hf hm=>(hg.block i (Nat.lt_of_lt_of_le hi h.size) (fun e=>by injection e with e;omega)).trans (h.far i hi hf hm),h.maps,h.u.newer hg hc h.size⟩
attribute [local go_sem ↓] Go.wp_at_zero Go.wp_at_succ
section
variable {b:Bk}{P:PS}
theorem cisPinned (h:PP X B D Gp b P L S){n:Int}{f:FrP}(hf:P.fs n=some f)(hn:i64 n):Calls Tryz.prog 87 #[(.pointer (some ⟨Gp,0,none⟩)),.int .i64 n] X fun e w'=>e=.returned (.bool false)∧w'=X:=by
 obtain⟨c0,c1,c2,c3,c4,c5,c6,c7,c8,c9⟩:=h.cells;obtain⟨f0,f1,f2,-,-,-⟩:=h.fcells hf;have hl:=h.fmap.look1 hn;simp only[hf,Option.map_some,ptrO] at hl;clear h c0 c1 c2 c3 c5 c6 c7 c8 c9 f0 f2;go_enter Tryz.func87,Tryz.ntmps87;go_wp2;go_ret;exact⟨rfl,rfl⟩
theorem cisLoose (h:PP X B D Gp b P L S){n:Int}{f:FrP}(hf:P.fs n=some f)(hn:i64 n):Calls Tryz.prog 172 #[(.pointer (some ⟨Gp,0,none⟩)),.int .i64 n] X fun e w'=>e=.returned (.bool true)∧w'=X:=by
 go_enter Tryz.func172,Tryz.ntmps172;go_wp2_with fail
 refine(cisPinned h hf hn).mono ?_;rintro e w1⟨rfl,hw⟩;rw[hw];clear hw;go_wp2;go_ret;exact⟨rfl,rfl⟩
end
theorem getD_at (h:k<l.length):l.getD k 0=l[k]:=by simp[List.getD,List.getElem?_eq_getElem h]
def idxF (q:Int→Bool):List Int→Int
 | []=>-1
 | x::r=>if q x then 0 else if idxF q r=-1 then -1 else idxF q r+1
theorem idxF_none:∀{l:List Int},(∀x∈l,q x=false)→idxF q l=-1
 | [],_=>rfl
 | x :: r, h => by
  unfold idxF;rw[h x (List.mem_cons_self ..),if_neg (by decide),idxF_none (fun y hy=>h y (List.mem_cons_of_mem _ hy)),if_pos rfl]
theorem idxF_app:∀{l:List Int} {x:Int} {r:List Int},(∀y∈l,q y=false)→q x=true→idxF q (l++x::r)=l.length
 | [], x, r, _, hx => by
  show idxF q (x::r)=_;unfold idxF;rw[if_pos hx];rfl
 | y :: l, x, r, h, hx => by
  show idxF q (y::(l++x::r))=_;unfold idxF;rw[h y (List.mem_cons_self ..),if_neg (by decide),idxF_app (fun z hz=>h z (List.mem_cons_of_mem _ hz)) hx,if_neg (by omega)];simp
theorem cindexL (pv:Value)(q:Int→Bool)(bl off n c:Nat)(zs:List Int)(w:World)(hz:zs.length=n)(hn:n≤1000000)(hc:∀j,j<n→w.cell? ⟨bl,off+j,none⟩=some (.int .i64 (zs.getD j 0)))(hp:∀x∈zs,Calls Tryz.prog 172 #[pv,.int .i64 x] w fun e w'=>e=.returned (.bool (q x))∧w'=w):Calls Tryz.prog 140 #[.slice (some ⟨bl,off,none⟩) n c,.func (.func 172) #[pv] #[]] w fun e w'=>e=.returned (.int .i64 (idxF q zs))∧w'=w:=by
 have HP:Hid _:=hp;have HC:Hid (∀j,j<n→w.cell? ⟨bl,off+j,none⟩=some (.int .i64 (zs.getD j 0))):=hc;clear hp hc;go_enter Tryz.func140,Tryz.ntmps140;go_wp2_with fail
 go_loop [5,8] (fun _ i=>∃k:Nat,k≤n∧i=.int .i64 k∧∀x∈zs.take k,q x=false) (fun _ i=>match i with | .int _ m=>n-m.toNat | _=>0)
 case atStart=>exact⟨0,Nat.zero_le _,rfl,by simp⟩
 case round =>
  obtain⟨k,hk,rfl,hne⟩:=hrel;by_cases hlt:k<n
  ·have hx:=HC.out k hlt;have hk':(k:Int)<(n:Int):=by omega
   have hmem:zs.getD k 0∈zs:=by rw[getD_at (show k<zs.length by omega)];exact List.getElem_mem _
   have hP:=HP.out _ hmem;have hsp:zs=zs.take k++zs.getD k 0::zs.drop (k+1):=by
    rw[getD_at (show k<zs.length by omega),←List.drop_eq_getElem_cons,List.take_append_drop]
   have htk:zs.take (k+1)=zs.take k++[zs.getD k 0]:=by rw[getD_at (show k<zs.length by omega),List.take_succ_eq_append_getElem]
   generalize zs.getD k 0=x at *;have HSP:Hid _:=hsp;have HTK:Hid _:=htk;have HNE:Hid _:=hne;clear hsp htk hne;go_wp2_with fail
   refine hP.mono ?_;rintro e w1⟨rfl,hw⟩;rw[hw];clear hw;cases hq:q x with
   | true =>
    have HE:Hid (idxF q zs=k):=by
     show idxF q zs=k;rw[HSP.out,idxF_app HNE.out hq,List.length_take];omega
    go_wp2;go_ret;exact⟨by rw[HE.out];(first | done | rfl),rfl⟩
   | false =>
    have HN:Hid (∀y∈zs.take (k+1),q y=false):=fun y hy=>by
     rw[HTK.out,List.mem_append] at hy;rcases hy with hy | hy
     ·exact HNE.out y hy
     ·obtain rfl:=List.mem_singleton.1 hy;exact hq
    go_wp2_with fail
    go_round
    case rel=>exact⟨k+1,by omega,by go_num,HN.out⟩
    case measure=>simp;omega
  ·obtain rfl:k=n:=by omega
   have HE:Hid (idxF q zs=-1):=idxF_none (fun x hx=>hne x (by rw[List.take_of_length_le (by omega)];exact hx));go_wp2;go_ret;exact⟨by rw[HE.out];(first | done | rfl),rfl⟩
theorem hide {p:Prop}(h:p):Hid p:=h
structure PV where
 b:Bk
 P:PS
 L:LS
 S:DS
 N:Pgs
structure PO (w:World) (B D Gp:Nat) (V:PV) (C K:Pgs) (pk m:Nat):Prop where
 pp:PP w B D Gp V.b V.P V.L V.S
 pi:PI V.P V.L V.S C K V.N pk m
 lo:B≤w.heap.size
structure St2 (w w':World) (B:Nat) (V V':PV):Prop where
 bel:BelP V.b.M V'.b.M B w w'
 nf:NoF V.S→NoF V'.S
theorem St2.refl (w:World)(B:Nat)(V:PV):St2 w w B V V:=⟨BelP.refl _ _ _,id⟩
theorem St2.trans {w' w'':World}{V V' V'':PV}(h:St2 w w' B V V')(k:St2 w' w'' B V' V''):St2 w w'' B V V'':=⟨h.bel.trans k.bel,fun n=>k.nf (h.nf n)⟩
theorem owns_sliceI {base:Nat}{xs:List Value}(h:w.ownsRow base 3 1 v n xs):∃a cap,v=.slice a n cap:=by
 rcases h.2 with⟨e,h0⟩|⟨g,cap,cur,e,_⟩
 ·exact⟨none,0,by rw[e,h0]⟩
 ·exact⟨_,cap,e⟩
theorem PP.vo {b:Bk}{P:PS}(h:PP X B D Gp b P L S):∃a cap,b.vo=.slice a P.order.length cap:=owns_sliceI h.ord
theorem newsI (w:World)(n:Int):∀j u,([Value.int .i64 n]:List Value)[j]?=some u→(w.alloc (.cells #[.int .i64 n] 3)).cell? ((⟨w.heap.size,0,none⟩:Addr).add j)=some u:=by
 intro j u hj;rw[add_none]
 match j,hj with
 | 0,h=>cases h;go_simp
 | j+1,h=>simp at h
theorem grown_alloc (h:X.grownBy Y r)(o:Obj):X.grownBy (Y.alloc o) r:=But.trans h (World.grownBy_alloc Y o r)
section
variable {b:Bk}{P:PS}
theorem PP.more {n:Int}(h:PP X B D Gp b P L S)(hB:B≤X.heap.size)(hn:i64 n)(hl:P.order.length≤63)(hk:∀x,(P.fs x).isSome=true→x∈P.order)(hf:P.fs n=none):∃Y,(Instr.mapUpdate 85 (.map (some b.bF)) (.int .i64 n) (.pointer (some ⟨X.heap.size,0,none⟩))).run Tryz.prog (X.alloc (.cells #[.string s,.int .i64 0,.bool false] 103))=.ok () Y∧PP Y B D Gp b { P with fs:=updR P.fs n ⟨X.heap.size,s,false⟩} L S∧BelP b.M b.M B X Y:=by
 have hb:Below X.heap.size X (X.alloc (.cells #[.string s,.int .i64 0,.bool false] 103)):=(Below.refl _ _).alloc (Nat.le_refl _) _;have h1:=h.below hb;have hm:=h1.fmap.small P.order (fun x hx=>hk x (by cases hq:P.fs x with | none=>rw[hq] at hx;cases hx | some f=>rfl));obtain⟨Y,hrun,hM,hg⟩:=hm.put (by omega) (x:=n) (v:=X.heap.size) hn;have hnew:(X.alloc (.cells #[.string s,.int .i64 0,.bool false] 103)).heap[X.heap.size]?=some (.cells (frC ⟨X.heap.size,s,false⟩) 103 (0,0)):=heap_alloc_new X _;refine⟨Y,hrun,h1.fmaps hg (k:=P.order.length+1) (hM.congr fun x _=>?_) (by omega) (fun m f hf'=>?_) (fun m m' f f' hm1 hm2 he=>?_),(below_belP hb hB _).trans (h1.fmaps_bel hg (Nat.le_trans hB hb.size))⟩
 ·unfold updP updR;by_cases e:x=n
  ·rw[if_pos e,if_pos e];rfl
  ·rw[if_neg e,if_neg e]
 ·by_cases e:m=n
  ·subst e;rw[updR_at] at hf';injection hf' with hf';subst hf';exact⟨hnew,hB⟩
  ·rw[updR_ne _ _ e] at hf';exact h1.frs m f hf'
 ·by_cases e:m=n
  ·by_cases e':m'=n
   ·rw[e,e']
   ·subst e;rw[updR_at] at hm1;injection hm1 with hm1;subst hm1
    rw[updR_ne _ _ e'] at hm2;have:=(h.fcells hm2).2.2.2.2.2;have he:X.heap.size=f'.blk:=he;omega
  ·by_cases e':m'=n
   ·subst e';rw[updR_at] at hm2;injection hm2 with hm2;subst hm2
    rw[updR_ne _ _ e] at hm1;have:=(h.fcells hm1).2.2.2.2.2;have he:f.blk=X.heap.size:=he;omega
   ·rw[updR_ne _ _ e] at hm1;rw[updR_ne _ _ e'] at hm2;exact h1.inj m m' f f' hm1 hm2 he
theorem PP.own5 (h:PP X B D Gp b P L S)(hg:X.grownBy Y r)(hr:∀g,r=some g→b.vo.ownBlock=some g):Y.cell? ⟨Gp,5,none⟩=some b.vo∧Y.frozen? ⟨Gp,5,none⟩=false∧Gp<Y.heap.size:=by
 have hb:Y.heap[Gp]?=some (.cells (poolC b P) 90 (0,0)):=by
  refine(hg.block Gp h.lt (fun e=>?_)).trans h.blk;have:=hr _ e.symm;exact ne_CC (h.kinds.2.2.2.2.2.2.2 _ this) h.kinds.1 (by decide) rfl
 exact⟨by simp[World.cell?,hb,poolC],by simp[World.frozen?,hb],(Array.getElem?_eq_some_iff.1 hb).1⟩
theorem PP.reord (h:PP X B D Gp b P L S)(hB:B≤X.heap.size)(hg:X.grownBy Y b.vo.ownBlock)(ho:Y.ownsRow B 3 1 v l.length (l.map (Value.int .i64)))(hown:v.ownBlock=b.vo.ownBlock∨∃k,v.ownBlock=some k∧X.heap.size≤k):PP (Y.setCell ⟨Gp,5,none⟩ v) B D Gp { b with vo:=v } { P with order:=l } L S∧BelP b.M ({ b with vo:=v }:Bk).M B X (Y.setCell ⟨Gp,5,none⟩ v)∧Y.cell? ⟨Gp,5,none⟩=some b.vo∧Y.frozen? ⟨Gp,5,none⟩=false∧Gp<Y.heap.size:=
 have hn:∀g,v.ownBlock=some g→b.vo.ownBlock=some g∨X.heap.size≤g:=fun g hg'=>by
   rcases hown with e|⟨k,e,hk⟩
   ·left;rw[←e];exact hg'
   ·right;rw[e] at hg';injection hg' with hg';omega
 ⟨h.order hg (fun _ hg=>hg) ho hn,h.order_bel hg (fun _ hg=>hg) hB hn,h.own5 hg (fun _ hg=>hg)⟩
theorem chold (n:Int)(s:ByteArray)(h:PP X B D Gp b P L S)(hB:B≤X.heap.size)(hn:i64 n)(hl:P.order.length≤63)(hk:∀x,(P.fs x).isSome=true→x∈P.order)(hf:P.fs n=none):Calls Tryz.prog 131 #[(.pointer (some ⟨Gp,0,none⟩)),.int .i64 n,.string s] X fun e w'=>∃v,e=.returned (.pointer (some ⟨X.heap.size,0,none⟩))∧PP w' B D Gp { b with vo:=v } { P with fs:=updR P.fs n ⟨X.heap.size,s,false⟩,order:=P.order++[n]} L S∧BelP b.M ({ b with vo:=v }:Bk).M B X w':=by
 obtain⟨Y,hrun,hY,hbY⟩:=h.more (s:=s) hB hn hl hk hf;obtain⟨c0,c1,c2,c3,c4,c5,c6,c7,c8,c9⟩:=(h.below ((Below.refl _ _).alloc (Nat.le_refl _) (.cells #[.string s,.int .i64 0,.bool false] 103))).cells;obtain⟨d0,d1,d2,d3,d4,d5,d6,d7,d8,d9⟩:=hY.cells;obtain⟨oa,oc,hvo⟩:=h.vo;rw[hvo] at d5;have HY:Hid (PP Y B D Gp b { P with fs:=updR P.fs n ⟨X.heap.size,s,false⟩} L S):=hY;have HBY:Hid (BelP b.M b.M B X Y):=hbY;have HB0:Hid (B≤X.heap.size):=hB;have HV:Hid (b.vo=.slice oa P.order.length oc):=hvo;have hi0:(Tryz.prog.info? 3).map (fun i=>(i.zero,i.size,i.bytes))=some (some (.int .i64 0),1,8):=by kernel_rfl
 obtain⟨i0,hi,hz⟩:=Option.map_eq_some_iff.1 hi0;simp only[Prod.mk.injEq] at hz;obtain⟨hz0,hz1,hz2⟩:=hz;have HL:Hid (P.order.length≤63):=hl;clear h hY hbY hB c0 c1 c2 c3 c5 c6 c7 c8 c9 d0 d1 d2 d3 d6 d7 d8 d9 hk hf hvo hl;go_enter Tryz.func131,Tryz.ntmps131;go_wp2_with (first
  | (at_builtin;refine wpList_append_own_at _ rfl _ _ 42 rfl B 3 i0 (.int .i64 0) 1 8 Tryz.underlying42 hi hz0 hz1 hz2 rfl (by decide) (.slice oa P.order.length oc) P.order.length (P.order.map (Value.int .i64)) rfl (by rw[←HV.out];exact World.ownsRow.alloc HY.out.ord _) ⟨Y.heap.size,0,none⟩ 1 1 [.int .i64 n] rfl rfl (newsI _ _) (fun x hx=>by simp at hx;subst hx;rfl) (by have:=HL.out;unfold maxLen;omega) (by have:=HL.out;omega) (by simp;exact Nat.le_trans HB0.out (Nat.le_trans HBY.out.size (by omega))) ?_;intro v1 w2 ho1 hg1 hnil1 hown1;obtain⟨a1,cap1,rfl⟩:=owns_sliceI ho1;have HH:=HY.out.reord (l:=P.order++[n]) (Nat.le_trans HB0.out HBY.out.size) (by rw[HV.out];exact But.trans (World.grownBy_alloc Y _ _) hg1) (by rw[List.length_append,List.map_append];exact ho1) (by rw[HV.out];exact hown1.imp id (fun e=>⟨_,e,by simp⟩));have HZ:Hid (PP (w2.setCell ⟨Gp,5,none⟩ (.slice a1 (P.order.length+1) cap1)) B D Gp { b with vo:=(.slice a1 (P.order.length+1) cap1)} { P with fs:=updR P.fs n ⟨X.heap.size,s,false⟩,order:=P.order++[n]} L S):=HH.1;have HBZ:Hid (BelP b.M ({ b with vo:=(.slice a1 (P.order.length+1) cap1)}:Bk).M B X (w2.setCell ⟨Gp,5,none⟩ (.slice a1 (P.order.length+1) cap1))):=HBY.out.trans HH.2.1;have e5:=HH.2.2.1;rw[HV.out] at e5;have f5:=HH.2.2.2.1;have l5:=HH.2.2.2.2;clear HH ho1 hg1 hnil1 hown1)
  | go_in)
 go_ret;exact⟨_,rfl,HZ.out,HBZ.out⟩
theorem PP.changed {n:Int}{f:FrP}(h:PP X B D Gp b P L S)(hf:P.fs n=some f)(hB:B≤X.heap.size)(hn:i64 n)(hc:∀x,P.chg x=true→0≤x∧x<59999):PP ((X.setCell ⟨f.blk,0,none⟩ (.string s)).setCell ⟨f.blk,2,none⟩ (.bool true)) B D Gp b { P with fs:=updR P.fs n ⟨f.blk,s,true⟩} L S∧BelP b.M b.M B X ((X.setCell ⟨f.blk,0,none⟩ (.string s)).setCell ⟨f.blk,2,none⟩ (.bool true))∧∃Y,(Instr.mapUpdate 86 (.map (some b.bC)) (.int .i64 n) (.agg #[])).run Tryz.prog ((X.setCell ⟨f.blk,0,none⟩ (.string s)).setCell ⟨f.blk,2,none⟩ (.bool true))=.ok () Y∧PP Y B D Gp b (chP P n f.blk s) L S∧BelP b.M b.M B X Y:=by
 have hg:X.grownBy ((X.setCell ⟨f.blk,0,none⟩ (.string s)).setCell ⟨f.blk,2,none⟩ (.bool true)) (some f.blk):=((But.refl X (some f.blk)).set 0 (.string s)).set 2 (.bool true);have h1:=h.frame (f':=⟨f.blk,s,true⟩) hf rfl hg (by rw[set_blk (set_blk (h.frs n f hf).1)];rfl);have b1:=h.frame_bel hf hg hB;obtain⟨Y,hrun,hM,hgY⟩:=(h1.chm.small 59999 hc).put (by omega) (x:=n) hn;exact⟨h1,b1,Y,hrun,h1.chms hgY hM (by omega),b1.trans (h1.chms_bel hgY (Nat.le_trans hB hg.size))⟩
theorem cchange (n:Int)(f:FrP)(s:ByteArray)(h:PP X B D Gp b P L S)(hf:P.fs n=some f)(hB:B≤X.heap.size)(hn:i64 n)(hc:∀x,P.chg x=true→0≤x∧x<59999):Calls Tryz.prog 167 #[(.pointer (some ⟨Gp,0,none⟩)),.int .i64 n,(.pointer (some ⟨f.blk,0,none⟩)),.string s] X fun e w'=>e=.returned (.tuple #[])∧PP w' B D Gp b (chP P n f.blk s) L S∧BelP b.M b.M B X w':=by
 obtain⟨h1,b1,Y,hrun,hY,hbY⟩:=h.changed (s:=s) hf hB hn hc;obtain⟨f0,f1,f2,z0,z2,hlt⟩:=h.fcells hf;obtain⟨d0,d1,d2,d3,d4,d5,d6,d7,d8,d9⟩:=h1.cells;have HY:Hid (PP Y B D Gp b (chP P n f.blk s) L S):=hY;have HBY:Hid (BelP b.M b.M B X Y):=hbY;generalize f.blk=g at *;clear h h1 b1 hY hbY hB d0 d1 d2 d3 d4 d5 d7 d8 d9 hc f1;go_enter Tryz.func167,Tryz.ntmps167;go_wp2;go_end0;exact⟨rfl,HY.out,HBY.out⟩
end
theorem ctoLog {V:PV}{C K:Pgs}{pk:Nat}(h:PO w B D Gp V C K pk m)(hm:m≤50000)(n:Int)(f:FrP)(hf:V.P.fs n=some f)(hd:f.dirty=true):Calls Tryz.prog 77 #[(.pointer (some ⟨Gp,0,none⟩)),.int .i64 n] w fun e w'=>∃V',PO w' B D Gp V' C K pk m∧St2 w w' B V V'∧IntS w w'∧V'.b=V.b∧((e=.returned (.int .i64 0)∧V'.P={ V.P with fs:=updR V.P.fs n { f with dirty:=false }})∨(e=.returned (.int .i64 2)∧V'.S.down=true∧V'.P=V.P)):=by
 obtain⟨⟨G,bp,bf,bF,bC,vo⟩,P,L,S,N⟩:=V;obtain⟨pp,pi,lo⟩:=h
 dsimp only at pp pi hf
 obtain⟨g1,g2,g3,g4,g5⟩:=pi.held hf;have hpg:=pi.pg;obtain⟨n,rfl⟩:∃k:Nat,n=k:=⟨n.toNat,by omega⟩;have hn:i64 (n:Int):=i64_in (by omega) (by omega);have hl:=pp.fmap.look1 hn;simp only[hf,Option.map_some,ptrO] at hl;obtain⟨c0,c1,c2,c3,c4,c5,c6,c7,c8,c9⟩:=pp.cells;obtain⟨f0,f1,f2,z0,z2,hlt⟩:=pp.fcells hf;obtain⟨j,k,i1,i2,i3,i4⟩:=pi.inv;have hfr:=i1.fr;have HA:Hid (∀W,Below w.heap.size w W→Calls Tryz.prog 78 #[(.pointer (some ⟨G,0,none⟩)),.int .i64 (n:Int),.string f.text] W fun e w'=>e=.returned (.int .i64 (apL L S n f.text).1)∧PL w' B D G bp bf (60000+1) (apL L S n f.text).2.1 (apL L S n f.text).2.2∧BelL G bp bf B W w'):=fun W hW=>cappend n f.text W B D G bp bf 60000 k L S (pp.log.below hW) (Nat.le_trans lo hW.size) (by decide) i3 (by omega) (by omega)
 have HP:Hid (PP w B D Gp ⟨G,bp,bf,bF,bC,vo⟩ P L S):=pp;have HI:Hid (PI P L S C K N pk m):=pi;have HLO:Hid (B≤w.heap.size):=lo;have hok:=apL_ok (L:=L) i3 n f.text;have hnf:NoF S→NoF (apL L S n f.text).2.2:=fun h=>apL_nf h _ _
 rcases ap_out i1 (by omega) (by omega:n<60000) g5 with e1 | ⟨u1,S1,e1,v1,I1⟩
 ·rw[e1] at HA hok hnf;have HNF:Hid (NoF S→NoF { S with down:=true }):=hnf;clear pp pi hok hnf e1 i1 i2 i3 i4 c1 c2 c3 c5 c6 c7 c8 c9 f1 f2 z0 z2 hfr;go_enter Tryz.func77,Tryz.ntmps77;go_wp2_with fail
  go_region_with (go_at_call 78;refine(HA.out _ ((Below.refl _ _).drew)).mono ?_;rintro e w5⟨rfl,hp5,hb5⟩)
  all_goals
   have HF5:Hid (BelL G bp bf B w w5):=(below_log ((Below.refl _ _).drew) HLO.out G bp bf).trans hb5;have HP5:Hid (PP w5 B D Gp ⟨G,bp,bf,bF,bC,vo⟩ P L { S with down:=true }):=HP.out.logs HF5.out (by
    obtain⟨j,k,i1,-⟩:=HI.out.inv;exact hp5.small i1.pos i1.posF)
   clear hp5 hb5;go_wp2;go_ret;exact⟨⟨⟨G,bp,bf,bF,bC,vo⟩,P,L,{ S with down:=true },N⟩,⟨HP5.out,HI.out.down,Nat.le_trans HLO.out HF5.out.size⟩,⟨HP.out.belL HF5.out,HNF.out⟩,fun g cs hg=>HP.out.logs_stay HF5.out hg (by decide) (by decide),rfl,.inr ⟨rfl,rfl,rfl⟩⟩
 ·rw[e1] at HA hok hnf;have HNF:Hid (NoF S→NoF S1):=hnf;have HI1:Hid (PI { P with fs:=updR P.fs n { f with dirty:=false }} { L with fh:=updM L.fh n L.fr,fr:=L.fr+1 } S1 C K (wth N n f.text) pk m):=by
   refine pi.logged hf hd rfl (fun j' hj hjm=>?_) (fun k' hk'=>?_)
   ·rcases ap_out hj (by omega) (by omega:n<60000) g5 with e2 | ⟨u2,S2,e2,v2,I2⟩
    ·rw[e1] at e2;cases e2
    ·rw[e1] at e2;injection e2 with _ e2;injection e2 with _ e2;subst e2;exact I2
   ·have:=apL_ok (L:=L) hk' n f.text;rw[e1] at this;exact this
  have HSM:Hid ((∀x,((updM L.fh n L.fr) x).isSome=true→0≤x∧x<60000)∧∀x,(L.pl x).isSome=true→0≤x∧x<60000):=(⟨I1.posF,I1.pos⟩:(∀x,((updM L.fh n L.fr) x).isSome=true→0≤x∧x<((60000:Nat):Int))∧∀x,(L.pl x).isSome=true→0≤x∧x<((60000:Nat):Int));clear pp pi hok hnf e1 i1 i2 i3 i4 c1 c2 c3 c5 c6 c7 c8 c9 f1 f2 z0 z2 hfr I1;go_enter Tryz.func77,Tryz.ntmps77;go_wp2_with fail
  go_region_with (go_at_call 78;refine(HA.out _ ((Below.refl _ _).drew)).mono ?_;rintro e w5⟨rfl,hp5,hb5⟩)
  all_goals
   have HF5:Hid (BelL G bp bf B w w5):=(below_log ((Below.refl _ _).drew) HLO.out G bp bf).trans hb5;have HP5:Hid (PP w5 B D Gp ⟨G,bp,bf,bF,bC,vo⟩ P { L with fh:=updM L.fh n L.fr,fr:=L.fr+1 } S1):=HP.out.logs HF5.out (hp5.small HSM.out.2 HSM.out.1);have hg:w5.grownBy (w5.setCell ⟨f.blk,2,none⟩ (.bool false)) (some f.blk):=set_grown _ _ _ _;have HP6:Hid (PP (w5.setCell ⟨f.blk,2,none⟩ (.bool false)) B D Gp ⟨G,bp,bf,bF,bC,vo⟩ { P with fs:=updR P.fs n { f with dirty:=false }} { L with fh:=updM L.fh n L.fr,fr:=L.fr+1 } S1):=HP5.out.frame hf rfl hg (by rw[set_blk (HP5.out.frs n f hf).1];rfl);have HB6:Hid (BelP (Bk.M ⟨G,bp,bf,bF,bC,vo⟩) (Bk.M ⟨G,bp,bf,bF,bC,vo⟩) B w (w5.setCell ⟨f.blk,2,none⟩ (.bool false))):=(HP.out.belL HF5.out).trans (HP5.out.frame_bel hf hg (Nat.le_trans HLO.out HF5.out.size));obtain⟨q0,q1,q2,y0,y2,hlt5⟩:=HP5.out.fcells hf;clear hp5 hb5 hg q0 q1 y0;go_wp2;go_ret;exact⟨⟨⟨G,bp,bf,bF,bC,vo⟩,{ P with fs:=updR P.fs n { f with dirty:=false }},{ L with fh:=updM L.fh n L.fr,fr:=L.fr+1 },S1,wth N n f.text⟩,⟨HP6.out,HI1.out,Nat.le_trans HLO.out HB6.out.size⟩,⟨HB6.out,HNF.out⟩,fun g cs hg=>by
    have e5:=HP.out.logs_stay HF5.out hg (by decide) (by decide);refine((set_grown w5 f.blk 2 (.bool false)).block g (Array.getElem?_eq_some_iff.1 (e5.trans hg)).1 (fun e=>?_)).trans e5;injection e with e;exact ne_CC ⟨_,(HP5.out.frs n f hf).1⟩ ⟨_,e5.trans hg⟩ (by decide) e,rfl,.inl ⟨rfl,rfl⟩⟩
open Go.Sort
section
variable {b:Bk}{P:PS}
theorem PP.row (h:PP X B D Gp b P L S)(hne:¬P.order=[]):∃g cap,b.vo=.slice (some ⟨g,0,none⟩) P.order.length cap∧B≤g∧g<X.heap.size∧P.order.length≤cap∧cap≤maxLen∧Holds (Value.int .i64) X g 0 P.order.toArray:=by
 have hv:b.vo≠.slice none 0 0:=fun e=>by
  rcases h.ord.2 with⟨_,h0⟩|⟨g,cap,cur,e',_⟩
  ·exact hne (List.length_eq_zero_iff.1 h0)
  ·rw[e] at e';cases e'
 obtain⟨g,cap,e,h1,h2,h3,h4,h5,h6⟩:=holds_of_ownsRow h.ord hv;exact⟨g,cap,e,h1,h2,h3,h4,h6⟩
theorem holds_cell (h:Holds (Value.int .i64) w g 0 l.toArray)(j:Nat)(hj:j<l.length):w.cell? ⟨g,j,none⟩=some (.int .i64 (l.getD j 0)):=by
 have:=(h j (by simpa using hj)).1;rw[Nat.zero_add] at this;rw[this];simp[hj]
theorem erase_take {i:Nat}(hi:i<l.length):(l.take i++l.drop (i+1)++List.replicate (i+1-i) 0).take (l.length-1)=l.eraseIdx i:=by
 rw[List.eraseIdx_eq_take_drop_succ];rw[List.take_append_of_le_length (by simp;omega),List.take_of_length_le (by simp;omega)]
theorem cdelete (i:Nat)(h:PP X B D Gp b P L S)(hi:i<P.order.length)(hl:P.order.length≤64):Calls Tryz.prog 171 #[b.vo,.int .i64 i,.int .i64 ((i:Int)+1)] X fun e w'=>∃a c,e=.returned (.slice a (P.order.length-1) c)∧w'.ownsRow B 3 1 (.slice a (P.order.length-1) c) (P.order.eraseIdx i).length ((P.order.eraseIdx i).map (Value.int .i64))∧X.grownBy w' b.vo.ownBlock∧(Value.slice a (P.order.length-1) c).ownBlock=b.vo.ownBlock:=by
 obtain⟨g,cap,e,h1,h2,h3,h4,h5⟩:=h.row (fun k=>by rw[k] at hi;simp at hi);have ho:=h.ord;rw[e] at ho ⊢;have:=Tryz.slices_Delete_int g 0 cap i (i+1) P.order X h5 h3 (by unfold maxLen at h4;omega) (by omega) (by omega);rw[show((i+1:Nat):Int)=(i:Int)+1 by omega,show P.order.length-(i+1-i)=P.order.length-1 by omega] at this;refine this.mono ?_;rintro r w'⟨rfl,q,rfl⟩;have hz:(P.order.take i++P.order.drop (i+1)++List.replicate (i+1-i) 0).length=P.order.length:=by simp;omega
 have hrow:=ownsRow_putRow (q:=q) (k:=P.order.length-1) ho hz (by omega);rw[erase_take hi] at hrow;have hle:(P.order.eraseIdx i).length=P.order.length-1:=by rw[List.length_eraseIdx,if_pos hi]
 refine⟨some ⟨g,0,none⟩,cap,rfl,by rw[hle];exact hrow,?_,rfl⟩;have:=grownBy_sortedI (w:=X) (g:=g) (n:=q) (os:=#[]) (P.order.take i++P.order.drop (i+1)++List.replicate (i+1-i) 0).toArray;rw[grow_empty] at this;exact this
theorem idx_of (hn:l.Nodup)(hx:x∈l):∃i:Nat,i<l.length∧idxOf (l.take l.length) x=i∧l[i]?=some x:=by
 obtain⟨i,hi,rfl⟩:=List.getElem_of_mem hx;refine⟨i,hi,idxOf_hit l l.length i _ hi (Nat.le_refl _) (getD_at hi) (fun j hj=>?_),List.getElem?_eq_getElem hi⟩;rw[getD_at (show j<l.length by omega)];intro e;have:=(List.getElem_inj hn).1 e;omega
theorem cwithout (n:Int)(h:PP X B D Gp b P L S)(hn:n∈P.order)(hd:P.order.Nodup)(hl:P.order.length≤64):Calls Tryz.prog 129 #[(.pointer (some ⟨Gp,0,none⟩)),.int .i64 n] X fun e w'=>∃i a c,P.order[i]?=some n∧i<P.order.length∧e=.returned (.slice a (P.order.length-1) c)∧w'.ownsRow B 3 1 (.slice a (P.order.length-1) c) (P.order.eraseIdx i).length ((P.order.eraseIdx i).map (Value.int .i64))∧X.grownBy w' b.vo.ownBlock∧(Value.slice a (P.order.length-1) c).ownBlock=b.vo.ownBlock:=by
 obtain⟨i,hi,hix,hat⟩:=idx_of hd hn;obtain⟨c0,c1,c2,c3,c4,c5,c6,c7,c8,c9⟩:=h.cells;have HD:=hide (cdelete i h hi hl);obtain⟨g,cap,e,h1,h2,h3,h4,h5⟩:=h.row (fun k=>by rw[k] at hi;simp at hi);rw[e] at c5 HD ⊢;have hI:=Tryz.slices_Index_int g 0 P.order.length cap P.order n X (Nat.le_refl _) (by omega) (fun j hj=>by rw[Nat.zero_add];exact holds_cell h5 j hj);rw[hix] at hI;have HI:=hide (hI);have hi63:(i:Int)<1000:=by omega
 clear h c0 c1 c2 c3 c4 c6 c7 c8 c9 h5 hI hix hd hn;go_enter Tryz.func129,Tryz.ntmps129;go_wp2_with fail
 refine HI.out.mono ?_;rintro e w1⟨rfl,hw⟩;rw[hw];clear hw;go_wp2_with fail
 refine HD.out.mono ?_;rintro r w2⟨a,c,rfl,q1,q2,q3⟩;have HQ:=hide (q1);have HQ2:=hide (q2);have HQ3:=hide (q3);clear q1 q2 q3;go_wp2;go_ret;exact⟨i,a,c,hat,hi,rfl,HQ.out,HQ2.out,HQ3.out⟩
end
theorem PP.drop {b:Bk}{P:PS}(h:PP X B D Gp b P L S)(hg:X.grownBy Y (some b.bF))(hM:MF Y b.bF 65 (delP (fun n=>(P.fs n).map (·.blk)) x)):PP Y B D Gp b { P with fs:=delR P.fs x } L S:=by
 refine h.fmaps hg (hM.congr fun n _=>?_) (Nat.le_refl _) (fun n f hf=>?_) (fun n n' f f' hf hf'=>?_)
 ·unfold delR delP;by_cases e:n=x
  ·rw[if_pos e,if_pos e];rfl
  ·rw[if_neg e,if_neg e]
 ·by_cases e:n=x
  ·subst e;rw[delR_at] at hf;cases hf
  ·rw[delR_ne _ e] at hf;exact h.frs n f hf
 ·by_cases e:n=x
  ·subst e;rw[delR_at] at hf;cases hf
  ·by_cases e':n'=x
   ·subst e';rw[delR_at] at hf';cases hf'
   ·rw[delR_ne _ e] at hf;rw[delR_ne _ e'] at hf';exact h.inj n n' f f' hf hf'
theorem cmakeRoom {V:PV}{C K:Pgs}{pk:Nat}(h:PO w B D Gp V C K pk m)(hm:m≤50000):Calls Tryz.prog 130 #[(.pointer (some ⟨Gp,0,none⟩))] w fun e w'=>∃V',PO w' B D Gp V' C K pk m∧St2 w w' B V V'∧V'.P.pages=V.P.pages∧V'.P.free=V.P.free∧V'.P.most=V.P.most∧(∀n f,V'.P.fs n=some f→V.P.fs n=some f)∧((e=.returned (.int .i64 0)∧V'.P.order.length<V'.P.most)∨(e=.returned (.int .i64 2)∧V'.S.down=true)):=by
 obtain⟨oa,oc,hvo⟩:=h.pp.vo;obtain⟨c0,c1,c2,c3,c4,c5,c6,c7,c8,c9⟩:=h.pp.cells;have hmo:=h.pi.most;rw[hvo] at c5;by_cases hl:V.P.order.length<V.P.most
 ·have hl':(V.P.order.length:Int)<(V.P.most:Int):=by omega
  have HP:Hid (PO w B D Gp V C K pk m):=h;have HL:=hide (hl);clear hl h hvo c0 c2 c3 c4 c6 c7 c8 c9;go_enter Tryz.func130,Tryz.ntmps130;go_wp2_with fail
  go_region
  all_goals
   go_wp2;go_ret;exact⟨V,⟨HP.out.pp.below ((Below.refl _ _).drew),HP.out.pi,HP.out.lo⟩,⟨below_belP ((Below.refl _ _).drew) HP.out.lo _,id⟩,rfl,rfl,rfl,fun _ _ hn=>hn,.inl ⟨rfl,HL.out⟩⟩
 ·have hl':¬(V.P.order.length:Int)<(V.P.most:Int):=by omega
  obtain⟨x,r,hxr⟩:∃x r,V.P.order=x::r:=by
   cases hq:V.P.order with
   | nil=>rw[hq] at hl;simp at hl;omega
   | cons x r=>exact⟨x,r,rfl⟩
  have hx:=h.pi.rng x (by rw[hxr];exact List.mem_cons_self ..);have hpg:=h.pi.pg;have hx64:i64 x:=i64_in (by omega) (by omega);obtain⟨f,hf⟩:∃f,V.P.fs x=some f:=Option.isSome_iff_exists.1 ((h.pi.keys x).1 (by rw[hxr];exact List.mem_cons_self ..));have hW:PO w.drew B D Gp V C K pk m:=⟨h.pp.below ((Below.refl _ _).drew),h.pi,h.lo⟩;have HW:Hid (PO w.drew B D Gp V C K pk m):=hW;have HSW:Hid (St2 w w.drew B V V):=(⟨below_belP ((Below.refl _ _).drew) h.lo _,id⟩:St2 w w.drew B V V);obtain⟨g,cap,hg0,g1,g2,g3,g4,g5⟩:=hW.pp.row (by rw[hxr];simp);rw[hvo] at hg0;injection hg0 with ea _ ec;subst ea ec;have hcx:w.drew.cell? ⟨g,0,none⟩=some (.int .i64 x):=by
   have:=holds_cell g5 0 (by rw[hxr];simp);rw[this,hxr];rfl
  have HIX:Hid (Calls Tryz.prog 140 #[.slice (some ⟨g,0,none⟩) V.P.order.length oc,.func (.func 172) #[(.pointer (some ⟨Gp,0,none⟩))] #[]] w.drew fun e w'=>e=.returned (.int .i64 0)∧w'=w.drew):=by
   have:=cindexL (.pointer (some ⟨Gp,0,none⟩)) (fun _=>true) g 0 V.P.order.length oc V.P.order w.drew rfl (by omega) (fun j hj=>by rw[Nat.zero_add];exact holds_cell g5 j hj) (fun y hy=>by
    obtain⟨f',hf'⟩:=Option.isSome_iff_exists.1 ((hW.pi.keys y).1 hy);have:=hW.pi.rng y hy;exact cisLoose hW.pp hf' (i64_in (by omega) (by omega)))
   rw[hxr] at this ⊢;exact this
  have hlk:=hW.pp.fmap.look1 hx64;simp only[hf,Option.map_some,ptrO] at hlk;obtain⟨f0,f1,f2,z0,z2,hlt⟩:=hW.pp.fcells hf;obtain⟨e0,e1,e2,e3,e4,e5,e6,e7,e8,e9⟩:=hW.pp.cells;rw[hvo] at e5;have HX64:Hid (i64 x):=hx64;have HXR:Hid (V.P.order=x::r):=hxr;have hlen:V.P.order.length=r.length+1:=by rw[hxr];rfl
  have HVO:Hid (V.b.vo=.slice (some ⟨g,0,none⟩) V.P.order.length oc):=hvo;clear h hW hvo c0 c2 c3 c4 c6 c7 c8 c9 g5 hx64 hxr e0 e1 e2 e3 e6 e7 e8 e9 f0 f1 z0 z2;cases hd:f.dirty with
  | false =>
   rw[hd] at f2;have HFF:Hid (V.P.fs x=some f):=hf;have HDD:Hid (f.dirty=false):=hd;clear hf hd;rw[hlen] at HVO HIX c5 e5 hl';go_enter Tryz.func130,Tryz.ntmps130;go_wp2_with fail
   go_region
   all_goals
    go_wp2_with fail
    refine HIX.out.mono ?_;rintro e w1⟨rfl,hw⟩;rw[hw];clear hw;have HPP5:Hid (PP w.drew B D Gp V.b V.P V.L V.S):=HW.out.pp;have HPI5:Hid (PI V.P V.L V.S C K V.N pk m):=HW.out.pi;have HLO5:Hid (B≤w.drew.heap.size):=HW.out.lo;have HS5:Hid (St2 w w.drew B V V):=HSW;have HO5:Hid (V.b.vo=.slice (some ⟨g,0,none⟩) (r.length+1) oc):=HVO;have HR5:Hid (V.P.order=x::r):=HXR;have HF5:Hid (V.P.fs x=some f):=HFF;have HC5:Hid (f.dirty=false):=HDD;obtain⟨c0,c1,c2,c3,c4,c5,c6,c7,c8,c9⟩:=HPP5.out.cells;rw[HO5.out] at c5;obtain⟨Y,hrun,hM,hgY⟩:=HPP5.out.fmap.drop HX64.out 0 (x:=x);have HY:Hid (PP Y B D Gp V.b { V.P with fs:=delR V.P.fs x } V.L V.S):=HPP5.out.drop hgY hM;have HBY:Hid (BelP V.b.M V.b.M B w.drew Y):=HPP5.out.fmaps_bel hgY HLO5.out;obtain⟨d0,d1,d2,d3,d4,d5,d6,d7,d8,d9⟩:=HY.out.cells;rw[HO5.out] at d5;have HD:=hide (cdelete 0 HY.out (by show 0<V.P.order.length;rw[HR5.out];simp) (by have:=HPI5.out.most;show V.P.order.length≤64;omega));simp only[HR5.out,HO5.out,List.eraseIdx_cons_zero,List.length_cons,Nat.add_sub_cancel,Int.natCast_zero,Int.zero_add] at HD;clear hM hgY c0 c1 c2 c3 c5 c6 c7 c8 c9 d0 d1 d2 d3 d4 d6 d7 d8 d9;go_wp2_with fail
    refine HD.out.mono ?_;rintro e w8⟨a8,c8,rfl,q1,q2,q3⟩;obtain⟨u5,z5,l5⟩:=HY.out.own5 q2 (fun g hg=>by rw[HO5.out];exact hg);rw[HO5.out] at u5;have HZ:Hid (PP (w8.setCell ⟨Gp,5,none⟩ (.slice a8 r.length c8)) B D Gp { V.b with vo:=(.slice a8 r.length c8)} { V.P with fs:=delR V.P.fs x,order:=r } V.L V.S):=
     HY.out.order (l:=r) q2 (fun g hg=>by rw[HO5.out];exact hg) q1 (fun g hg=>by left;rw[HO5.out,←q3];exact hg)
    have HBZ:Hid (BelP V.b.M ({ V.b with vo:=(.slice a8 r.length c8)}:Bk).M B w.drew (w8.setCell ⟨Gp,5,none⟩ (.slice a8 r.length c8))):=HBY.out.trans (HY.out.order_bel q2 (fun g hg=>by rw[HO5.out];exact hg) (Nat.le_trans HLO5.out HBY.out.size) (fun g hg=>by left;rw[HO5.out,←q3];exact hg));have HPI:Hid (PI { V.P with fs:=delR V.P.fs x,order:=r } V.L V.S C K V.N pk m):=HPI5.out.gone HR5.out HF5.out HC5.out;clear q1 q2 q3 HD;go_wp2;go_ret;refine⟨⟨{ V.b with vo:=(.slice a8 r.length c8)},{ V.P with fs:=delR V.P.fs x,order:=r },V.L,V.S,V.N⟩,⟨HZ.out,HPI.out,Nat.le_trans HLO5.out HBZ.out.size⟩,HS5.out.trans ⟨HBZ.out,id⟩,rfl,rfl,rfl,fun y fy hy=>?_,.inl ⟨rfl,?_⟩⟩
    ·have hy:delR V.P.fs x y=some fy:=hy;by_cases e:y=x
     ·rw[e,delR_at] at hy;cases hy
     ·rw[delR_ne _ e] at hy;exact hy
    ·have h1:=HPI5.out.most.1;rw[HR5.out] at h1;show r.length<V.P.most;simp at h1;omega
  | true =>
   rw[hd] at f2;have HFF:Hid (V.P.fs x=some f):=hf;have HDD:Hid (f.dirty=true):=hd;have HTL:=hide (ctoLog HW.out hm x f hf hd);clear hf hd;rw[hlen] at HVO HIX c5 e5 hl';go_enter Tryz.func130,Tryz.ntmps130;go_wp2_with fail
   go_region
   all_goals
    go_wp2_with fail
    refine HIX.out.mono ?_;rintro e w1⟨rfl,hw⟩;rw[hw];clear hw;go_wp2_with fail
    refine HTL.out.mono ?_;rintro e w5⟨V4,k1,k2,-,k3,(⟨rfl,k4⟩ | ⟨rfl,k5,k4⟩)⟩
    ·have HP4:Hid (PO w5 B D Gp V4 C K pk m):=k1;have HS4:Hid (St2 w w5 B V V4):=HSW.out.trans k2;obtain⟨p0,p1,p2,p3,p4,p5,p6,p7,p8,p9⟩:=k1.pp.cells;have z9:=k1.pp.unfrozen 9;have hv4:V4.b.vo=.slice (some ⟨g,0,none⟩) (r.length+1) oc:=by rw[k3];exact HVO.out
     rw[hv4] at p5;obtain⟨PX,hPX⟩:∃PX:PS,PX={ V4.P with spills:=wrap64 (V4.P.spills+1)}:=⟨_,rfl⟩;have hfp:(PX.fs=V4.P.fs∧PX.order=V4.P.order)∧(PX.pages=V4.P.pages∧PX.free=V4.P.free∧PX.most=V4.P.most):=by rw[hPX];exact⟨⟨rfl,rfl⟩,rfl,rfl,rfl⟩
     have HPP5:Hid (PP (w5.setCell ⟨Gp,9,none⟩ (.int .i64 (wrap64 (V4.P.spills+1)))) B D Gp V4.b PX V4.L V4.S):=by
      rw[hPX];exact hide (k1.pp.own rfl rfl rfl rfl)
     have HPI5:Hid (PI PX V4.L V4.S C K V4.N pk m):=by
      rw[hPX];exact hide (k1.pi.stat _ _ _ _)
     have HLO5:Hid (B≤(w5.setCell ⟨Gp,9,none⟩ (.int .i64 (wrap64 (V4.P.spills+1)))).heap.size):=Nat.le_trans k1.lo (set_grown w5 Gp 9 _).size;have HS5:Hid (St2 w (w5.setCell ⟨Gp,9,none⟩ (.int .i64 (wrap64 (V4.P.spills+1)))) B V V4):=HS4.out.trans (⟨k1.pp.own_bel 9 _ k1.lo,id⟩:St2 w5 _ B V4 V4);have HO5:Hid (V4.b.vo=.slice (some ⟨g,0,none⟩) (r.length+1) oc):=hv4;have HR5:Hid (PX.order=x::r):=by rw[hfp.1.2,k4];exact HXR
     have HF5:Hid (PX.fs x=some { f with dirty:=false }):=by rw[hfp.1.1,k4];exact hide (updR_at _ _ _)
     have HK5:Hid (PX.pages=V.P.pages∧PX.free=V.P.free∧PX.most=V.P.most∧∀n f',¬n=x→PX.fs n=some f'→V.P.fs n=some f'):=by
      rw[hfp.1.1,hfp.2.1,hfp.2.2.1,hfp.2.2.2,k4];refine hide ⟨rfl,rfl,rfl,fun n f' hne hn=>?_⟩;have hn:updR V.P.fs x _ n=some f':=hn;rw[updR_ne _ _ hne] at hn;exact hn
     clear k1 k2 k3 k4 hPX hfp HTL p0 p1 p2 p3 p6 p7 p8 e4 e5 f2 hlk hcx c1 c5 hv4;obtain⟨c0,c1,c2,c3,c4,c5,c6,c7,c8,c9⟩:=HPP5.out.cells;rw[HO5.out] at c5;obtain⟨Y,hrun,hM,hgY⟩:=HPP5.out.fmap.drop HX64.out 0 (x:=x);have HY:Hid (PP Y B D Gp V4.b { PX with fs:=delR PX.fs x } V4.L V4.S):=HPP5.out.drop hgY hM;have HBY:Hid (BelP V4.b.M V4.b.M B (w5.setCell ⟨Gp,9,none⟩ (.int .i64 (wrap64 (V4.P.spills+1)))) Y):=HPP5.out.fmaps_bel hgY HLO5.out;obtain⟨d0,d1,d2,d3,d4,d5,d6,d7,d8,d9⟩:=HY.out.cells;rw[HO5.out] at d5;have HD:=hide (cdelete 0 HY.out (by show 0<PX.order.length;rw[HR5.out];simp) (by have:=HPI5.out.most;show PX.order.length≤64;omega));simp only[HR5.out,HO5.out,List.eraseIdx_cons_zero,List.length_cons,Nat.add_sub_cancel,Int.natCast_zero,Int.zero_add] at HD;clear hM hgY c0 c1 c2 c3 c5 c6 c7 c8 c9 d0 d1 d2 d3 d4 d6 d7 d8 d9;go_wp2_with fail
     refine HD.out.mono ?_;rintro e w8⟨a8,c8,rfl,q1,q2,q3⟩;obtain⟨u5,z5,l5⟩:=HY.out.own5 q2 (fun g hg=>by rw[HO5.out];exact hg);rw[HO5.out] at u5;have HZ:Hid (PP (w8.setCell ⟨Gp,5,none⟩ (.slice a8 r.length c8)) B D Gp { V4.b with vo:=(.slice a8 r.length c8)} { PX with fs:=delR PX.fs x,order:=r } V4.L V4.S):=
      HY.out.order (l:=r) q2 (fun g hg=>by rw[HO5.out];exact hg) q1 (fun g hg=>by left;rw[HO5.out,←q3];exact hg)
     have HBZ:Hid (BelP V4.b.M ({ V4.b with vo:=(.slice a8 r.length c8)}:Bk).M B (w5.setCell ⟨Gp,9,none⟩ (.int .i64 (wrap64 (V4.P.spills+1)))) (w8.setCell ⟨Gp,5,none⟩ (.slice a8 r.length c8))):=HBY.out.trans (HY.out.order_bel q2 (fun g hg=>by rw[HO5.out];exact hg) (Nat.le_trans HLO5.out HBY.out.size) (fun g hg=>by left;rw[HO5.out,←q3];exact hg));have HPI:Hid (PI { PX with fs:=delR PX.fs x,order:=r } V4.L V4.S C K V4.N pk m):=HPI5.out.gone HR5.out HF5.out rfl;clear q1 q2 q3 HD;go_wp2;go_ret;refine⟨⟨{ V4.b with vo:=(.slice a8 r.length c8)},{ PX with fs:=delR PX.fs x,order:=r },V4.L,V4.S,V4.N⟩,⟨HZ.out,HPI.out,Nat.le_trans HLO5.out HBZ.out.size⟩,HS5.out.trans ⟨HBZ.out,id⟩,HK5.out.1,HK5.out.2.1,HK5.out.2.2.1,fun y fy hy=>?_,.inl ⟨rfl,?_⟩⟩
     ·have hy:delR PX.fs x y=some fy:=hy;by_cases e:y=x
      ·rw[e,delR_at] at hy;cases hy
      ·rw[delR_ne _ e] at hy;exact HK5.out.2.2.2 y fy e hy
     ·have h1:=HPI5.out.most.1;rw[HR5.out] at h1;show r.length<PX.most;simp at h1;omega
    ·have HP4:Hid (PO w5 B D Gp V4 C K pk m):=k1;have HS4:Hid (St2 w w5 B V V4):=HSW.out.trans k2;have HK4:Hid (V4.S.down=true∧V4.P=V.P):=(⟨k5,k4⟩:V4.S.down=true∧V4.P=V.P);clear k1 k2 k3 k4 k5 HTL;go_wp2;go_ret;exact⟨V4,HP4.out,HS4.out,by rw[HK4.out.2],by rw[HK4.out.2],by rw[HK4.out.2],fun n f' hn=>by rw[HK4.out.2] at hn;exact hn,.inr ⟨rfl,HK4.out.1⟩⟩
end Go.Proofs.YtiaibgfhigdgdaaGreat
