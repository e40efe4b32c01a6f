/- a part -/
import Derived.Maps.OwnOps
import Derived.Test.YtfjkockcgddgbaaGreatP7
set_option maxRecDepth 100000
set_option maxHeartbeats 8000000
namespace Go.Proofs.YtfjkockcgddgbaaGreat
open Go.RowKit Go.Lib Go.Maps
variable {X Y Z:World}{b n D m k pk B G bp bf Gp g c d:Nat}{v:Value}{ps:List MemPlace}{F:Int→Option Nat}{x:Int}{L L':LS}{S S':DS}{l:List Int}{r:Option Nat}{t:TypeId}{s:ByteArray}{M':List Nat}{cs:Array Value}{q:Int→Bool}
def litI:Lit→Int
 | .int _ x=>x
 | _=>0
theorem own_keys {R:Value→Option (DataW Unit×List MemPlace)}{D:DataW Unit}(h:X.ownsMap Tryz.prog 3 R b n D):∃ks:List Int,ks.Nodup∧X.ownsMap Tryz.prog 3 R b ks.length D∧Maps.size D=ks.length∧(∀x,i64 x→(Maps.has D (.int .i64 x)=true↔x∈ks))∧∀x∈ks,i64 x:=by
 obtain⟨es0,e0,hp,-⟩:=h.entries lawI;obtain⟨es,clock,hb,F,hs,hD⟩:=h;have hL:es0=(es.toList.map (WideElems.rg Tryz.prog 3 R)).foldr DataW.insert []:=by
  rw[e0] at hD;injection hD
 have hI:∀p∈es0,∃x,p.1=.int .i64 x∧i64 x:=fun p hp=>by
  rw[hL,mem_sorted,List.mem_map] at hp;obtain⟨en,hen,rfl⟩:=hp;obtain⟨y,hy⟩:=F.reads en hen;have hk:=WideElems.rd_key hy;obtain⟨x,-,h2,h3⟩:=Maps.keyOf_int_inv Tryz.underlying3 hk;refine⟨x,?_,h3⟩;unfold WideElems.rg;rw[hy];exact h2
 have hlen:es0.length=es.size:=by rw[hL];exact length_read es
 subst e0;refine⟨es0.map (fun p=>litI p.1),?_,⟨es,clock,hb,F,by rw[List.length_map,hlen];exact Nat.le_refl _,hD⟩,by rw[List.length_map];rfl,fun x hx=>?_,fun x hx=>?_⟩
 ·refine List.pairwise_map.2 (List.Pairwise.imp_of_mem ?_ hp);intro p q h1 h2 hne he;obtain⟨x,ex,-⟩:=hI p h1;obtain⟨y,ey,-⟩:=hI q h2;rw[ex,ey] at he hne;exact hne (by have:x=y:=he;rw[this])
 ·rw[has_eq,List.any_eq_true,List.mem_map];constructor
  ·rintro⟨p,h1,h2⟩;refine⟨p,h1,?_⟩;obtain⟨y,ey,-⟩:=hI p h1;rw[ey] at h2 ⊢;show y=x;by_cases e:y=x
   ·exact e
   ·rw[sameKey_ne (fun h=>by injection h with _ h;exact e h)] at h2;cases h2
  ·rintro⟨p,h1,h2⟩;refine⟨p,h1,?_⟩;obtain⟨y,ey,-⟩:=hI p h1;rw[ey] at h2 ⊢;obtain rfl:y=x:=h2;simp[Lit.sameKey]
 ·obtain⟨p,h1,rfl⟩:=List.mem_map.1 hx;obtain⟨y,ey,iy⟩:=hI p h1;rw[ey];exact iy
def ptrElem:Value→Option (DataW Unit×List MemPlace)
 | .pointer none=>some (.nil,[])
 | .pointer (some ⟨b,0,none⟩)=>some (.lit (.int .i64 b),[])
 | _=>none
theorem ptrElem_mk (b:Nat):ptrElem (.pointer (some ⟨b,0,none⟩))=some (.lit (.int .i64 b),[]):=rfl
theorem ptrElem_inv {b:Int}(h:ptrElem v=some (.lit (.int .i64 b),ps)):∃n:Nat,b=n∧v=.pointer (some ⟨n,0,none⟩):=by
 unfold ptrElem at h;split at h
 ·injection h with h;injection h with h _;cases h
 ·injection h with h;injection h with h _;injection h with h;injection h with _ h;exact⟨_,h.symm,rfl⟩
 ·cases h
theorem ptrElem_nil (h:ptrElem v=some (.nil,ps)):v=.pointer none:=by
 unfold ptrElem at h;split at h
 ·rfl
 ·injection h with h;injection h with h _;cases h
 ·cases h
theorem zeroP (w:World):(zeroValue 134).run Tryz.prog w=.ok (.pointer none) w:=by kernel_rfl
def MF (X:World)(b n:Nat)(F:Int→Option Nat):Prop:=∃D:DataW Unit,X.ownsMap Tryz.prog 3 ptrElem b n D∧∀x,i64 x→(Maps.has D (.int .i64 x)=(F x).isSome∧∀v,F x=some v→∀z,D.atKey (.int .i64 x) z=.lit (.int .i64 v))
theorem MF.lt (h:MF X b n F):b<X.heap.size:=by obtain⟨D,h,-⟩:=h;exact h.lt
theorem MF.mono (h:MF X b n F)(hn:n≤m):MF X b m F:=by obtain⟨D,h,k⟩:=h;exact⟨D,h.mono hn,k⟩
theorem MF.keep (h:MF X b n F)(e:Y.heap[b]?=X.heap[b]?):MF Y b n F:=by
 obtain⟨D,⟨es,clock,hb,r⟩,k⟩:=h;exact⟨D,⟨es,clock,e.trans hb,r⟩,k⟩
theorem MF.isMap (h:MF X b n F):∃es clock,X.heap[b]?=some (.map es clock):=by
 obtain⟨D,⟨es,clock,hb,r⟩,k⟩:=h;exact⟨es,clock,hb⟩
theorem MF.far (h:MF X b n F)(T:TypeId→Bool):farT T X b:=fun cur e fz he=>by
 obtain⟨es,clock,hb⟩:=h.isMap;rw[hb] at he;cases he
theorem MF.congr {F':Int→Option Nat}(h:MF X b n F)(he:∀x,i64 x→F' x=F x):MF X b n F':=by
 obtain⟨D,ho,k⟩:=h;exact⟨D,ho,fun x hx=>by rw[he x hx];exact k x hx⟩
def ptrO:Option Nat→Value
 | none=>.pointer none
 | some b=>.pointer (some ⟨b,0,none⟩)
theorem MF.look (h:MF X b n F)(hx:i64 x):(Instr.lookup 126 (.map (some b)) (.int .i64 x) true).run Tryz.prog X=.ok (.tuple #[ptrO (F x),.bool (F x).isSome]) X:=by
 obtain⟨D,h,k⟩:=h;obtain⟨k1,k2⟩:=k x hx;obtain⟨v,ps,hrun,hR⟩:=h.look_ok lawI Tryz.underlying126 (zeroP X) (show ptrElem (.pointer none)=some (.nil,[]) from rfl) (keyOf_int_mk Tryz.underlying3 hx);rw[hrun,k1];cases hF:F x with
 | none =>
  rw[hF] at k1;rw[atKey_of_not_has k1] at hR;rw[ptrElem_nil hR];rfl
 | some v =>
  rw[k2 v hF] at hR;obtain⟨n,e,rfl⟩:=ptrElem_inv hR;obtain rfl:v=n:=by omega
  rfl
theorem MF.look1 (h:MF X b n F)(hx:i64 x):(Instr.lookup 126 (.map (some b)) (.int .i64 x) false).run Tryz.prog X=.ok (ptrO (F x)) X:=by
 obtain⟨D,h,k⟩:=h;obtain⟨k1,k2⟩:=k x hx;obtain⟨v,ps,hrun,hR⟩:=h.lookup lawI Tryz.underlying126 (zeroP X) (show ptrElem (.pointer none)=some (.nil,[]) from rfl) (keyOf_int_mk Tryz.underlying3 hx);rw[hrun];cases hF:F x with
 | none =>
  rw[hF] at k1;rw[atKey_of_not_has k1] at hR;rw[ptrElem_nil hR];rfl
 | some v =>
  rw[k2 v hF] at hR;obtain⟨n,e,rfl⟩:=ptrElem_inv hR;obtain rfl:v=n:=by omega
  rfl
def updP (F:Int→Option Nat)(k:Int)(v:Nat):Int→Option Nat:=fun x=>if x=k then some v else F x
def delP (F:Int→Option Nat)(k:Int):Int→Option Nat:=fun x=>if x=k then none else F x
theorem MF.put (h:MF X b n F)(hn:n≤1000000){v:Nat}(hx:i64 x):∃Y,(Instr.mapUpdate 126 (.map (some b)) (.int .i64 x) (.pointer (some ⟨v,0,none⟩))).run Tryz.prog X=.ok () Y∧MF Y b (n+1) (updP F x v)∧X.grownBy Y (some b):=by
 obtain⟨D,h,k⟩:=h;obtain⟨Y,hrun,hY,hg⟩:=h.update lawI Tryz.underlying126 (by unfold maxLen;omega) (keyOf_int_mk Tryz.underlying3 hx) (ptrElem_mk v);refine⟨Y,hrun,⟨_,hY,fun y hy=>?_⟩,hg⟩;unfold updP;by_cases e:y=x
 ·subst e;rw[if_pos rfl];refine⟨has_put_same h.isMap (keyLit _) _,fun u hu z=>?_⟩;obtain rfl:v=u:=by simpa using hu
  exact atKey_put_same h.isMap (keyLit _) _ z
 ·have ne:Lit.int .i64 y≠Lit.int .i64 x:=fun h=>by injection h with _ h;exact e h
  rw[if_neg e,has_put_other ne];exact⟨(k y hy).1,fun u hu z=>by rw[atKey_put_other ne];exact(k y hy).2 u hu z⟩
theorem MF.drop (h:MF X b n F)(hx:i64 x)(ty:TypeId):∃Y,(Builtin.delete_ #[126,3] ty #[.map (some b),.int .i64 x]).run Tryz.prog X=.ok (.tuple #[]) Y∧MF Y b n (delP F x)∧X.grownBy Y (some b):=by
 obtain⟨D,h,k⟩:=h;obtain⟨Y,hrun,hY,hg⟩:=h.drop lawI Tryz.underlying126 (keyOf_int_mk Tryz.underlying3 hx) ty;refine⟨Y,hrun,⟨_,hY,fun y hy=>?_⟩,hg.grown⟩;unfold delP;by_cases e:y=x
 ·subst e;rw[if_pos rfl];exact⟨has_del_same,fun u hu z=>by cases hu⟩
 ·have ne:Lit.int .i64 y≠Lit.int .i64 x:=fun h=>by injection h with _ h;exact e h
  rw[if_neg e,has_del_other ne];exact⟨(k y hy).1,fun u hu z=>by rw[atKey_del_other ne];exact(k y hy).2 u hu z⟩
def MU (X:World)(b n:Nat)(F:Int→Bool):Prop:=∃D:DataW Unit,X.ownsMap Tryz.prog 3 unitElem b n D∧∀x,i64 x→Maps.has D (.int .i64 x)=F x
theorem MU.lt {F:Int→Bool}(h:MU X b n F):b<X.heap.size:=by obtain⟨D,h,-⟩:=h;exact h.lt
theorem MU.mono {F:Int→Bool}(h:MU X b n F)(hn:n≤m):MU X b m F:=by obtain⟨D,h,k⟩:=h;exact⟨D,h.mono hn,k⟩
theorem MU.keep {F:Int→Bool}(h:MU X b n F)(e:Y.heap[b]?=X.heap[b]?):MU Y b n F:=by
 obtain⟨D,⟨es,clock,hb,r⟩,k⟩:=h;exact⟨D,⟨es,clock,e.trans hb,r⟩,k⟩
theorem MU.isMap {F:Int→Bool}(h:MU X b n F):∃es clock,X.heap[b]?=some (.map es clock):=by
 obtain⟨D,⟨es,clock,hb,r⟩,k⟩:=h;exact⟨es,clock,hb⟩
theorem MU.far {F:Int→Bool}(h:MU X b n F)(T:TypeId→Bool):farT T X b:=fun cur e fz he=>by
 obtain⟨es,clock,hb⟩:=h.isMap;rw[hb] at he;cases he
theorem MU.made (X:World):MU (X.alloc (.map #[] 0)) X.heap.size 0 (fun _=>false):=
 ⟨.map [],World.ownsMap_made X _ _ _,fun _ _=>rfl⟩
def updU (F:Int→Bool)(k:Int):Int→Bool:=fun x=>if x=k then true else F x
theorem MU.put {F:Int→Bool}(h:MU X b n F)(hn:n≤1000000)(hx:i64 x):∃Y,(Instr.mapUpdate 127 (.map (some b)) (.int .i64 x) (.agg #[])).run Tryz.prog X=.ok () Y∧MU Y b (n+1) (updU F x)∧X.grownBy Y (some b):=by
 obtain⟨D,h,k⟩:=h;obtain⟨Y,hrun,hY,hg⟩:=h.update lawI Tryz.underlying127 (by unfold maxLen;omega) (keyOf_int_mk Tryz.underlying3 hx) unitElem_mk;refine⟨Y,hrun,⟨_,hY,fun y hy=>?_⟩,hg⟩;unfold updU;by_cases e:y=x
 ·subst e;rw[if_pos rfl];exact has_put_same h.isMap (keyLit _) _
 ·have ne:Lit.int .i64 y≠Lit.int .i64 x:=fun h=>by injection h with _ h;exact e h
  rw[if_neg e,has_put_other ne];exact k y hy
theorem MU.len {F:Int→Bool}(h:MU X b n F)(ty:TypeId):∃k:Nat,(Builtin.len_ #[127] ty #[.map (some b)]).run Tryz.prog X=.ok (.int .i64 k) X∧k≤n∧(k=0↔∀x,i64 x→F x=false):=by
 obtain⟨D,h,k⟩:=h;obtain⟨ks,h1,h2,h3,h4,h5⟩:=own_keys h;refine⟨_,h.len Tryz.underlying127 ty,h.size_le,?_⟩;rw[h3,List.length_eq_zero_iff];constructor
 ·intro h0 x hx;rw[←k x hx];have:=h4 x hx;rw[h0] at this;cases hh:Maps.has D (.int .i64 x) with
  | false=>rfl
  | true=>exact absurd (this.1 hh) (List.not_mem_nil)
 ·intro hF;cases ks with
  | nil=>rfl
  | cons x r =>
   have i:=h5 x (List.mem_cons_self ..);have:=(h4 x i).2 (List.mem_cons_self ..);rw[k x i,hF x i] at this;cases this
theorem nodup_len:∀{ks l:List Int},ks.Nodup→(∀x∈ks,x∈l)→ks.length≤l.length
 | [],_,_,_=>Nat.zero_le _
 | x :: r, l, hn, hs => by
  obtain⟨h1,h2⟩:=List.nodup_cons.1 hn;have hx:=hs x (List.mem_cons_self ..);have:=nodup_len (ks:=r) (l:=l.erase x) h2 (fun y hy=>(List.mem_erase_of_ne (fun(e:y=x)=>h1 (by rw[←e];exact hy))).2 (hs y (List.mem_cons_of_mem _ hy)));rw[List.length_erase_of_mem hx] at this;have hp:0<l.length:=List.length_pos_of_mem hx;simp;omega
theorem MI.small {F:Int→Option Int}(h:MI X b n F)(hF:∀x,(F x).isSome=true→0≤x∧x<k):MI X b k F:=by
 obtain⟨D,h,hk⟩:=h;obtain⟨ks,h1,h2,h3,h4,h5⟩:=own_keys h;refine⟨D,h2.mono ?_,hk⟩;have:=nodup_len (ks:=ks) (l:=(List.range k).map (fun n:Nat=>(n:Int))) h1 (fun x hx=>by
  have i:=h5 x hx;have:=hF x (by rw[←(hk x i).1];exact(h4 x i).2 hx);rw[List.mem_map];exact⟨x.toNat,List.mem_range.2 (by omega),by omega⟩)
 simpa using this
theorem MU.small {F:Int→Bool}(h:MU X b n F)(k:Nat)(hF:∀x,F x=true→0≤x∧x<k):MU X b k F:=by
 obtain⟨D,h,hk⟩:=h;obtain⟨ks,h1,h2,h3,h4,h5⟩:=own_keys h;refine⟨D,h2.mono ?_,hk⟩;have:=nodup_len (ks:=ks) (l:=(List.range k).map (fun n:Nat=>(n:Int))) h1 (fun x hx=>by
  have i:=h5 x hx;have:=hF x (by rw[←hk x i];exact(h4 x i).2 hx);rw[List.mem_map];exact⟨x.toNat,List.mem_range.2 (by omega),by omega⟩)
 simpa using this
theorem MF.small (h:MF X b n F)(l:List Int)(hF:∀x,(F x).isSome=true→x∈l):MF X b l.length F:=by
 obtain⟨D,h,hk⟩:=h;obtain⟨ks,h1,h2,h3,h4,h5⟩:=own_keys h;exact⟨D,h2.mono (nodup_len h1 (fun x hx=>hF x (by rw[←(hk x (h5 x hx)).1];exact(h4 x (h5 x hx)).2 hx))),hk⟩
structure FrP where
 blk:Nat
 text:ByteArray
 dirty:Bool
structure PS where
 most:Nat
 pages:Nat
 free:Nat
 fs:Int→Option FrP
 order:List Int
 chg:Int→Bool
 hits:Int
 misses:Int
 spills:Int
def isD (P:PS)(n:Int):Bool:=match P.fs n with | some f=>f.dirty | none=>false
def dct (P:PS):Nat:=P.order.countP (isD P)
abbrev Pgs:=Int→Option ByteArray
structure PI (P:PS) (L:LS) (S:DS) (C K N:Pgs) (pk m:Nat):Prop where
 inv:∃j k,Inv L S K N j∧j+dct P≤m∧okS S k∧k+dct P≤4*m+20
 nd:P.order.Nodup
 keys:∀n,n∈P.order↔(P.fs n).isSome=true
 rng:∀n∈P.order,0≤n∧n<P.pages
 most:P.order.length≤P.most∧8≤P.most∧P.most≤64
 pg:1≤pk∧pk≤P.pages∧P.pages≤59000
 last:L.last.pages=pk
 cur:∀n:Int,0≤n→n<P.pages→∃t,C n=some t∧t.size=1024∧(∀f,P.fs n=some f→f.text=t)∧(P.fs n=none→N n=some t)
 clean:∀n f,P.fs n=some f→f.dirty=false→N n=some f.text
 chg:∀n:Int,P.chg n=false→0≤n→n<P.pages→n<pk∧N n=K n∧∀f,P.fs n=some f→f.dirty=false
 chr:∀n,P.chg n=true→0≤n∧n<P.pages
 kd:∀n:Int,0≤n→n<pk→∃t,K n=some t∧t.size=1024
theorem cnt_off {p:Int→Bool}(hp:p x=true):∀{l:List Int},l.Nodup→x∈l→l.countP (fun n=>if n=x then false else p n)+1=l.countP p
 | a :: r, hn, hx => by
  obtain⟨h1,h2⟩:=List.nodup_cons.1 hn;by_cases e:a=x
  ·subst e;have:r.countP (fun n=>if n=a then false else p n)=r.countP p:=List.countP_congr fun y hy=>by
    have:¬y=a:=fun e=>h1 (e ▸ hy)
    simp[this]
   rw[List.countP_cons,List.countP_cons,this,if_pos hp,if_neg (by simp)]
  ·have hx':x∈r:=(List.mem_cons.1 hx).resolve_left (fun h=>e h.symm);have:=cnt_off hp h2 hx';rw[List.countP_cons,List.countP_cons];simp only[if_neg e];omega
theorem cnt_on {x:Int}{p:Int→Bool}:∀{l:List Int},l.Nodup→l.countP (fun n=>if n=x then true else p n)≤l.countP p+1
 | [],_=>by simp
 | a :: r, hn => by
  obtain⟨h1,h2⟩:=List.nodup_cons.1 hn;by_cases e:a=x
  ·subst e;have:r.countP (fun n=>if n=a then true else p n)=r.countP p:=List.countP_congr fun y hy=>by
    have:¬y=a:=fun e=>h1 (e ▸ hy)
    simp[this]
   rw[List.countP_cons,List.countP_cons,this];simp
  ·have:=cnt_on (x:=x) (p:=p) h2;rw[List.countP_cons,List.countP_cons];simp only[if_neg e];omega
def updR (F:Int→Option FrP)(k:Int)(f:FrP):Int→Option FrP:=fun x=>if x=k then some f else F x
def delR (F:Int→Option FrP)(k:Int):Int→Option FrP:=fun x=>if x=k then none else F x
theorem updR_at (F:Int→Option FrP)(k:Int)(f:FrP):updR F k f k=some f:=if_pos rfl
theorem updR_ne (F:Int→Option FrP){k:Int}(f:FrP)(h:¬x=k):updR F k f x=F x:=if_neg h
theorem delR_at (F:Int→Option FrP)(k:Int):delR F k k=none:=if_pos rfl
theorem delR_ne (F:Int→Option FrP){k:Int}(h:¬x=k):delR F k x=F x:=if_neg h
theorem wth_at (F:Pgs)(n:Int)(s:ByteArray):wth F n s n=some s:=if_pos rfl
theorem wth_ne (F:Pgs){n:Int}(s:ByteArray)(h:¬x=n):wth F n s x=F x:=if_neg h
theorem PI.held {P:PS}{C K N:Pgs}(h:PI P L S C K N pk m){n:Int}{f:FrP}(hf:P.fs n=some f):n∈P.order∧0≤n∧n<P.pages∧C n=some f.text∧f.text.size=1024:=by
 have h1:n∈P.order:=(h.keys n).2 (by rw[hf];rfl);have h2:=h.rng n h1;obtain⟨t,c1,c2,c3,c4⟩:=h.cur n h2.1 h2.2;have:=c3 f hf;subst this;exact⟨h1,h2.1,h2.2,c1,c2⟩
theorem PI.down {P:PS}{C K N:Pgs}(h:PI P L S C K N pk m):PI P L { S with down:=true } C K N pk m:=by
 obtain⟨j,k,h1,h2,h3,h4⟩:=h.inv;exact⟨⟨j,k,h1.same rfl rfl,h2,h3,h4⟩,h.nd,h.keys,h.rng,h.most,h.pg,h.last,h.cur,h.clean,h.chg,h.chr,h.kd⟩
theorem PI.mono {P:PS}{C K N:Pgs}{m':Nat}(h:PI P L S C K N pk m)(hm:m≤m'):PI P L S C K N pk m':=by
 obtain⟨j,k,h1,h2,h3,h4⟩:=h.inv;exact⟨⟨j,k,h1,by omega,h3,by omega⟩,h.nd,h.keys,h.rng,h.most,h.pg,h.last,h.cur,h.clean,h.chg,h.chr,h.kd⟩
theorem PI.stat {P:PS}{C K N:Pgs}(h:PI P L S C K N pk m)(a b c:Int)(fr:Nat):PI { P with hits:=a,misses:=b,spills:=c,free:=fr } L S C K N pk m:=
 ⟨h.inv,h.nd,h.keys,h.rng,h.most,h.pg,h.last,h.cur,h.clean,h.chg,h.chr,h.kd⟩
theorem PI.perm {P:PS}{C K N:Pgs}(h:PI P L S C K N pk m)(hp:l.Perm P.order):PI { P with order:=l } L S C K N pk m:=by
 have hd:dct { P with order:=l }=dct P:=hp.countP_eq _;refine⟨by rw[hd];exact h.inv,hp.nodup_iff.2 h.nd,fun n=>(hp.mem_iff).trans (h.keys n),fun n hn=>h.rng n (hp.mem_iff.1 hn),by show l.length≤_∧_;rw[hp.length_eq];exact h.most,h.pg,h.last,h.cur,h.clean,h.chg,h.chr,h.kd⟩
theorem PI.logged {P:PS}{C K N:Pgs}(h:PI P L S C K N pk m){f:FrP}(hf:P.fs x=some f)(hd:f.dirty=true)(hl:L'.last=L.last)(hI:∀j,Inv L S K N j→j≤m→Inv L' S' K (wth N x f.text) (j+1))(hk:∀k,okS S k→okS S' (k+1)):PI { P with fs:=updR P.fs x { f with dirty:=false }} L' S' C K (wth N x f.text) pk m:=by
 obtain⟨j,k,h1,h2,h3,h4⟩:=h.inv;obtain⟨g1,g2,g3,g4,g5⟩:=h.held hf;have hc:dct { P with fs:=updR P.fs x { f with dirty:=false }}+1=dct P:=by
  unfold dct;rw[←cnt_off (x:=x) (p:=isD P) (by unfold isD;rw[hf];exact hd) h.nd g1]
  congr 1
  refine List.countP_congr fun y _=>?_
  unfold isD;by_cases e:y=x
  ·subst e;simp[updR]
  ·simp[updR,e]
 refine⟨⟨j+1,k+1,hI j h1 (by omega),by omega,hk k h3,by omega⟩,h.nd,fun n=>?_,h.rng,h.most,h.pg,by rw[hl];exact h.last,fun n n0 n1=>?_,fun n f' hf' hd'=>?_,fun n hn n0 n1=>?_,h.chr,h.kd⟩
 ·show _↔(updR P.fs x _ n).isSome=true;by_cases e:n=x
  ·subst e;rw[updR_at];exact⟨fun _=>rfl,fun _=>g1⟩
  ·rw[updR_ne _ _ e];exact h.keys n
 ·obtain⟨t,c1,c2,c3,c4⟩:=h.cur n n0 n1;refine⟨t,c1,c2,?_,?_⟩
  ·intro f' hf';have hf':updR P.fs x { f with dirty:=false } n=some f':=hf';by_cases e:n=x
   ·subst e;rw[updR_at] at hf';injection hf' with hf';rw[←hf'];exact c3 f hf
   ·rw[updR_ne _ _ e] at hf';exact c3 f' hf'
  ·intro hn;have hn:updR P.fs x { f with dirty:=false } n=none:=hn;by_cases e:n=x
   ·subst e;rw[updR_at] at hn;cases hn
   ·rw[updR_ne _ _ e] at hn;rw[wth_ne _ _ e];exact c4 hn
 ·have hf':updR P.fs x { f with dirty:=false } n=some f':=hf';by_cases e:n=x
  ·subst e;rw[updR_at] at hf';injection hf' with hf';rw[wth_at,←hf']
  ·rw[updR_ne _ _ e] at hf';rw[wth_ne _ _ e];exact h.clean n f' hf' hd'
 ·obtain⟨a1,a2,a3⟩:=h.chg n hn n0 n1;have e:¬n=x:=fun e=>by
   subst e;have:=a3 f hf;rw[hd] at this;cases this
  refine⟨a1,by rw[wth_ne _ _ e];exact a2,fun f' hf'=>?_⟩;have hf':updR P.fs x { f with dirty:=false } n=some f':=hf';rw[updR_ne _ _ e] at hf';exact a3 f' hf'
theorem PI.gone {P:PS}{C K N:Pgs}(h:PI P L S C K N pk m){r:List Int}{f:FrP}(ho:P.order=x::r)(hf:P.fs x=some f)(hd:f.dirty=false):PI { P with fs:=delR P.fs x,order:=r } L S C K N pk m:=by
 obtain⟨j,k,h1,h2,h3,h4⟩:=h.inv;have hnd:=h.nd;rw[ho,List.nodup_cons] at hnd;have hc:dct { P with fs:=delR P.fs x,order:=r }≤dct P:=by
  unfold dct;rw[ho,List.countP_cons];have:r.countP (isD { P with fs:=delR P.fs x,order:=r })=r.countP (isD P):=List.countP_congr fun y hy=>by
   have:¬y=x:=fun e=>hnd.1 (e ▸ hy)
   unfold isD;simp[delR,this]
  show r.countP _≤_;rw[this];omega
 have hl:=h.most;rw[ho] at hl;refine⟨⟨j,k,h1,by omega,h3,by omega⟩,hnd.2,fun n=>?_,fun n hn=>h.rng n (by rw[ho];exact List.mem_cons_of_mem _ hn),⟨Nat.le_trans (by simp) hl.1,hl.2⟩,h.pg,h.last,fun n n0 n1=>?_,fun n f' hf' hd'=>?_,fun n hn n0 n1=>?_,h.chr,h.kd⟩
 ·show n∈r↔(delR P.fs x n).isSome=true;by_cases e:n=x
  ·subst e;rw[delR_at];exact⟨fun k=>absurd k hnd.1,fun k=>by cases k⟩
  ·rw[delR_ne _ e,←h.keys n,ho];exact⟨fun k=>List.mem_cons_of_mem _ k,fun k=>(List.mem_cons.1 k).resolve_left e⟩
 ·obtain⟨t,c1,c2,c3,c4⟩:=h.cur n n0 n1;refine⟨t,c1,c2,?_,?_⟩
  ·intro f' hf';have hf':delR P.fs x n=some f':=hf';by_cases e:n=x
   ·subst e;rw[delR_at] at hf';cases hf'
   ·rw[delR_ne _ e] at hf';exact c3 f' hf'
  ·intro hn;have hn:delR P.fs x n=none:=hn;by_cases e:n=x
   ·subst e;rw[←c3 f hf];exact h.clean n f hf hd
   ·rw[delR_ne _ e] at hn;exact c4 hn
 ·have hf':delR P.fs x n=some f':=hf';by_cases e:n=x
  ·subst e;rw[delR_at] at hf';cases hf'
  ·rw[delR_ne _ e] at hf';exact h.clean n f' hf' hd'
 ·obtain⟨a1,a2,a3⟩:=h.chg n hn n0 n1;refine⟨a1,a2,fun f' hf'=>?_⟩;have hf':delR P.fs x n=some f':=hf';by_cases e:n=x
  ·subst e;rw[delR_at] at hf';cases hf'
  ·rw[delR_ne _ e] at hf';exact a3 f' hf'
theorem PI.hold {P:PS}{C K N:Pgs}(h:PI P L S C K N pk m){n:Int}{t:ByteArray}(b:Nat)(n0:0≤n)(n1:n<P.pages)(hn:P.fs n=none)(ht:C n=some t)(hl:P.order.length<P.most):PI { P with fs:=updR P.fs n ⟨b,t,false⟩,order:=P.order++[n]} L S C K N pk m:=by
 obtain⟨j,k,h1,h2,h3,h4⟩:=h.inv;have hni:¬n∈P.order:=fun k=>by have:=(h.keys n).1 k;rw[hn] at this;cases this
 have hN:N n=some t:=by
  obtain⟨t',c1,c2,c3,c4⟩:=h.cur n n0 n1;rw[ht] at c1;injection c1 with c1;subst c1;exact c4 hn
 have hc:dct { P with fs:=updR P.fs n ⟨b,t,false⟩,order:=P.order++[n]}=dct P:=by
  unfold dct;show(P.order++[n]).countP _=_;rw[List.countP_append];have e1:P.order.countP (isD { P with fs:=updR P.fs n ⟨b,t,false⟩,order:=P.order++[n]})=P.order.countP (isD P):=List.countP_congr fun y hy=>by
   have:¬y=n:=fun e=>hni (e ▸ hy)
   unfold isD;simp[updR,this]
  rw[e1];simp[isD,updR]
 refine⟨by rw[hc];exact⟨j,k,h1,h2,h3,h4⟩,?_,fun x=>?_,fun x hx=>?_,⟨by show(P.order++[n]).length≤_;simp;omega,h.most.2⟩,h.pg,h.last,fun x x0 x1=>?_,fun x f' hf' hd'=>?_,fun x hx x0 x1=>?_,h.chr,h.kd⟩
 ·show(P.order++[n]).Nodup;rw[List.nodup_append];exact⟨h.nd,by simp,fun a ha b hb e=>by simp at hb;subst hb;subst e;exact hni ha⟩
 ·show x∈P.order++[n]↔(updR P.fs n _ x).isSome=true;by_cases e:x=n
  ·subst e;rw[updR_at];simp
  ·rw[updR_ne _ _ e,←h.keys x];simp[e]
 ·rcases List.mem_append.1 hx with hx|hx
  ·exact h.rng x hx
  ·obtain rfl:=List.mem_singleton.1 hx;exact⟨n0,n1⟩
 ·obtain⟨t',c1,c2,c3,c4⟩:=h.cur x x0 x1;refine⟨t',c1,c2,?_,?_⟩
  ·intro f' hf';have hf':updR P.fs n ⟨b,t,false⟩ x=some f':=hf';by_cases e:x=n
   ·subst e;rw[updR_at] at hf';injection hf' with hf';rw[←hf'];rw[ht] at c1;injection c1
   ·rw[updR_ne _ _ e] at hf';exact c3 f' hf'
  ·intro hn';have hn':updR P.fs n ⟨b,t,false⟩ x=none:=hn';by_cases e:x=n
   ·subst e;rw[updR_at] at hn';cases hn'
   ·rw[updR_ne _ _ e] at hn';exact c4 hn'
 ·have hf':updR P.fs n ⟨b,t,false⟩ x=some f':=hf';by_cases e:x=n
  ·subst e;rw[updR_at] at hf';injection hf' with hf';rw[←hf'];exact hN
  ·rw[updR_ne _ _ e] at hf';exact h.clean x f' hf' hd'
 ·obtain⟨a1,a2,a3⟩:=h.chg x hx x0 x1;refine⟨a1,a2,fun f' hf'=>?_⟩;have hf':updR P.fs n ⟨b,t,false⟩ x=some f':=hf';by_cases e:x=n
  ·subst e;rw[updR_at] at hf';injection hf' with hf';rw[←hf']
  ·rw[updR_ne _ _ e] at hf';exact a3 f' hf'
def chP (P:PS)(n:Int)(b:Nat)(s:ByteArray):PS:={ P with fs:=updR P.fs n ⟨b,s,true⟩,chg:=updU P.chg n }
theorem PI.change {P:PS}{C K N:Pgs}(h:PI P L S C K N pk m){n:Int}{f:FrP}(hf:P.fs n=some f)(hs:s.size=1024):PI (chP P n f.blk s) L S (wth C n s) K N pk (m+1):=by
 obtain⟨j,k,h1,h2,h3,h4⟩:=h.inv;obtain⟨g1,g2,g3,g4,g5⟩:=h.held hf;have hc:dct (chP P n f.blk s)≤dct P+1:=by
  unfold dct;refine Nat.le_trans (Nat.le_of_eq ?_) (cnt_on (x:=n) (p:=isD P) h.nd);show P.order.countP _=_;refine List.countP_congr fun y _=>?_
  unfold isD chP;by_cases e:y=n
  ·subst e;simp[updR]
  ·simp[updR,e]
 have up:∀{x:Int},(chP P n f.blk s).fs x=if x=n then some ⟨f.blk,s,true⟩ else P.fs x:=rfl;refine⟨⟨j,k,h1,by omega,h3,by omega⟩,h.nd,fun x=>?_,h.rng,h.most,h.pg,h.last,fun x x0 x1=>?_,fun x f' hf' hd'=>?_,fun x hx x0 x1=>?_,fun x hx=>?_,h.kd⟩
 ·rw[up];by_cases e:x=n
  ·subst e;rw[if_pos rfl];exact⟨fun _=>rfl,fun _=>g1⟩
  ·rw[if_neg e];exact h.keys x
 ·by_cases e:x=n
  ·subst e;refine⟨s,wth_at _ _ _,hs,fun f' hf'=>?_,fun hn=>?_⟩
   ·rw[up,if_pos rfl] at hf';injection hf' with hf';rw[←hf']
   ·rw[up,if_pos rfl] at hn;cases hn
  ·obtain⟨t',c1,c2,c3,c4⟩:=h.cur x x0 x1;exact⟨t',by rw[wth_ne _ _ e];exact c1,c2,fun f' hf'=>by rw[up,if_neg e] at hf';exact c3 f' hf',fun hn=>by rw[up,if_neg e] at hn;exact c4 hn⟩
 ·rw[up] at hf';by_cases e:x=n
  ·rw[if_pos e] at hf';injection hf' with hf';rw[←hf'] at hd';cases hd'
  ·rw[if_neg e] at hf';exact h.clean x f' hf' hd'
 ·have hx:(if x=n then true else P.chg x)=false:=hx;by_cases e:x=n
  ·rw[if_pos e] at hx;cases hx
  ·rw[if_neg e] at hx;obtain⟨a1,a2,a3⟩:=h.chg x hx x0 x1;exact⟨a1,a2,fun f' hf'=>by rw[up,if_neg e] at hf';exact a3 f' hf'⟩
 ·have hx:(if x=n then true else P.chg x)=true:=hx;by_cases e:x=n
  ·subst e;exact⟨g2,g3⟩
  ·rw[if_neg e] at hx;exact h.chr x hx
theorem PI.grow {P:PS}{C K N:Pgs}(h:PI P L S C K N pk m)(b:Nat)(hs:s.size=1024)(hl:P.order.length<P.most)(hp:P.pages<59000):PI { P with pages:=P.pages+1,fs:=updR P.fs P.pages ⟨b,s,true⟩,order:=P.order++[(P.pages:Int)],chg:=updU P.chg P.pages } L S (wth C P.pages s) K N pk (m+1):=by
 obtain⟨j,k,h1,h2,h3,h4⟩:=h.inv;have hni:¬(P.pages:Int)∈P.order:=fun k=>by have:=(h.rng _ k).2;omega
 have hpg:=h.pg;obtain⟨Q,hQ⟩:∃Q:PS,Q={ P with pages:=P.pages+1,fs:=updR P.fs P.pages ⟨b,s,true⟩,order:=P.order++[(P.pages:Int)],chg:=updU P.chg P.pages }:=⟨_,rfl⟩;have q1:Q.pages=P.pages+1:=by rw[hQ]
 have q2:∀x,Q.fs x=if x=(P.pages:Int) then some ⟨b,s,true⟩ else P.fs x:=fun x=>by rw[hQ];rfl
 have q3:Q.order=P.order++[(P.pages:Int)]:=by rw[hQ]
 have q4:∀x,Q.chg x=if x=(P.pages:Int) then true else P.chg x:=fun x=>by rw[hQ];rfl
 have q5:Q.most=P.most:=by rw[hQ]
 rw[←hQ];clear hQ;have hc:dct Q≤dct P+1:=by
  unfold dct;rw[q3,List.countP_append];have e1:P.order.countP (isD Q)=P.order.countP (isD P):=List.countP_congr fun y hy=>by
   have:¬y=(P.pages:Int):=fun e=>hni (e ▸ hy)
   unfold isD;rw[q2,if_neg this]
  rw[e1];have:=List.countP_le_length (l:=[(P.pages:Int)]) (p:=isD Q);simp at this ⊢;omega
 refine⟨⟨j,k,h1,by omega,h3,by omega⟩,?_,fun x=>?_,fun x hx=>?_,⟨by rw[q3,q5];simp;omega,by rw[q5];exact h.most.2⟩,⟨hpg.1,by omega,by omega⟩,h.last,fun x x0 x1=>?_,fun x f' hf' hd'=>?_,fun x hx x0 x1=>?_,fun x hx=>?_,h.kd⟩
 ·rw[q3,List.nodup_append];exact⟨h.nd,by simp,fun a ha b hb e=>by simp at hb;subst hb;subst e;exact hni ha⟩
 ·rw[q2,q3];by_cases e:x=(P.pages:Int)
  ·rw[if_pos e];simp[e]
  ·rw[if_neg e,←h.keys x];simp[e]
 ·rw[q3] at hx;rw[q1];rcases List.mem_append.1 hx with hx | hx
  ·have:=h.rng x hx;omega
  ·obtain rfl:=List.mem_singleton.1 hx;omega
 ·by_cases e:x=(P.pages:Int)
  ·subst e;refine⟨s,wth_at _ _ _,hs,fun f' hf'=>?_,fun hn=>?_⟩
   ·rw[q2,if_pos rfl] at hf';injection hf' with hf';rw[←hf']
   ·rw[q2,if_pos rfl] at hn;cases hn
  ·obtain⟨t',c1,c2,c3,c4⟩:=h.cur x x0 (by omega);exact⟨t',by rw[wth_ne _ _ e];exact c1,c2,fun f' hf'=>by rw[q2,if_neg e] at hf';exact c3 f' hf',fun hn=>by rw[q2,if_neg e] at hn;exact c4 hn⟩
 ·rw[q2] at hf';by_cases e:x=(P.pages:Int)
  ·rw[if_pos e] at hf';injection hf' with hf';rw[←hf'] at hd';cases hd'
  ·rw[if_neg e] at hf';exact h.clean x f' hf' hd'
 ·rw[q4] at hx;by_cases e:x=(P.pages:Int)
  ·rw[if_pos e] at hx;cases hx
  ·rw[if_neg e] at hx;obtain⟨a1,a2,a3⟩:=h.chg x hx x0 (by omega);exact⟨a1,a2,fun f' hf'=>by rw[q2,if_neg e] at hf';exact a3 f' hf'⟩
 ·rw[q4] at hx;by_cases e:x=(P.pages:Int)
  ·subst e;omega
  ·rw[if_neg e] at hx;have:=h.chr x hx;omega
theorem PI.commit {P:PS}{C K N N':Pgs}{j' k':Nat}(h:PI P L S C K N pk m)(fs':Int→Option FrP)(hfs:∀n,(fs' n).isSome=(P.fs n).isSome)(hft:∀n f,fs' n=some f→f.dirty=false∧∃g,P.fs n=some g∧g.text=f.text)(hN:∀n:Int,0≤n→n<P.pages→N' n=C n)(hI:Inv L' S' N' N' j')(hj:j'≤m+1)(hk:okS S' k')(hk':k'≤4*m+24)(hl:L'.last.pages=P.pages):PI { P with fs:=fs',chg:=fun _=>false } L' S' C N' N' P.pages (m+1):=by
 have hc:dct { P with fs:=fs',chg:=fun _=>false }=0:=by
  unfold dct;rw[List.countP_eq_zero];intro n _;unfold isD;show ¬(match fs' n with | some f=>f.dirty | none=>false)=true;cases hf:fs' n with
  | none=>simp
  | some f=>simp[(hft n f hf).1]
 have hpg:=h.pg;refine⟨⟨j',k',hI,by omega,hk,by omega⟩,h.nd,fun n=>by show _↔(fs' n).isSome=true;rw[hfs];exact h.keys n,h.rng,h.most,⟨by show 1≤P.pages;omega,Nat.le_refl _,hpg.2.2⟩,hl,fun n n0 n1=>?_,fun n f hf _=>?_,fun n _ n0 n1=>⟨n1,rfl,fun f hf=>(hft n f hf).1⟩,(fun n hn=>by cases hn),fun n n0 n1=>?_⟩
 ·obtain⟨t,c1,c2,c3,c4⟩:=h.cur n n0 n1;refine⟨t,c1,c2,fun f hf=>?_,fun _=>by rw[hN n n0 n1];exact c1⟩;obtain⟨_,g,hg,e⟩:=hft n f hf;rw[←e];exact c3 g hg
 ·obtain⟨_,g,hg,e⟩:=hft n f hf;obtain⟨g1,g2,g3,g4,g5⟩:=h.held hg;rw[hN n g2 g3,g4,e]
 ·obtain⟨t,c1,c2,c3,c4⟩:=h.cur n n0 n1;exact⟨t,by rw[hN n n0 n1];exact c1,c2⟩
theorem PI.back {P:PS}{C K N:Pgs}(h:PI P L S C K N pk m):PI { P with fs:=fun n=>if P.chg n=true then none else P.fs n,order:=P.order.filter (fun n=>!P.chg n),chg:=fun _=>false,pages:=pk } (bkL L) S K K K pk m:=by
 obtain⟨j,k,h1,h2,h3,h4⟩:=h.inv;obtain⟨Q,hQ⟩:∃Q:PS,Q={ P with fs:=fun n=>if P.chg n=true then none else P.fs n,order:=P.order.filter (fun n=>!P.chg n),chg:=fun _=>false,pages:=pk }:=⟨_,rfl⟩;have q1:Q.pages=pk:=by rw[hQ]
 have q2:∀x,Q.fs x=if P.chg x=true then none else P.fs x:=fun x=>by rw[hQ]
 have q3:Q.order=P.order.filter (fun n=>!P.chg n):=by rw[hQ]
 have q4:∀x,Q.chg x=false:=fun x=>by rw[hQ]
 have q5:Q.most=P.most:=by rw[hQ]
 rw[←hQ];clear hQ;have hpg:=h.pg;have mem:∀n,n∈Q.order↔n∈P.order∧P.chg n=false:=fun n=>by rw[q3,List.mem_filter];simp
 have old:∀n f,Q.fs n=some f→P.chg n=false∧P.fs n=some f:=fun n f hf=>by
  rw[q2] at hf;cases hc:P.chg n with
  | true=>rw[if_pos hc] at hf;cases hf
  | false=>rw[if_neg (by rw[hc];decide)] at hf;exact⟨rfl,hf⟩
 have cln:∀n f,Q.fs n=some f→f.dirty=false∧K n=some f.text:=fun n f hf=>by
  obtain⟨a,b⟩:=old n f hf;obtain⟨g1,g2,g3,g4,g5⟩:=h.held b;obtain⟨a1,a2,a3⟩:=h.chg n a g2 g3;exact⟨a3 f b,by rw[←a2];exact h.clean n f b (a3 f b)⟩
 have hc:dct Q=0:=by
  unfold dct;rw[List.countP_eq_zero];intro n _;unfold isD;cases hf:Q.fs n with
  | none=>simp
  | some f=>simp[(cln n f hf).1]
 refine⟨⟨j,k,bk_out h1,by omega,h3,by omega⟩,by rw[q3];exact h.nd.filter _,fun n=>?_,fun n hn=>?_,⟨by rw[q3,q5];exact Nat.le_trans (List.length_filter_le ..) h.most.1,by rw[q5];exact h.most.2⟩,⟨hpg.1,by omega,by omega⟩,h.last,fun n n0 n1=>?_,fun n f hf _=>(cln n f hf).2,fun n _ n0 n1=>⟨by omega,rfl,fun f hf=>(cln n f hf).1⟩,(fun n hn=>by rw[q4] at hn;cases hn),h.kd⟩
 ·rw[mem,q2,h.keys n];cases hc:P.chg n with
  | true=>simp
  | false=>simp
 ·obtain⟨a,b⟩:=(mem n).1 hn;have r:=h.rng n a;obtain⟨a1,a2,a3⟩:=h.chg n b r.1 r.2;omega
 ·obtain⟨t,k1,k2⟩:=h.kd n n0 (by omega);exact⟨t,k1,k2,fun f hf=>by have:=(cln n f hf).2;rw[k1] at this;injection this with this;exact this.symm,fun _=>k1⟩
theorem PL.small (h:PL X B D G bp bf n L S)(hp:∀x,(L.pl x).isSome=true→0≤x∧x<k)(hf:∀x,(L.fh x).isSome=true→0≤x∧x<k):PL X B D G bp bf k L S:=
 ⟨h.blk,h.low,h.dif,h.mp.small hp,h.mf.small hf,h.dsk⟩
structure Bk where
 G:Nat
 bp:Nat
 bf:Nat
 bF:Nat
 bC:Nat
 vo:Value
def Bk.M (b:Bk):List Nat:=[b.bp,b.bf,b.bF,b.bC]
def poolC (b:Bk)(P:PS):Array Value:=#[(.pointer (some ⟨b.G,0,none⟩)),.int .i64 P.most,.int .i64 P.pages,.int .i64 P.free,.map (some b.bF),b.vo,.map (some b.bC),.int .i64 P.hits,.int .i64 P.misses,.int .i64 P.spills]
def frC (f:FrP):Array Value:=#[.string f.text,.int .i64 0,.bool f.dirty]
structure PP (X:World) (B D Gp:Nat) (b:Bk) (P:PS) (L:LS) (S:DS):Prop where
 blk:X.heap[Gp]?=some (.cells (poolC b P) 131 (0,0))
 log:PL X B D b.G b.bp b.bf 60000 L S
 fmap:MF X b.bF 65 (fun n=>(P.fs n).map (·.blk))
 chm:MU X b.bC 60000 P.chg
 frs:∀n f,P.fs n=some f→X.heap[f.blk]?=some (.cells (frC f) 136 (0,0))∧B≤f.blk
 inj:∀n n' f f',P.fs n=some f→P.fs n'=some f'→f.blk=f'.blk→n=n'
 ord:X.ownsRow B 3 1 b.vo P.order.length (P.order.map (Value.int .i64))
 low:B≤Gp∧B≤b.bF∧B≤b.bC
 dif:¬b.bF=b.bC∧¬b.bF=b.bp∧¬b.bF=b.bf∧¬b.bC=b.bp∧¬b.bC=b.bf
def tyQ (t:TypeId):Bool:=tyP t || decide (t=96) || decide (t=131) || decide (t=136) || decide (t=3)
structure BelP (M M':List Nat) (B:Nat) (X Y:World):Prop extends Below B X Y where
 far:∀b,b<X.heap.size→farT tyQ X b→¬b∈M→Y.heap[b]?=X.heap[b]?
 maps:∀b∈M',b∈M∨X.heap.size≤b
theorem BelP.refl (M:List Nat)(B:Nat)(X:World):BelP M M B X X:=⟨Below.refl _ _,fun _ _ _ _=>rfl,fun _ h=>.inl h⟩
theorem BelP.trans {M M'':List Nat}(h:BelP M M' B X Y)(k:BelP M' M'' B Y Z):BelP M M'' B X Z:=
 ⟨h.toBelow.trans k.toBelow,fun b hb hf hm=>by
  have e:=h.far b hb hf hm;have hm':¬b∈M':=fun hb'=>(h.maps b hb').elim hm (fun k=>by omega)
  exact(k.far b (Nat.lt_of_lt_of_le hb h.size) (hf.of e) hm').trans e,fun b hb=>(k.maps b hb).elim (fun h1=>h.maps b h1) (fun h1=>.inr (Nat.le_trans h.size h1))⟩
theorem farQ (h:farT tyQ X b):farT tyP X b:=fun cur e fz he=>by
 have:=h cur e fz he;unfold tyQ at this;simp only[Bool.or_eq_false_iff] at this;exact this.1.1.1.1
theorem nfar (h:X.heap[b]?=some (.cells cs t (0,0)))(ht:tyQ t=true):¬farT tyQ X b:=fun hf=>by
 have:=hf cs t (0,0) h;rw[ht] at this;cases this
theorem PP.lt {b:Bk}{P:PS}(h:PP X B D Gp b P L S):Gp<X.heap.size:=(Array.getElem?_eq_some_iff.1 h.blk).1
theorem PP.cells {b:Bk}{P:PS}(h:PP X B D Gp b P L S):X.cell? ⟨Gp,0,none⟩=some (.pointer (some ⟨b.G,0,none⟩))∧X.cell? ⟨Gp,1,none⟩=some (.int .i64 P.most)∧X.cell? ⟨Gp,2,none⟩=some (.int .i64 P.pages)∧X.cell? ⟨Gp,3,none⟩=some (.int .i64 P.free)∧X.cell? ⟨Gp,4,none⟩=some (.map (some b.bF))∧X.cell? ⟨Gp,5,none⟩=some b.vo∧X.cell? ⟨Gp,6,none⟩=some (.map (some b.bC))∧X.cell? ⟨Gp,7,none⟩=some (.int .i64 P.hits)∧X.cell? ⟨Gp,8,none⟩=some (.int .i64 P.misses)∧X.cell? ⟨Gp,9,none⟩=some (.int .i64 P.spills):=by
 refine⟨?_,?_,?_,?_,?_,?_,?_,?_,?_,?_⟩<;>simp[World.cell?,h.blk,poolC]
theorem PP.unfrozen {b:Bk}{P:PS}(h:PP X B D Gp b P L S)(k:Nat):X.frozen? ⟨Gp,k,none⟩=false:=by simp[World.frozen?,h.blk]
theorem PP.fcells {b:Bk}{P:PS}(h:PP X B D Gp b P L S){n:Int}{f:FrP}(hf:P.fs n=some f):X.cell? ⟨f.blk,0,none⟩=some (.string f.text)∧X.cell? ⟨f.blk,1,none⟩=some (.int .i64 0)∧X.cell? ⟨f.blk,2,none⟩=some (.bool f.dirty)∧X.frozen? ⟨f.blk,0,none⟩=false∧X.frozen? ⟨f.blk,2,none⟩=false∧f.blk<X.heap.size:=by
 have hb:=(h.frs n f hf).1;refine⟨?_,?_,?_,?_,?_,(Array.getElem?_eq_some_iff.1 hb).1⟩
 ·simp[World.cell?,hb,frC]
 ·simp[World.cell?,hb,frC]
 ·simp[World.cell?,hb,frC]
 ·simp[World.frozen?,hb]
 ·simp[World.frozen?,hb]
theorem PP.rowblk {b:Bk}{P:PS}(h:PP X B D Gp b P L S)(hg:b.vo.ownBlock=some g):(∃cur,X.heap[g]?=some (.cells cur 3 (0,0)))∧B≤g∧g<X.heap.size:=by
 have hl:=World.ownsRow.lt h.ord g hg;refine⟨?_,hl⟩;rcases h.ord.2 with⟨e,_⟩ | ⟨g',cap,cur,e,_,hgg,_⟩
 ·rw[e] at hg;cases hg
 ·rw[e] at hg;injection hg with hg;have hg:g'=g:=hg;subst hg;exact⟨cur,hgg⟩
theorem PP.below {b:Bk}{P:PS}(h:PP X B D Gp b P L S)(hb:Below X.heap.size X Y):PP Y B D Gp b P L S:=
 ⟨(hb.block _ h.lt).trans h.blk,h.log.below hb,h.fmap.keep (hb.block _ h.fmap.lt),h.chm.keep (hb.block _ h.chm.lt),fun n f hf=>⟨(hb.block _ (h.fcells hf).2.2.2.2.2).trans (h.frs n f hf).1,(h.frs n f hf).2⟩,h.inj,row_below h.ord hb,h.low,h.dif⟩
theorem PP.logs {b:Bk}{P:PS}(h:PP X B D Gp b P L S)(hb:BelL b.G b.bp b.bf B X Y)(hl:PL Y B D b.G b.bp b.bf 60000 L' S'):PP Y B D Gp b P L' S':=by
 obtain⟨e1,c1,m1⟩:=h.log.mp.isMap;obtain⟨e2,c2,m2⟩:=h.log.mf.isMap;have k:∀(g:Nat) (cs:Array Value) (t:TypeId),X.heap[g]?=some (.cells cs t (0,0))→tyP t=false→¬t=96→Y.heap[g]?=X.heap[g]?:=fun g cs t hg ht hn=>by
  refine hb.far g (Array.getElem?_eq_some_iff.1 hg).1 (far_of hg ht) (fun e=>?_) (fun e=>?_) (fun e=>?_)
  ·subst e;rw[h.log.blk] at hg;injection hg with hg;injection hg with _ hg _;exact hn hg.symm
  ·subst e;rw[m1] at hg;cases hg
  ·subst e;rw[m2] at hg;cases hg
 obtain⟨e3,c3,m3⟩:=h.fmap.isMap;obtain⟨e4,c4,m4⟩:=h.chm.isMap;have nG:∀{g:Nat} {es:Array MapEntry} {c:Nat},X.heap[g]?=some (.map es c)→¬g=b.G:=fun hg e=>by subst e;rw[h.log.blk] at hg;cases hg
 refine⟨(k Gp _ _ h.blk (by decide) (by decide)).trans h.blk,hl,h.fmap.keep (hb.far _ h.fmap.lt (h.fmap.far _) (nG m3) h.dif.2.1 h.dif.2.2.1),h.chm.keep (hb.far _ h.chm.lt (h.chm.far _) (nG m4) h.dif.2.2.2.1 h.dif.2.2.2.2),fun n f hf=>⟨(k _ _ _ (h.frs n f hf).1 (by decide) (by decide)).trans (h.frs n f hf).1,(h.frs n f hf).2⟩,h.inj,row_keep h.ord fun g hg=>?_,h.low,h.dif⟩;obtain⟨⟨cur,hc⟩,-⟩:=h.rowblk hg;exact k g cur _ hc (by decide) (by decide)
theorem PP.logs_stay {b:Bk}{P:PS}(h:PP X B D Gp b P L S)(hb:BelL b.G b.bp b.bf B X Y)(hg:X.heap[g]?=some (.cells cs t (0,0)))(ht:tyP t=false)(hn:¬t=96):Y.heap[g]?=X.heap[g]?:=by
 obtain⟨e1,c1,m1⟩:=h.log.mp.isMap;obtain⟨e2,c2,m2⟩:=h.log.mf.isMap;refine hb.far g (Array.getElem?_eq_some_iff.1 hg).1 (far_of hg ht) (fun e=>?_) (fun e=>?_) (fun e=>?_)
 ·subst e;rw[h.log.blk] at hg;injection hg with hg;injection hg with _ hg _;exact hn hg.symm
 ·subst e;rw[m1] at hg;cases hg
 ·subst e;rw[m2] at hg;cases hg
def IntS (X Y:World):Prop:=∀(g:Nat) (cs:Array Value),X.heap[g]?=some (.cells cs 3 (0,0))→Y.heap[g]?=X.heap[g]?
theorem PP.belL {b:Bk}{P:PS}(h:PP X B D Gp b P L S)(hb:BelL b.G b.bp b.bf B X Y):BelP b.M b.M B X Y:=
 ⟨hb.toBelow,fun g hg hf hm=>hb.far g hg (farQ hf) (fun e=>by subst e;exact nfar h.log.blk (by decide) hf) (fun e=>hm (by subst e;simp[Bk.M])) (fun e=>hm (by subst e;simp[Bk.M])),fun _ hg=>.inl hg⟩
theorem PL.other (h:PL X B D G bp bf n L S)(hg:X.grownBy Y (some c))(hf:farT tyP X c)(h1:¬G=c)(h2:¬bp=c)(h3:¬bf=c):PL Y B D G bp bf n L S:=
 ⟨(hg.block _ h.lt (fun e=>by injection e with e;exact h1 e)).trans h.blk,h.low,h.dif,h.mp.keep (hg.block _ h.mp.lt (fun e=>by injection e with e;exact h2 e)),h.mf.keep (hg.block _ h.mf.lt (fun e=>by injection e with e;exact h3 e)),h.dsk.grown hg hf⟩
def isC (X:World)(c:Nat)(t:TypeId):Prop:=∃cs,X.heap[c]?=some (.cells cs t (0,0))
def isM (X:World)(c:Nat):Prop:=∃es k,X.heap[c]?=some (.map es k)
theorem ne_CM (h:isC X c t)(k:isM X d):¬d=c:=fun e=>by
 subst e;obtain⟨cs,h⟩:=h;obtain⟨es,q,k⟩:=k;rw[h] at k;cases k
theorem ne_CC {u:TypeId}(h:isC X c t)(k:isC X d u)(hn:¬u=t):¬d=c:=fun e=>by
 subst e;obtain⟨cs,h⟩:=h;obtain⟨es,k⟩:=k;rw[h] at k;injection k with k;injection k with _ k _;exact hn k.symm
theorem isC.far (h:isC X c t)(ht:tyP t=false):farT tyP X c:=by obtain⟨cs,h⟩:=h;exact far_of h ht
theorem grown_belP {M:List Nat}(hg:X.grownBy Y (some c))(hl:B≤c)(hc:¬farT tyQ X c∨c∈M)(hB:B≤X.heap.size):BelP M M B X Y:=
 ⟨⟨hg.os,hg.tape,hg.output,hg.size,fun i hi=>hg.block i (Nat.lt_of_lt_of_le hi hB) (fun e=>by injection e with e;omega)⟩,fun i hi hf hm=>hg.block i hi (fun e=>by injection e with e;subst e;exact hc.elim (fun k=>k hf) (fun k=>hm k)),fun _ h=>.inl h⟩
theorem below_belP (h:Below X.heap.size X Y)(hB:B≤X.heap.size)(M:List Nat):BelP M M B X Y:=⟨h.mono hB,fun b hb _ _=>h.block b hb,fun _ h=>.inl h⟩
section
variable {b:Bk}{P:PS}
theorem PP.kinds (h:PP X B D Gp b P L S):isC X Gp 131∧isC X b.G 96∧isM X b.bp∧isM X b.bf∧isM X b.bF∧isM X b.bC∧(∀n f,P.fs n=some f→isC X f.blk 136)∧(∀g,b.vo.ownBlock=some g→isC X g 3):=
 ⟨⟨_,h.blk⟩,⟨_,h.log.blk⟩,h.log.mp.isMap,h.log.mf.isMap,h.fmap.isMap,h.chm.isMap,fun n f hf=>⟨_,(h.frs n f hf).1⟩,fun _ hg=>(h.rowblk hg).1⟩
theorem PP.own {P':PS}(h:PP X B D Gp b P L S)(he:(poolC b P).setIfInBounds k v=poolC b P')(h1:P'.fs=P.fs)(h2:P'.order=P.order)(h3:P'.chg=P.chg):PP (X.setCell ⟨Gp,k,none⟩ v) B D Gp b P' L S:=by
 obtain⟨k1,k2,k3,k4,k5,k6,k7,k8⟩:=h.kinds;have hg:=set_grown X Gp k v;have st:∀c,¬c=Gp→c<X.heap.size→(X.setCell ⟨Gp,k,none⟩ v).heap[c]?=X.heap[c]?:=fun c hc hl=>hg.block c hl (fun e=>by injection e with e;exact hc e)
 refine⟨by rw[set_blk h.blk,he],h.log.other hg (k1.far (by decide)) (ne_CC k1 k2 (by decide)) (ne_CM k1 k3) (ne_CM k1 k4),?_,?_,fun n f hf=>?_,fun n n' f f' hf hf'=>?_,?_,h.low,h.dif⟩
 ·rw[h1];exact h.fmap.keep (st _ (ne_CM k1 k5) h.fmap.lt)
 ·rw[h3];exact h.chm.keep (st _ (ne_CM k1 k6) h.chm.lt)
 ·rw[h1] at hf;exact⟨(st _ (ne_CC k1 (k7 n f hf) (by decide)) (h.fcells hf).2.2.2.2.2).trans (h.frs n f hf).1,(h.frs n f hf).2⟩
 ·rw[h1] at hf hf';exact h.inj n n' f f' hf hf'
 ·rw[h2];exact row_keep h.ord fun g hg'=>st _ (ne_CC k1 (k8 g hg') (by decide)) (h.rowblk hg').2.2
theorem PP.own_bel (h:PP X B D Gp b P L S)(k:Nat)(v:Value)(hB:B≤X.heap.size):BelP b.M b.M B X (X.setCell ⟨Gp,k,none⟩ v):=grown_belP (set_grown X Gp k v) h.low.1 (.inl (nfar h.blk (by decide))) hB
theorem PP.order (h:PP X B D Gp b P L S)(hg:X.grownBy Y r)(hr:∀g,r=some g→b.vo.ownBlock=some g)(ho:Y.ownsRow B 3 1 v l.length (l.map (Value.int .i64)))(hn:∀g,v.ownBlock=some g→b.vo.ownBlock=some g∨X.heap.size≤g):PP (Y.setCell ⟨Gp,5,none⟩ v) B D Gp { b with vo:=v } { P with order:=l } L S:=by
 obtain⟨k1,k2,k3,k4,k5,k6,k7,k8⟩:=h.kinds;have st:∀c,¬some c=r→c<X.heap.size→Y.heap[c]?=X.heap[c]?:=fun c hc hl=>hg.block c hl hc
 have nr:∀{c:Nat},(∀g,b.vo.ownBlock=some g→¬c=g)→¬some c=r:=fun hc e=>hc _ (hr _ e.symm) rfl
 have yblk:Y.heap[Gp]?=some (.cells (poolC b P) 131 (0,0)):=(st _ (nr fun g hg'=>ne_CC (k8 g hg') k1 (by decide)) h.lt).trans h.blk;have ylt:=(Array.getElem?_eq_some_iff.1 yblk).1;have hg2:=set_grown Y Gp 5 v;have st2:∀c,¬c=Gp→c<Y.heap.size→(Y.setCell ⟨Gp,5,none⟩ v).heap[c]?=Y.heap[c]?:=fun c hc hl=>hg2.block c hl (fun e=>by injection e with e;exact hc e)
 have both:∀c,(∀g,b.vo.ownBlock=some g→¬c=g)→¬c=Gp→c<X.heap.size→(Y.setCell ⟨Gp,5,none⟩ v).heap[c]?=X.heap[c]?:=fun c h1 h2 h3=>(st2 c h2 (Nat.lt_of_lt_of_le h3 hg.size)).trans (st c (nr h1) h3)
 have hlog:PL Y B D b.G b.bp b.bf 60000 L S:=by
  cases r with
  | none=>exact h.log.below ⟨hg.os,hg.tape,hg.output,hg.size,fun i hi=>hg.block i hi (by simp)⟩
  | some g =>
   have:=k8 g (hr g rfl);exact h.log.other hg (this.far (by decide)) (ne_CC this k2 (by decide)) (ne_CM this k3) (ne_CM this k4)
 refine⟨by rw[set_blk yblk];rfl,hlog.other hg2 (far_of yblk (by decide)) (ne_CC ⟨_,yblk⟩ ⟨_,hlog.blk⟩ (by decide)) (ne_CM ⟨_,yblk⟩ hlog.mp.isMap) (ne_CM ⟨_,yblk⟩ hlog.mf.isMap),?_,?_,fun n f hf=>?_,h.inj,?_,h.low,h.dif⟩
 ·exact h.fmap.keep (both _ (fun g hg'=>ne_CM (k8 g hg') k5) (ne_CM k1 k5) h.fmap.lt)
 ·exact h.chm.keep (both _ (fun g hg'=>ne_CM (k8 g hg') k6) (ne_CM k1 k6) h.chm.lt)
 ·exact⟨(both _ (fun g hg'=>ne_CC (k8 g hg') (k7 n f hf) (by decide)) (ne_CC k1 (k7 n f hf) (by decide)) (h.fcells hf).2.2.2.2.2).trans (h.frs n f hf).1,(h.frs n f hf).2⟩
 ·exact row_keep ho fun g hg'=>st2 g (fun e=>by
   subst e;rcases hn _ hg' with h1 | h1
   ·exact ne_CC (k8 _ h1) k1 (by decide) rfl
   ·have:=h.lt;omega) (World.ownsRow.lt ho g hg').2
theorem PP.order_bel (h:PP X B D Gp b P L S)(hg:X.grownBy Y r)(hr:∀g,r=some g→b.vo.ownBlock=some g)(hB:B≤X.heap.size):BelP b.M b.M B X (Y.setCell ⟨Gp,5,none⟩ v):=by
 have h1:BelP b.M b.M B X Y:=by
  cases r with
  | none=>exact below_belP ⟨hg.os,hg.tape,hg.output,hg.size,fun i hi=>hg.block i hi (by simp)⟩ hB _
  | some g =>
   obtain⟨⟨cur,hc⟩,hl,-⟩:=h.rowblk (hr g rfl);exact grown_belP hg hl (.inl (nfar hc (by decide))) hB
 refine h1.trans (grown_belP (set_grown Y Gp 5 v) h.low.1 (.inl ?_) (Nat.le_trans hB hg.size));have yblk:Y.heap[Gp]?=some (.cells (poolC b P) 131 (0,0)):=by
  refine(hg.block Gp h.lt (fun e=>?_)).trans h.blk;have:=hr _ e.symm;exact ne_CC (h.kinds.2.2.2.2.2.2.2 _ this) h.kinds.1 (by decide) rfl
 exact nfar yblk (by decide)
theorem PP.frame {n:Int}{f f':FrP}(h:PP X B D Gp b P L S)(hf:P.fs n=some f)(hb:f'.blk=f.blk)(hg:X.grownBy Y (some f.blk))(hY:Y.heap[f.blk]?=some (.cells (frC f') 136 (0,0))):PP Y B D Gp b { P with fs:=updR P.fs n f' } L S:=by
 obtain⟨k1,k2,k3,k4,k5,k6,k7,k8⟩:=h.kinds;have kf:=k7 n f hf;have st:∀c,¬c=f.blk→c<X.heap.size→Y.heap[c]?=X.heap[c]?:=fun c hc hl=>hg.block c hl (fun e=>by injection e with e;exact hc e)
 refine⟨(st _ (ne_CC kf k1 (by decide)) h.lt).trans h.blk,h.log.other hg (kf.far (by decide)) (ne_CC kf k2 (by decide)) (ne_CM kf k3) (ne_CM kf k4),?_,h.chm.keep (st _ (ne_CM kf k6) h.chm.lt),fun m g hm=>?_,fun m m' g g' hm hm' hgg=>?_,row_keep h.ord fun g hg'=>st _ (ne_CC kf (k8 g hg') (by decide)) (h.rowblk hg').2.2,h.low,h.dif⟩
 ·refine(h.fmap.keep (st _ (ne_CM kf k5) h.fmap.lt)).congr fun x _=>?_
  show(updR P.fs n f' x).map (·.blk)=_;by_cases e:x=n
  ·subst e;rw[updR_at,hf];show some f'.blk=some f.blk;rw[hb]
  ·rw[updR_ne _ _ e]
 ·have hm:updR P.fs n f' m=some g:=hm;by_cases e:m=n
  ·subst e;rw[updR_at] at hm;injection hm with hm;subst hm;rw[hb];exact⟨hY,(h.frs m f hf).2⟩
  ·rw[updR_ne _ _ e] at hm;exact⟨(st _ (fun k=>e (h.inj m n g f hm hf k)) (h.fcells hm).2.2.2.2.2).trans (h.frs m g hm).1,(h.frs m g hm).2⟩
 ·have hm:updR P.fs n f' m=some g:=hm;have hm':updR P.fs n f' m'=some g':=hm';have b1:∃q,P.fs m=some q∧q.blk=g.blk:=by
   by_cases e:m=n
   ·subst e;rw[updR_at] at hm;injection hm with hm;subst hm;exact⟨f,hf,hb.symm⟩
   ·rw[updR_ne _ _ e] at hm;exact⟨g,hm,rfl⟩
  have b2:∃q,P.fs m'=some q∧q.blk=g'.blk:=by
   by_cases e:m'=n
   ·subst e;rw[updR_at] at hm';injection hm' with hm';subst hm';exact⟨f,hf,hb.symm⟩
   ·rw[updR_ne _ _ e] at hm';exact⟨g',hm',rfl⟩
  obtain⟨q,q1,q2⟩:=b1;obtain⟨q',q1',q2'⟩:=b2;exact h.inj m m' q q' q1 q1' (by rw[q2,q2'];exact hgg)
theorem PP.frame_bel {n:Int}{f:FrP}(h:PP X B D Gp b P L S)(hf:P.fs n=some f)(hg:X.grownBy Y (some f.blk))(hB:B≤X.heap.size):BelP b.M b.M B X Y:=grown_belP hg (h.frs n f hf).2 (.inl (nfar (h.frs n f hf).1 (by decide))) hB
theorem PP.fmaps {fs:Int→Option FrP}(h:PP X B D Gp b P L S)(hg:X.grownBy Y (some b.bF))(hM:MF Y b.bF k (fun n=>(fs n).map (·.blk)))(hk:k≤65)(hfr:∀n f,fs n=some f→(X.heap[f.blk]?=some (.cells (frC f) 136 (0,0))∧B≤f.blk))(hi:∀n n' f f',fs n=some f→fs n'=some f'→f.blk=f'.blk→n=n'):PP Y B D Gp b { P with fs:=fs } L S:=by
 obtain⟨k1,k2,k3,k4,k5,k6,k7,k8⟩:=h.kinds;have st:∀c,¬c=b.bF→c<X.heap.size→Y.heap[c]?=X.heap[c]?:=fun c hc hl=>hg.block c hl (fun e=>by injection e with e;exact hc e)
 refine⟨(st _ (fun e=>ne_CM k1 k5 e.symm) h.lt).trans h.blk,h.log.other hg (h.fmap.far _) (fun e=>ne_CM k2 k5 e.symm) (fun e=>h.dif.2.1 e.symm) (fun e=>h.dif.2.2.1 e.symm),hM.mono hk,h.chm.keep (st _ (fun e=>h.dif.1 e.symm) h.chm.lt),fun n f hf=>?_,hi,row_keep h.ord fun g hg'=>st _ (fun e=>ne_CM (k8 g hg') k5 e.symm) (h.rowblk hg').2.2,h.low,h.dif⟩;have:=hfr n f hf;exact⟨(st _ (fun e=>ne_CM ⟨_,this.1⟩ k5 e.symm) (Array.getElem?_eq_some_iff.1 this.1).1).trans this.1,this.2⟩
theorem PP.fmaps_bel (h:PP X B D Gp b P L S)(hg:X.grownBy Y (some b.bF))(hB:B≤X.heap.size):BelP b.M b.M B X Y:=grown_belP hg h.low.2.1 (.inr (by simp[Bk.M])) hB
theorem PP.chms {c:Int→Bool}(h:PP X B D Gp b P L S)(hg:X.grownBy Y (some b.bC))(hM:MU Y b.bC k c)(hk:k≤60000):PP Y B D Gp b { P with chg:=c } L S:=by
 obtain⟨k1,k2,k3,k4,k5,k6,k7,k8⟩:=h.kinds;have st:∀c,¬c=b.bC→c<X.heap.size→Y.heap[c]?=X.heap[c]?:=fun c hc hl=>hg.block c hl (fun e=>by injection e with e;exact hc e)
 exact⟨(st _ (fun e=>ne_CM k1 k6 e.symm) h.lt).trans h.blk,h.log.other hg (h.chm.far _) (fun e=>ne_CM k2 k6 e.symm) (fun e=>h.dif.2.2.2.1 e.symm) (fun e=>h.dif.2.2.2.2 e.symm),h.fmap.keep (st _ h.dif.1 h.fmap.lt),hM.mono hk,fun n f hf=>⟨(st _ (fun e=>ne_CM (k7 n f hf) k6 e.symm) (h.fcells hf).2.2.2.2.2).trans (h.frs n f hf).1,(h.frs n f hf).2⟩,h.inj,row_keep h.ord fun g hg'=>st _ (fun e=>ne_CM (k8 g hg') k6 e.symm) (h.rowblk hg').2.2,h.low,h.dif⟩
theorem PP.chms_bel (h:PP X B D Gp b P L S)(hg:X.grownBy Y (some b.bC))(hB:B≤X.heap.size):BelP b.M b.M B X Y:=grown_belP hg h.low.2.2 (.inr (by simp[Bk.M])) hB
theorem PP.newset (h:PP X B D Gp b P L S)(hB:B≤X.heap.size):PP ((X.alloc (.map #[] 0)).setCell ⟨Gp,6,none⟩ (.map (some X.heap.size))) B D Gp { b with bC:=X.heap.size } { P with chg:=fun _=>false } L S∧BelP b.M ({ b with bC:=X.heap.size }:Bk).M B X ((X.alloc (.map #[] 0)).setCell ⟨Gp,6,none⟩ (.map (some X.heap.size))):=by
 have hb:Below X.heap.size X (X.alloc (.map #[] 0)):=(Below.refl _ _).alloc (Nat.le_refl _) _;have h1:=h.below hb;obtain⟨k1,k2,k3,k4,k5,k6,k7,k8⟩:=h1.kinds;have mk:=MU.made X;have hlt:=h.lt;have hg:=set_grown (X.alloc (.map #[] 0)) Gp 6 (.map (some X.heap.size));have st:∀c,¬c=Gp→c<(X.alloc (.map #[] 0)).heap.size→((X.alloc (.map #[] 0)).setCell ⟨Gp,6,none⟩ (.map (some X.heap.size))).heap[c]?=(X.alloc (.map #[] 0)).heap[c]?:=fun c hc hl=>hg.block c hl (fun e=>by injection e with e;exact hc e)
 refine⟨⟨by rw[set_blk h1.blk];rfl,h1.log.other hg (k1.far (by decide)) (ne_CC k1 k2 (by decide)) (ne_CM k1 k3) (ne_CM k1 k4),h1.fmap.keep (st _ (ne_CM k1 k5) h1.fmap.lt),(mk.keep (st _ (by omega) mk.lt)).mono (Nat.zero_le _),fun n f hf=>⟨(st _ (ne_CC k1 (k7 n f hf) (by decide)) (h1.fcells hf).2.2.2.2.2).trans (h1.frs n f hf).1,(h1.frs n f hf).2⟩,h1.inj,row_keep h1.ord fun g hg'=>st _ (ne_CC k1 (k8 g hg') (by decide)) (h1.rowblk hg').2.2,⟨h.low.1,h.low.2.1,hB⟩,?_⟩,?_⟩
 ·have a1:=h.fmap.lt;have a2:=h.log.mp.lt;have a3:=h.log.mf.lt;exact⟨by show ¬b.bF=X.heap.size;omega,h.dif.2.1,h.dif.2.2.1,by show ¬X.heap.size=b.bp;omega,by show ¬X.heap.size=b.bf;omega⟩
 ·have b1:=(below_belP hb hB b.M).trans (h1.own_bel 6 (.map (some X.heap.size)) (Nat.le_trans hB hb.size));refine⟨b1.toBelow,b1.far,fun c hc=>?_⟩;simp[Bk.M] at hc ⊢;rcases hc with rfl | rfl | rfl | rfl
  ·simp
  ·simp
  ·simp
  ·right;exact Nat.le_refl _
theorem PP.other (h:PP X B D Gp b P L S)(hg:X.grownBy Y (some c))(hc:isC X c t)(ht:tyQ t=false):PP Y B D Gp b P L S:=by
 obtain⟨k1,k2,k3,k4,k5,k6,k7,k8⟩:=h.kinds;unfold tyQ at ht;simp only[Bool.or_eq_false_iff,decide_eq_false_iff_not] at ht;obtain⟨⟨⟨⟨t1,t2⟩,t3⟩,t4⟩,t5⟩:=ht;have st:∀d,¬d=c→d<X.heap.size→Y.heap[d]?=X.heap[d]?:=fun d hd hl=>hg.block d hl (fun e=>by injection e with e;exact hd e)
 exact⟨(st _ (ne_CC hc k1 (fun e=>t3 e.symm)) h.lt).trans h.blk,h.log.other hg (hc.far t1) (ne_CC hc k2 (fun e=>t2 e.symm)) (ne_CM hc k3) (ne_CM hc k4),h.fmap.keep (st _ (ne_CM hc k5) h.fmap.lt),h.chm.keep (st _ (ne_CM hc k6) h.chm.lt),fun n f hf=>⟨(st _ (ne_CC hc (k7 n f hf) (fun e=>t4 e.symm)) (h.fcells hf).2.2.2.2.2).trans (h.frs n f hf).1,(h.frs n f hf).2⟩,h.inj,row_keep h.ord fun g hg'=>st _ (ne_CC hc (k8 g hg') (fun e=>t5 e.symm)) (h.rowblk hg').2.2,h.low,h.dif⟩
end
theorem BelP.other {M:List Nat}(h:BelP M M' B X Y)(hg:Y.grownBy Z (some c))(hc:X.heap.size≤c)(hB:B≤X.heap.size):BelP M M' B X Z:=
 ⟨h.toBelow.trans ⟨hg.os,hg.tape,hg.output,hg.size,fun i hi=>hg.block i (Nat.lt_of_lt_of_le hi (Nat.le_trans hB h.size)) (fun e=>by injection e with e;omega)⟩,fun i hi hf hm=>(hg.block i (Nat.lt_of_lt_of_le hi h.size) (fun e=>by injection e with e;omega)).trans (h.far i hi hf hm),h.maps⟩
attribute [local go_sem ↓] Go.wp_at_zero Go.wp_at_succ
section
variable {b:Bk}{P:PS}
theorem cisPinned (h:PP X B D Gp b P L S){n:Int}{f:FrP}(hf:P.fs n=some f)(hn:i64 n):Calls Tryz.prog 80 #[(.pointer (some ⟨Gp,0,none⟩)),.int .i64 n] X fun e w'=>e=.returned (.bool false)∧w'=X:=by
 obtain⟨c0,c1,c2,c3,c4,c5,c6,c7,c8,c9⟩:=h.cells;obtain⟨f0,f1,f2,-,-,-⟩:=h.fcells hf;have hl:=h.fmap.look1 hn;simp only[hf,Option.map_some,ptrO] at hl;clear h c0 c1 c2 c3 c5 c6 c7 c8 c9 f0 f2;go_enter Tryz.func80,Tryz.ntmps80;go_wp2;go_ret;exact⟨rfl,rfl⟩
theorem cisLoose (h:PP X B D Gp b P L S){n:Int}{f:FrP}(hf:P.fs n=some f)(hn:i64 n):Calls Tryz.prog 127 #[(.pointer (some ⟨Gp,0,none⟩)),.int .i64 n] X fun e w'=>e=.returned (.bool true)∧w'=X:=by
 go_enter Tryz.func127,Tryz.ntmps127;go_wp2_with fail
 refine(cisPinned h hf hn).mono ?_;rintro e w1⟨rfl,hw⟩;rw[hw];clear hw;go_wp2;go_ret;exact⟨rfl,rfl⟩
end
theorem getD_at (h:k<l.length):l.getD k 0=l[k]:=by simp[List.getD,List.getElem?_eq_getElem h]
def idxF (q:Int→Bool):List Int→Int
 | []=>-1
 | x::r=>if q x then 0 else if idxF q r=-1 then -1 else idxF q r+1
theorem idxF_ge (q:Int→Bool):∀l,-1≤idxF q l
 | []=>by unfold idxF;decide
 | x :: r => by
  have:=idxF_ge q r;unfold idxF;split
  ·decide
  ·split<;>omega
theorem idxF_none:∀{l:List Int},(∀x∈l,q x=false)→idxF q l=-1
 | [],_=>rfl
 | x :: r, h => by
  unfold idxF;rw[h x (List.mem_cons_self ..),if_neg (by decide),idxF_none (fun y hy=>h y (List.mem_cons_of_mem _ hy)),if_pos rfl]
theorem idxF_app:∀{l:List Int} {x:Int} {r:List Int},(∀y∈l,q y=false)→q x=true→idxF q (l++x::r)=l.length
 | [], x, r, _, hx => by
  show idxF q (x::r)=_;unfold idxF;rw[if_pos hx];rfl
 | y :: l, x, r, h, hx => by
  show idxF q (y::(l++x::r))=_;unfold idxF;rw[h y (List.mem_cons_self ..),if_neg (by decide),idxF_app (fun z hz=>h z (List.mem_cons_of_mem _ hz)) hx,if_neg (by omega)];simp
theorem idxF_spec {q:Int→Bool}:∀{l:List Int},idxF q l=-1∧(∀x∈l,q x=false)∨∃a x r,l=a++x::r∧(∀y∈a,q y=false)∧q x=true∧idxF q l=a.length
 | []=>.inl ⟨rfl,by simp⟩
 | x :: r => by
  cases hq:q x with
  | true=>exact .inr ⟨[],x,r,rfl,by simp,hq,by unfold idxF;rw[if_pos hq];rfl⟩
  | false =>
   rcases idxF_spec (q:=q) (l:=r) with⟨h1,h2⟩|⟨a,y,s,rfl,h2,h3,h4⟩
   ·refine .inl ⟨by unfold idxF;rw[hq,if_neg (by decide),if_pos h1],fun y hy=>?_⟩;rcases List.mem_cons.1 hy with rfl | hy
    ·exact hq
    ·exact h2 y hy
   ·refine .inr ⟨x::a,y,s,rfl,fun z hz=>?_,h3,?_⟩
    ·rcases List.mem_cons.1 hz with rfl|hz
     ·exact hq
     ·exact h2 z hz
    ·exact idxF_app (l:=x::a) (fun z hz=>by rcases List.mem_cons.1 hz with rfl | hz;exact hq;exact h2 z hz) h3
theorem cindexL (pv:Value)(q:Int→Bool)(bl off n c:Nat)(zs:List Int)(w:World)(hz:zs.length=n)(hn:n≤1000000)(hc:∀j,j<n→w.cell? ⟨bl,off+j,none⟩=some (.int .i64 (zs.getD j 0)))(hp:∀x∈zs,Calls Tryz.prog 127 #[pv,.int .i64 x] w fun e w'=>e=.returned (.bool (q x))∧w'=w):Calls Tryz.prog 115 #[.slice (some ⟨bl,off,none⟩) n c,.func (.func 127) #[pv] #[]] w fun e w'=>e=.returned (.int .i64 (idxF q zs))∧w'=w:=by
 have HP:Hid _:=hp;have HC:Hid (∀j,j<n→w.cell? ⟨bl,off+j,none⟩=some (.int .i64 (zs.getD j 0))):=hc;clear hp hc;go_enter Tryz.func115,Tryz.ntmps115;go_wp2_with fail
 go_loop [5,8] (fun _ i=>∃k:Nat,k≤n∧i=.int .i64 k∧∀x∈zs.take k,q x=false) (fun _ i=>match i with | .int _ m=>n-m.toNat | _=>0)
 case atStart=>exact⟨0,Nat.zero_le _,rfl,by simp⟩
 case round =>
  obtain⟨k,hk,rfl,hne⟩:=hrel;by_cases hlt:k<n
  ·have hx:=HC.out k hlt;have hk':(k:Int)<(n:Int):=by omega
   have hmem:zs.getD k 0∈zs:=by rw[getD_at (show k<zs.length by omega)];exact List.getElem_mem _
   have hP:=HP.out _ hmem;have hsp:zs=zs.take k++zs.getD k 0::zs.drop (k+1):=by
    rw[getD_at (show k<zs.length by omega),←List.drop_eq_getElem_cons,List.take_append_drop]
   have htk:zs.take (k+1)=zs.take k++[zs.getD k 0]:=by rw[getD_at (show k<zs.length by omega),List.take_succ_eq_append_getElem]
   generalize zs.getD k 0=x at *;have HSP:Hid _:=hsp;have HTK:Hid _:=htk;have HNE:Hid _:=hne;clear hsp htk hne;go_wp2_with fail
   refine hP.mono ?_;rintro e w1⟨rfl,hw⟩;rw[hw];clear hw;cases hq:q x with
   | true =>
    have HE:Hid (idxF q zs=k):=by
     show idxF q zs=k;rw[HSP.out,idxF_app HNE.out hq,List.length_take];omega
    go_wp2;go_ret;exact⟨by rw[HE.out];(first | done | rfl),rfl⟩
   | false =>
    have HN:Hid (∀y∈zs.take (k+1),q y=false):=fun y hy=>by
     rw[HTK.out,List.mem_append] at hy;rcases hy with hy | hy
     ·exact HNE.out y hy
     ·obtain rfl:=List.mem_singleton.1 hy;exact hq
    go_wp2_with fail
    go_round
    case rel=>exact⟨k+1,by omega,by go_num,HN.out⟩
    case measure=>simp;omega
  ·obtain rfl:k=n:=by omega
   have HE:Hid (idxF q zs=-1):=idxF_none (fun x hx=>hne x (by rw[List.take_of_length_le (by omega)];exact hx));go_wp2;go_ret;exact⟨by rw[HE.out];(first | done | rfl),rfl⟩
theorem cindexP (pv:Value)(q:Int→Bool)(bl off n c:Nat)(zs:List Int)(w:World)(hz:zs.length=n)(hn:n≤1000000)(hc:∀j,j<n→w.cell? ⟨bl,off+j,none⟩=some (.int .i64 (zs.getD j 0)))(hp:∀x∈zs,Calls Tryz.prog 80 #[pv,.int .i64 x] w fun e w'=>e=.returned (.bool (q x))∧w'=w):Calls Tryz.prog 115 #[.slice (some ⟨bl,off,none⟩) n c,.func (.func 80) #[pv] #[]] w fun e w'=>e=.returned (.int .i64 (idxF q zs))∧w'=w:=by
 have HP:Hid _:=hp;have HC:Hid (∀j,j<n→w.cell? ⟨bl,off+j,none⟩=some (.int .i64 (zs.getD j 0))):=hc;clear hp hc;go_enter Tryz.func115,Tryz.ntmps115;go_wp2_with fail
 go_loop [5,8] (fun _ i=>∃k:Nat,k≤n∧i=.int .i64 k∧∀x∈zs.take k,q x=false) (fun _ i=>match i with | .int _ m=>n-m.toNat | _=>0)
 case atStart=>exact⟨0,Nat.zero_le _,rfl,by simp⟩
 case round =>
  obtain⟨k,hk,rfl,hne⟩:=hrel;by_cases hlt:k<n
  ·have hx:=HC.out k hlt;have hk':(k:Int)<(n:Int):=by omega
   have hmem:zs.getD k 0∈zs:=by rw[getD_at (show k<zs.length by omega)];exact List.getElem_mem _
   have hP:=HP.out _ hmem;have hsp:zs=zs.take k++zs.getD k 0::zs.drop (k+1):=by
    rw[getD_at (show k<zs.length by omega),←List.drop_eq_getElem_cons,List.take_append_drop]
   have htk:zs.take (k+1)=zs.take k++[zs.getD k 0]:=by rw[getD_at (show k<zs.length by omega),List.take_succ_eq_append_getElem]
   generalize zs.getD k 0=x at *;have HSP:Hid _:=hsp;have HTK:Hid _:=htk;have HNE:Hid _:=hne;clear hsp htk hne;go_wp2_with fail
   refine hP.mono ?_;rintro e w1⟨rfl,hw⟩;rw[hw];clear hw;cases hq:q x with
   | true =>
    have HE:Hid (idxF q zs=k):=by
     show idxF q zs=k;rw[HSP.out,idxF_app HNE.out hq,List.length_take];omega
    go_wp2;go_ret;exact⟨by rw[HE.out];(first | done | rfl),rfl⟩
   | false =>
    have HN:Hid (∀y∈zs.take (k+1),q y=false):=fun y hy=>by
     rw[HTK.out,List.mem_append] at hy;rcases hy with hy | hy
     ·exact HNE.out y hy
     ·obtain rfl:=List.mem_singleton.1 hy;exact hq
    go_wp2_with fail
    go_round
    case rel=>exact⟨k+1,by omega,by go_num,HN.out⟩
    case measure=>simp;omega
  ·obtain rfl:k=n:=by omega
   have HE:Hid (idxF q zs=-1):=idxF_none (fun x hx=>hne x (by rw[List.take_of_length_le (by omega)];exact hx));go_wp2;go_ret;exact⟨by rw[HE.out];(first | done | rfl),rfl⟩
theorem cindexG (pv:Value)(q:Int→Bool)(bl off n c:Nat)(zs:List Int)(w:World)(hz:zs.length=n)(hn:n≤1000000)(hc:∀j,j<n→w.cell? ⟨bl,off+j,none⟩=some (.int .i64 (zs.getD j 0)))(hp:∀x∈zs,Calls Tryz.prog 117 #[pv,.int .i64 x] w fun e w'=>e=.returned (.bool (q x))∧w'=w):Calls Tryz.prog 115 #[.slice (some ⟨bl,off,none⟩) n c,.func (.func 117) #[pv] #[]] w fun e w'=>e=.returned (.int .i64 (idxF q zs))∧w'=w:=by
 have HP:Hid _:=hp;have HC:Hid (∀j,j<n→w.cell? ⟨bl,off+j,none⟩=some (.int .i64 (zs.getD j 0))):=hc;clear hp hc;go_enter Tryz.func115,Tryz.ntmps115;go_wp2_with fail
 go_loop [5,8] (fun _ i=>∃k:Nat,k≤n∧i=.int .i64 k∧∀x∈zs.take k,q x=false) (fun _ i=>match i with | .int _ m=>n-m.toNat | _=>0)
 case atStart=>exact⟨0,Nat.zero_le _,rfl,by simp⟩
 case round =>
  obtain⟨k,hk,rfl,hne⟩:=hrel;by_cases hlt:k<n
  ·have hx:=HC.out k hlt;have hk':(k:Int)<(n:Int):=by omega
   have hmem:zs.getD k 0∈zs:=by rw[getD_at (show k<zs.length by omega)];exact List.getElem_mem _
   have hP:=HP.out _ hmem;have hsp:zs=zs.take k++zs.getD k 0::zs.drop (k+1):=by
    rw[getD_at (show k<zs.length by omega),←List.drop_eq_getElem_cons,List.take_append_drop]
   have htk:zs.take (k+1)=zs.take k++[zs.getD k 0]:=by rw[getD_at (show k<zs.length by omega),List.take_succ_eq_append_getElem]
   generalize zs.getD k 0=x at *;have HSP:Hid _:=hsp;have HTK:Hid _:=htk;have HNE:Hid _:=hne;clear hsp htk hne;go_wp2_with fail
   refine hP.mono ?_;rintro e w1⟨rfl,hw⟩;rw[hw];clear hw;cases hq:q x with
   | true =>
    have HE:Hid (idxF q zs=k):=by
     show idxF q zs=k;rw[HSP.out,idxF_app HNE.out hq,List.length_take];omega
    go_wp2;go_ret;exact⟨by rw[HE.out];(first | done | rfl),rfl⟩
   | false =>
    have HN:Hid (∀y∈zs.take (k+1),q y=false):=fun y hy=>by
     rw[HTK.out,List.mem_append] at hy;rcases hy with hy | hy
     ·exact HNE.out y hy
     ·obtain rfl:=List.mem_singleton.1 hy;exact hq
    go_wp2_with fail
    go_round
    case rel=>exact⟨k+1,by omega,by go_num,HN.out⟩
    case measure=>simp;omega
  ·obtain rfl:k=n:=by omega
   have HE:Hid (idxF q zs=-1):=idxF_none (fun x hx=>hne x (by rw[List.take_of_length_le (by omega)];exact hx));go_wp2;go_ret;exact⟨by rw[HE.out];(first | done | rfl),rfl⟩
end Go.Proofs.YtfjkockcgddgbaaGreat
