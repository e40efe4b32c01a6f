/- a part -/
import Derived.Test.YtiaibgfhigdgdaaGreatS11
import Derived.Test.YtiaibgfhigdgdaaGreatShelf2
import Derived.Test.YtiaibgfhigdgdaaGreatShelf3
set_option maxRecDepth 100000
set_option maxHeartbeats 8000000
namespace Go.Proofs.YtiaibgfhigdgdaaGreat
open Go.RowKit Go.Lib Go.Maps Go.Sort
variable {α:Type}{w w' w'':World}{off i p d n top c B D Gp m pages tb root base g cap b' pl pr:Nat}{v vl vr:NV}{key:ByteArray}{es:List Ent}{t:TypeId}{V V':PV}{K:Pgs}{A:Nat→PgV}{fl X:List Nat}{s sl sr:Value}{l:List ByteArray}{a:Option Addr}
attribute [local go_sem ↓] Go.wp_at_zero Go.wp_at_succ
theorem cb_lt:∀a b:List UInt8,compareBytes a b<0↔Op.bytesLess a b=true
 | [],[]=>by simp[compareBytes,Op.bytesLess]
 | [],_::_=>by simp[compareBytes,Op.bytesLess]
 | _::_,[]=>by simp[compareBytes,Op.bytesLess]
 | a :: x, b :: y => by
  simp only[compareBytes,Op.bytesLess];by_cases h1:a<b
  ·simp[h1]
  ·by_cases h2:b<a
   ·have hne:¬a=b:=fun e=>by rw[e] at h2;exact UInt8.lt_irrefl _ h2
    simp[h1,h2,hne]
   ·have e:a=b:=by
     apply UInt8.toNat_inj.1;have a1:¬a.toNat<b.toNat:=fun h=>h1 (UInt8.lt_iff_toNat_lt.2 h)
     have a2:¬b.toNat<a.toNat:=fun h=>h2 (UInt8.lt_iff_toNat_lt.2 h)
     omega
    simp[e,cb_lt x y]
theorem cb_eq:∀a b:List UInt8,compareBytes a b=0↔a=b
 | [],[]=>by simp[compareBytes]
 | [],_::_=>by simp[compareBytes]
 | _::_,[]=>by simp[compareBytes]
 | a :: x, b :: y => by
  simp only[compareBytes];by_cases h1:a<b
  ·have hne:¬a=b:=fun e=>by rw[e] at h1;exact UInt8.lt_irrefl _ h1
   simp[h1,hne]
  ·by_cases h2:b<a
   ·have hne:¬a=b:=fun e=>by rw[e] at h2;exact UInt8.lt_irrefl _ h2
    simp[h1,h2,hne]
   ·have e:a=b:=by
     apply UInt8.toNat_inj.1;have a1:¬a.toNat<b.toNat:=fun h=>h1 (UInt8.lt_iff_toNat_lt.2 h)
     have a2:¬b.toNat<a.toNat:=fun h=>h2 (UInt8.lt_iff_toNat_lt.2 h)
     omega
    simp[e,cb_eq x y]
def cmpK (a b:ByteArray):Int:=compareBytes a.data.toList b.data.toList
theorem cmpK_lt (a b:ByteArray):cmpK a b<0↔klt a b=true:=by
 unfold cmpK klt;rw[cb_lt,ByteArray.toList_eq,ByteArray.toList_eq]
theorem cmpK_eq (a b:ByteArray):cmpK a b=0↔a=b:=by
 unfold cmpK;rw[cb_eq];refine⟨fun h=>?_,fun h=>by rw[h]⟩;cases a;cases b;simp at h;rw[h]
structure KC where
 c:ByteArray
 ok:kS c≤c.size∧c.size≤240
abbrev kc0:Inhabited KC:=⟨⟨⟨#[0]⟩,by decide,by decide⟩⟩
def encK (x:KC):Value:=.string x.c
theorem cfind1 (x:KC)(key:ByteArray)(w:World):Calls Tryz.prog 147 #[.string x.c,.string key] w fun e w'=>e=.returned (.int .i64 (cmpK (keyB x.c) key))∧w'=w:=by
 have H1:=hide (fun X=>ckeyOf x.c X x.ok.1 (by have:=x.ok.2;omega));have H2:=hide (fun X=>Tryz.strings_Compare (keyB x.c) key X);have e1:compareBytes (keyB x.c).data.toList key.data.toList=cmpK (keyB x.c) key:=rfl;rw[e1] at H2;generalize cmpK (keyB x.c) key=r at *;generalize keyB x.c=kx at *;go_enter Tryz.func147,Tryz.ntmps147;go_wp2_with fail
 refine(H1.out _).mono ?_;rintro e w1⟨rfl,hw⟩;rw[hw];clear hw;go_wp2_with fail
 refine(H2.out _).mono ?_;rintro e w2⟨rfl,hw⟩;rw[hw];clear hw;go_wp2_with fail
 go_ret;exact⟨rfl,rfl⟩
def posK (ks:List ByteArray)(key:ByteArray):Nat:=ks.countP fun k=>klt k key
def hasK (ks:List ByteArray)(key:ByteArray):Bool:=decide (ks[posK ks key]?=some key)
theorem SW_below [Inhabited α]{enc:α→Value}{blk:Nat}{d:Array α}(h:SW enc w blk off d w')(hH:Holds enc w blk off d):Below w.heap.size w w':=by
 obtain⟨n,os,rfl⟩:=h;unfold sortWorld;rw[putRow_ahead,putRow_self _ _ _ _ _ hH];refine⟨rfl,rfl,rfl,by show _≤(w.heap++os).size;simp,fun i hi=>?_⟩;show(w.heap++os)[i]?=w.heap[i]?;rw[Array.getElem?_append_left hi]
def toKC (l:List ByteArray)(h:∀c∈l,kS c≤c.size∧c.size≤240):List KC:=l.attach.map fun c=>⟨c.1,h c.1 c.2⟩
theorem toKC_map (l:List ByteArray)(h:∀c∈l,kS c≤c.size∧c.size≤240):(toKC l h).map (·.c)=l:=by
 unfold toKC;rw[List.map_map];exact List.attach_map_subtype_val l
theorem toKC_len (l:List ByteArray)(h:∀c∈l,kS c≤c.size∧c.size≤240):(toKC l h).length=l.length:=by simp[toKC]
theorem toKC_cnt (l:List ByteArray)(h:∀c∈l,kS c≤c.size∧c.size≤240)(key:ByteArray):(toKC l h).countP (fun x=>decide (cmpK (keyB x.c) key<0))=posK (l.map keyB) key:=by
 unfold posK;rw[List.countP_map]
 conv=>rhs;rw[←toKC_map l h]
 rw[List.countP_map];refine List.countP_congr fun x _=>?_
 simp only[Function.comp,decide_eq_true_eq];exact cmpK_lt _ _
theorem toKC_at [Inhabited KC](l:List ByteArray)(h:∀c∈l,kS c≤c.size∧c.size≤240)(hi:i<l.length):((toKC l h).toArray[i]!).c=tx l i:=by
 rw[getElem!_pos _ i (by simpa[toKC_len] using hi)];have:((toKC l h).map (·.c))[i]'(by rw[toKC_map];exact hi)=l[i]:=by simp only[toKC_map]
 rw[List.getElem_map] at this;rw[tx_get hi,←this];simp
theorem cfindN (h:NR w p v)(hk:∀c∈v.cells,kS c≤c.size∧c.size≤240)(hl:v.cells.length≤1000)(hs:(v.cells.map keyB).Pairwise fun a b=>klt a b=true)(key:ByteArray):Calls Tryz.prog 95 #[(.pointer (some ⟨p,0,none⟩)),.string key] w fun e w'=>e=.returned (.tuple #[.int .i64 (posK (v.cells.map keyB) key:Int),.bool (hasK (v.cells.map keyB) key)])∧Below w.heap.size w w':=by
 haveI:=kc0;obtain⟨a,c,q1,q2⟩:=h;obtain⟨n0,n1,n2,n3,n4,n5,n6,n7,n8⟩:=q1.cells;have HF:Hid (Calls Tryz.prog 146 #[.slice a v.cells.length c,.string key,.func (.func 147) #[] #[]] w fun e w'=>e=.returned (.tuple #[.int .i64 (posK (v.cells.map keyB) key:Int),.bool (hasK (v.cells.map keyB) key)])∧Below w.heap.size w w'):=by
  rcases q2 with q2|⟨b,off,cur,rfl,hb,hc⟩
  ·rw[q2];refine(Any.slices_BinarySearchFunc_none Tryz.bsfA a c (.string key) (.func (.func 147) #[] #[]) w).mono ?_;rintro e w'⟨rfl,rfl⟩;exact⟨rfl,Below.refl _ _⟩
  ·have hd:(toKC v.cells hk).toArray.size=v.cells.length:=by simp[toKC_len]
   have eg:∀args w,(callFunc 147 args).run Tryz.prog w=.ok (.enter 147 args) w:=fun args w=>by go_simp
   have hH:Holds encK w b off (toKC v.cells hk).toArray:=fun j hj=>by
    rw[hd] at hj;unfold encK;rw[toKC_at v.cells hk hj];exact⟨by simp only[World.cell?,hb];exact hc j hj,by simp[World.frozen?,hb]⟩
   have hcmp:CmpLaysT Tryz.prog 147 #[] encK (.string key) (fun x=>cmpK (keyB x.c) key) b off (toKC v.cells hk).toArray.size w:=fun m os dk _ x=>by
    refine(cfind1 x key _).mono ?_;rintro e w'⟨rfl,rfl⟩;exact⟨rfl,0,#[],by simp[World.drewN]⟩
   have hkeys:∀i,i<v.cells.length→keyB (((toKC v.cells hk).toArray[i]!).c)=tx (v.cells.map keyB) i:=fun i hi=>by
    rw[toKC_at v.cells hk hi,tx_get hi,tx_get (by simpa using hi)];simp
   have:=Any.slices_BinarySearchFunc Tryz.bsfA encK (fun _=>rfl) (.string key) (fun x=>cmpK (keyB x.c) key) 147 #[] b off c (toKC v.cells hk).toArray w eg hcmp hH (Array.getElem?_eq_some_iff.1 hb).1 (by rw[hd];omega) (fun i j hij hj hlt=>by
    rw[hd] at hj;rw[cmpK_lt,hkeys j hj] at hlt;rw[cmpK_lt,hkeys i (by omega)];by_cases e:i=j
    ·rw[e];exact hlt
    ·refine klt_tr ?_ hlt;rw[tx_get (by simp;omega),tx_get (by simp;omega)];exact List.pairwise_iff_getElem.1 hs i j (by simp;omega) (by simp;omega) (by omega))
   rw[hd,List.toList_toArray,toKC_cnt] at this;refine this.mono ?_;rintro e w'⟨rfl,hsw⟩;refine⟨?_,SW_below hsw hH⟩;have hhas:(decide (posK (v.cells.map keyB) key<v.cells.length) && decide (cmpK (keyB ((toKC v.cells hk).toArray[posK (v.cells.map keyB) key]!).c) key=0))=hasK (v.cells.map keyB) key:=by
    unfold hasK;by_cases hi:posK (v.cells.map keyB) key<v.cells.length
    ·rw[hkeys _ hi];rw[tx_get (by simpa using hi)];have hi2:posK (v.cells.map keyB) key<(v.cells.map keyB).length:=by simpa using hi
     have e1:(v.cells.map keyB)[posK (v.cells.map keyB) key]?=some (v.cells.map keyB)[posK (v.cells.map keyB) key]:=List.getElem?_eq_getElem hi2;rw[e1];by_cases e:(v.cells.map keyB)[posK (v.cells.map keyB) key]'(by simpa using hi)=key
     ·simp[hi,e,cmpK_eq]
     ·simp only[hi,decide_true,Bool.true_and,cmpK_eq,Option.some.injEq]
    ·have e1:(v.cells.map keyB)[posK (v.cells.map keyB) key]?=none:=List.getElem?_eq_none (by simp;omega);rw[e1];simp[hi]
   rw[hhas]
 generalize posK (v.cells.map keyB) key=ps at *;generalize hasK (v.cells.map keyB) key=hs' at *;clear q1 q2 n0 n1 n3 n4 n5 n6 n7 hk hs;go_enter Tryz.func95,Tryz.ntmps95;go_wp2_with fail
 refine HF.out.mono ?_;rintro e w1⟨rfl,hb1⟩;have HB:=hide (hb1);clear hb1 HF;go_wp2_with fail
 go_ret2
 exact⟨rfl,HB.out⟩
theorem cchildFor (h:NR w p v)(hk:∀c∈v.cells,kS c≤c.size∧c.size≤240)(hl:v.cells.length≤1000)(hs:(v.cells.map keyB).Pairwise fun a b=>klt a b=true)(key:ByteArray):Calls Tryz.prog 145 #[(.pointer (some ⟨p,0,none⟩)),.string key] w fun e w'=>e=.returned (.int .i64 ((posK (v.cells.map keyB) key+(if hasK (v.cells.map keyB) key=true then 1 else 0):Nat):Int))∧Below w.heap.size w w':=by
 have HF:=hide (cfindN h hk hl hs key);have hp:posK (v.cells.map keyB) key≤1000:=by
  have:posK (v.cells.map keyB) key≤(v.cells.map keyB).length:=List.countP_le_length;simp at this;omega
 generalize posK (v.cells.map keyB) key=ps at *;generalize hasK (v.cells.map keyB) key=b at *;clear h hk hs hl;cases b with
 | false =>
  go_enter Tryz.func145,Tryz.ntmps145;go_wp2_with fail
  refine HF.out.mono ?_;rintro e w1⟨rfl,hb1⟩;go_wp2_with fail
  go_ret;exact⟨rfl,hb1⟩
 | true =>
  go_enter Tryz.func145,Tryz.ntmps145;go_wp2_with fail
  refine HF.out.mono ?_;rintro e w1⟨rfl,hb1⟩;go_wp2_with fail
  go_ret;exact⟨by simp,hb1⟩
def cntK (ks:List ByteArray)(key:ByteArray):Nat:=ks.countP fun k=>!klt key k
theorem cnt_zero {ks:List ByteArray}(h:∀k∈ks,klt key k=true):posK ks key=0∧cntK ks key=0:=by
 unfold posK cntK;rw[List.countP_eq_zero,List.countP_eq_zero];exact⟨fun k hk=>by rw[klt_asy (h k hk)];simp,fun k hk=>by rw[h k hk];simp⟩
theorem cnt_eq:∀{ks:List ByteArray} {key:ByteArray},ks.Pairwise (fun a b=>klt a b=true)→posK ks key+(if hasK ks key=true then 1 else 0)=cntK ks key
 | [],key,_=>by simp[posK,hasK,cntK]
 | k :: r, key, h => by
  obtain⟨h1,h2⟩:=List.pairwise_cons.1 h;have ih:=cnt_eq (key:=key) h2;rcases klt_tri k key with e|e|e
  ·have e1:posK (k::r) key=posK r key+1:=by unfold posK;rw[List.countP_cons,e];rfl
   have e2:hasK (k::r) key=hasK r key:=by unfold hasK;rw[e1,List.getElem?_cons_succ]
   have e3:cntK (k::r) key=cntK r key+1:=by unfold cntK;rw[List.countP_cons,klt_asy e];rfl
   rw[e1,e2,e3,←ih];omega
  ·subst e;have hz:=cnt_zero h1;have e1:posK (k::r) k=0:=by unfold posK at hz ⊢;rw[List.countP_cons,hz.1,klt_irr];rfl
   have e2:hasK (k::r) k=true:=by unfold hasK;rw[e1];simp
   have e3:cntK (k::r) k=1:=by unfold cntK at hz ⊢;rw[List.countP_cons,hz.2,klt_irr];rfl
   rw[e1,e2,e3];rfl
  ·have hz:=cnt_zero (ks:=k::r) (key:=key) (fun x hx=>by
    rcases List.mem_cons.1 hx with rfl|hx
    ·exact e
    ·exact klt_tr e (h1 x hx))
   have e2:hasK (k::r) key=false:=by
    unfold hasK;rw[hz.1];have:¬k=key:=fun e'=>by rw[e',klt_irr] at e;cases e
    simp[this]
   rw[hz.1,hz.2,e2];rfl
theorem kid_for {hi:ByteArray}:∀(r:List (ByteArray×T d)) (p:ByteArray×T d),BS (Bnd d) (p::r) hi→klt key p.1=false→ltB key hi→∃s1 k x s2,p::r=s1++(k,x)::s2∧s1.length=cntK (r.map (·.1)) key∧klt key k=false∧ltB key (nxt s2 hi)
 | [],p,_,h1,h2=>⟨[],p.1,p.2,[],rfl,rfl,h1,h2⟩
 | q :: r, p, ⟨b1, b2, b3, b4⟩, h1, h2 => by
  cases e:klt key q.1 with
  | true =>
   have hall:∀k∈(q::r).map (·.1),klt key k=true:=fun k hk=>by
    rw[List.map_cons] at hk;rcases List.mem_cons.1 hk with rfl | hk
    ·exact e
    ·obtain⟨u,hu,rfl⟩:=List.mem_map.1 hk;have:=(keys_sort (d+1) (lo:=q.1) (hi:=hi) (x:=(⟨0,q::r⟩:Inn (T d))) ⟨⟨q,r,rfl,rfl⟩,b4⟩).2.2 (by omega) u.1 (List.mem_map_of_mem hu);exact klt_tr e this
   exact⟨[],p.1,p.2,q::r,rfl,by rw[(cnt_zero hall).2];rfl,h1,.inr e⟩
  | false =>
   obtain⟨s1,k,x,s2,g1,g2,g3,g4⟩:=kid_for r q b4 e h2;refine⟨p::s1,k,x,s2,by rw[g1];rfl,?_,g3,g4⟩;have:cntK ((q::r).map (·.1)) key=cntK (r.map (·.1)) key+1:=by unfold cntK;rw[List.map_cons,List.countP_cons,e];rfl
   rw[this,List.length_cons,g2]
def Cx.lo (c:Cx d):ByteArray:=c.fd (fun _=>⟨#[]⟩) fun _ _ _ k _ _ _=>k
def Cx.hi (c:Cx d):ByteArray:=c.fd (fun _=>⟨#[]⟩) fun _ _ _ _ s2 _ r=>nxt s2 r
theorem bnd_eq (c:Cx d){lo hi:ByteArray}:c.bnd lo hi→lo=c.lo∧hi=c.hi:=by
 refine Cx.ind (P:=fun _ c=>∀lo hi:ByteArray,c.bnd lo hi→lo=c.lo∧hi=c.hi) (fun _ _ _ h=>h) ?_ c lo hi;rintro _ _ s1 k s2 c ih lo hi⟨lo',hi',h1,h2,h3,_⟩;obtain⟨e1,e2⟩:=ih _ _ h1;exact⟨h2,by rw[h3,e2];rfl⟩
theorem WfB.at {c:Cx d}{x:T d}(h:WfB c x es):Bnd d c.lo c.hi x:=by
 obtain⟨lo,hi,h1,h2⟩:=h.bnd;obtain⟨rfl,rfl⟩:=bnd_eq c h1;exact h2
def Cx.nvs (c:Cx d):Nat→List NV:=c.fd (fun _ _=>[]) fun _ num s1 k s2 c r n=>r num++[⟨2,(frP s1 k s2 n).link,(frP s1 k s2 n).cells,num,c.lo,c.hi,s1.length⟩]
theorem nvs1:(Cx.top d).nvs n=[]:=rfl
theorem nvs2 {num:Nat}{s1 s2:List (ByteArray×T d)}{k:ByteArray}{c:Cx (d+1)}:(Cx.up num s1 k s2 c).nvs n=c.nvs num++[⟨2,(frP s1 k s2 n).link,(frP s1 k s2 n).cells,num,c.lo,c.hi,s1.length⟩]:=rfl
def NDb (w:World)(b top p:Nat)(v:NV):Prop:=∃s,NB w p v s∧w.ownsRow b 9 1 s v.cells.length (valsS v.cells)∧b≤p∧p<top∧∀g,s.ownBlock=some g→g<top
structure PN where
 b:Nat
 p:Nat
 v:NV
def hdB (l:List PN)(top:Nat):Nat:=match l with
 | []=>top
 | x::_=>x.b
def PM (w:World):List PN→Nat→Prop
 | [],_=>True
 | x::r,top=>NDb w x.b (hdB r top) x.p x.v∧PM w r top
theorem NDb.nd {b:Nat}(h:NDb w b top p v):ND w b p v:=by
 obtain⟨s,h1,h2,-⟩:=h;exact⟨s,h1,h2⟩
theorem ND.b {b:Nat}(h:ND w b p v)(hp:b≤p):NDb w b w.heap.size p v:=by
 obtain⟨s,h1,h2⟩:=h;exact⟨s,h1,h2,hp,(Array.getElem?_eq_some_iff.1 h1).1,fun g hg=>(World.ownsRow.lt h2 g hg).2⟩
theorem NDb.up {b top':Nat}(h:NDb w b top p v)(ht:top≤top'):NDb w b top' p v:=by
 obtain⟨s,h1,h2,h3,h4,h5⟩:=h;exact⟨s,h1,h2,h3,Nat.lt_of_lt_of_le h4 ht,fun g hg=>Nat.lt_of_lt_of_le (h5 g hg) ht⟩
theorem NDb.other {b:Nat}(h:NDb w b top p v)(hg:w.grownBy w' (some c))(hc:top≤c):NDb w' b top p v:=by
 obtain⟨s,h1,h2,h3,h4,h5⟩:=h;have st:∀x,x<top→x<w.heap.size→w'.heap[x]?=w.heap[x]?:=fun x hx hl=>hg.block x hl (fun e=>by injection e with e;omega)
 exact⟨s,(st p h4 (Array.getElem?_eq_some_iff.1 h1).1).trans h1,row_keep h2 fun g hg'=>st g (h5 g hg') (World.ownsRow.lt h2 g hg').2,h3,h4,h5⟩
theorem NDb.below {b:Nat}(h:NDb w b top p v)(hb:Below w.heap.size w w'):NDb w' b top p v:=by
 obtain⟨s,h1,h2,h3,h4,h5⟩:=h;exact⟨s,(hb.block p (Array.getElem?_eq_some_iff.1 h1).1).trans h1,row_below h2 hb,h3,h4,h5⟩
theorem hdB_app (a b:List PN)(top:Nat):hdB (a++b) top=hdB a (hdB b top):=by cases a<;>rfl
theorem PM.app:∀{a b:List PN} {top:Nat},PM w (a++b) top↔PM w a (hdB b top)∧PM w b top
 | [],b,top=>by simp[PM]
 | x :: r, b, top => by
  simp only[List.cons_append,PM,PM.app (a:=r),hdB_app];exact⟨fun⟨h1,h2,h3⟩=>⟨⟨h1,h2⟩,h3⟩,fun⟨⟨h1,h2⟩,h3⟩=>⟨h1,h2,h3⟩⟩
theorem PM.up:∀{l:List PN} {top top':Nat},PM w l top→top≤top'→PM w l top'
 | [],_,_,_,_=>trivial
 | [_],_,_,⟨h1,_⟩,ht=>⟨h1.up ht,trivial⟩
 | _::_::_,_,_,⟨h1,h2⟩,ht=>⟨h1,h2.up ht⟩
theorem hdB_le:∀{l:List PN} {top:Nat},PM w l top→hdB l top≤top
 | [],_,_=>Nat.le_refl _
 | x :: r, top, ⟨h1, h2⟩ => by
  have:=hdB_le h2;obtain⟨s,-,-,h3,h4,-⟩:=h1;show x.b≤top;omega
theorem PM.other:∀{l:List PN} {top:Nat},PM w l top→w.grownBy w' (some c)→top≤c→PM w' l top
 | [],_,_,_,_=>trivial
 | _::_,_,⟨h1,h2⟩,hg,hc=>⟨h1.other hg (Nat.le_trans (hdB_le h2) hc),h2.other hg hc⟩
theorem PM.below:∀{l:List PN} {top:Nat},PM w l top→Below w.heap.size w w'→PM w' l top
 | [],_,_,_=>trivial
 | _::_,_,⟨h1,h2⟩,hb=>⟨h1.below hb,h2.below hb⟩
theorem NDb.otherT {b:Nat}(h:NDb w b top p v)(hg:w.grownBy w' (some c))(hc:isC w c t)(h1:¬t=9)(h2:¬t=98):NDb w' b top p v:=by
 obtain⟨s,q1,q2,q3⟩:=h;refine⟨s,(hg.block p (Array.getElem?_eq_some_iff.1 q1).1 (fun e=>?_)).trans q1,row_keep q2 fun g hg'=>hg.block g (World.ownsRow.lt q2 g hg').2 (fun e=>?_),q3⟩
 ·injection e with e;exact ne_CC hc ⟨_,q1⟩ (fun e=>h2 e.symm) e
 ·injection e with e;rcases q2.2 with⟨e',_⟩ | ⟨g',cap,cur,e',_,hh,_⟩
  ·rw[e'] at hg';cases hg'
  ·rw[e'] at hg';injection hg' with hg';have hg':g'=g:=hg';subst hg';exact ne_CC hc ⟨_,hh⟩ (fun e=>h1 e.symm) e
theorem PM.otherT:∀{l:List PN} {top:Nat},PM w l top→w.grownBy w' (some c)→isC w c t→¬t=9→¬t=98→PM w' l top
 | [],_,_,_,_,_,_=>trivial
 | _::_,_,⟨h1,h2⟩,hg,hc,n1,n2=>⟨h1.otherT hg hc n1 n2,h2.otherT hg hc n1 n2⟩
theorem NDb.taken {b:Nat}(h:NDb w b top p v)(i:Nat):NDb (w.setCell ⟨p,6,none⟩ (.int .i64 (i:Int))) b top p { v with taken:=i }:=by
 obtain⟨s,q1,q2,q3⟩:=h;have hg:=set_grown w p 6 (.int .i64 (i:Int));refine⟨s,?_,row_keep q2 fun g hg'=>hg.block g (World.ownsRow.lt q2 g hg').2 (fun e=>?_),q3⟩
 ·unfold NB;rw[set_blk q1];rfl
 ·injection e with e;rcases q2.2 with⟨e',_⟩ | ⟨g',cap,cur,e',_,hh,_⟩
  ·rw[e'] at hg';cases hg'
  ·rw[e'] at hg';injection hg' with hg';have hg':g'=g:=hg';subst hg';exact ne_CC ⟨_,q1⟩ ⟨_,hh⟩ (by decide) e
section
variable {pk:Nat}
theorem TS.stayNDb {b:Nat}(h:TS w B D Gp V K pk m A fl pages)(hs:St2 w w' B V V')(hn:NDb w b top p v):NDb w' b top p v:=by
 obtain⟨s,h1,h2,h3⟩:=hn;exact⟨s,h.stayNB hs h1,h.stayR hs h2,h3⟩
theorem TS.stayPM (h:TS w B D Gp V K pk m A fl pages)(hs:St2 w w' B V V'):∀{l:List PN} {top:Nat},PM w l top→PM w' l top
 | [],_,_=>trivial
 | _::_,_,⟨h1,h2⟩=>⟨h.stayNDb hs h1,h.stayPM hs h2⟩
end
theorem clastN (g off n c p:Nat)(w:World)(hn:n<1000)(hc:w.cell? ⟨g,off+n,none⟩=some (.pointer (some ⟨p,0,none⟩))):Calls Tryz.prog 94 #[.slice (some ⟨g,off,none⟩) (n+1) c] w fun e w'=>e=.returned (.pointer (some ⟨p,0,none⟩))∧w'=w:=by
 have hw:wrap64 (((n+1:Nat):Int)-1)=(n:Int):=by unfold wrap64;omega
 go_enter Tryz.func94,Tryz.ntmps94;go_wp2;go_ret;exact⟨rfl,rfl⟩
theorem own_lastP {l0:List Value}{v:Value}(hn:l0.length=n)(h:w.ownsRow base t 1 s (n+1) (l0++[v])):∃g cap,s=.slice (some ⟨g,0,none⟩) (n+1) cap∧w.cell? ⟨g,0+n,none⟩=some v∧g<w.heap.size:=by
 rcases h.2 with⟨_,h0⟩|⟨g,cap,cur,rfl,hg,hh,h1,h2,h3,h4⟩
 ·omega
 ·refine⟨g,cap,rfl,?_,(Array.getElem?_eq_some_iff.1 hh).1⟩;have:(cur.toList.take ((n+1)*1))[n]?=(l0++[v])[n]?:=by rw[h4]
  rw[List.getElem?_take] at this;simp only[Nat.mul_one,Nat.lt_succ_self,if_true] at this;rw[Nat.zero_add];simp only[World.cell?,hh];rw[←Array.getElem?_toList,this,←hn];simp
theorem newsP (w:World)(v:Value):∀j u,([v]:List Value)[j]?=some u→(w.alloc (.cells #[v] 94)).cell? ((⟨w.heap.size,0,none⟩:Addr).add j)=some u:=by
 intro j u hj;rw[add_none]
 match j,hj with
 | 0,h=>cases h;go_simp
 | j+1,h=>simp at h
def slLen:Value→Nat
 | .slice _ n _=>n
 | _=>0
structure Way (w:World) (A:Nat→PgV) (fl:List Nat) (pages:Nat) (os:List Nat) (es:List Ent) (root lo:Nat) {d:Nat} (c:Cx d) (x:T d) (l:List PN) (key:ByteArray):Prop where
 sx:Sx A fl pages os c x es
 own:A (numT d x)=pgT d x
 ok:OkN c x
 two:c.two
 rt:c.root (numT d x)=root
 k1:klt key c.lo=false
 k2:ltB key c.hi
 pm:PM w l w.heap.size
 vs:l.map (·.v)=c.nvs (numT d x)++[nvT d x c.lo c.hi 0]
 lows:lo≤hdB l w.heap.size
theorem nvs_len (c:Cx d)(n:Nat):(c.nvs n).length+d=c.dep:=by
 refine Cx.ind (P:=fun d c=>∀n,(c.nvs n).length+d=c.dep) (fun d _=>Nat.zero_add d) ?_ c n;intro d num s1 k s2 c ih n;have:(c.nvs num).length+(d+1)=(Cx.up num s1 k s2 c).dep:=ih num;rw[←this,nvs2,List.length_append,List.length_cons,List.length_nil];omega
def rowP (l:List PN):List Value:=l.map fun x=>(.pointer (some ⟨x.p,0,none⟩))
theorem PM.snoc {l:List PN}{x:PN}(h:PM w l x.b)(hx:NDb w x.b top x.p x.v):PM w (l++[x]) top:=PM.app.2 ⟨h,hx,trivial⟩
theorem PM.unsnoc {l:List PN}{x:PN}(h:PM w (l++[x]) top):PM w l x.b∧NDb w x.b top x.p x.v:=by
 obtain⟨h1,h2,-⟩:=PM.app.1 h;exact⟨h1,h2⟩
section
variable {pk:Nat}{os:List Nat}
theorem Way.kid {c:Cx (d+1)}{t:T (d+1)}{l:List PN}{lo:Nat}(h:Way w A fl pages os es root lo c t l key):∃(s1:List (ByteArray×T d)) (k:ByteArray) (x:T d) (s2:List (ByteArray×T d)),t=frm t.num s1 k x s2∧s1.length=posK ((cellsT (d+1) t).map keyB) key+(if hasK ((cellsT (d+1) t).map keyB) key=true then 1 else 0)∧klt key k=false∧ltB key (nxt s2 c.hi)∧¬(s1=[]∧s2=[]):=by
 have hb:=h.sx.wf.at;obtain⟨⟨p,r,e,hp⟩,hbs⟩:=hb;have hks:(cellsT (d+1) t).map keyB=r.map (·.1):=by
  apply List.ext_getElem
  ·simp[cellsT,e]
  ·intro i h1 h2;have hi:i<(cellsT (d+1) t).length:=by simpa using h1
   have:=(cells_key (d+1) h.sx.wf.at i hi).1;rw[tx_get hi,tx_get (by rw[keys_len];exact hi)] at this;rw[List.getElem_map,this];simp only[keysT,e,List.tail_cons]
 rw[hks];have hs:=(keys_sort (d+1) h.sx.wf.at).2.1;have hks2:keysT (d+1) t=r.map (·.1):=by show t.kids.tail.map _=_;rw[e];rfl
 rw[hks2] at hs;rw[e] at hbs;obtain⟨s1,k,x,s2,g1,g2,g3,g4⟩:=kid_for r p hbs (by rw[hp];exact h.k1) h.k2;refine⟨s1,k,x,s2,?_,by rw[g2];exact(cnt_eq hs).symm,g3,g4,fun⟨e1,e2⟩=>?_⟩
 ·show t=(⟨t.num,s1++(k,x)::s2⟩:Inn (T d));rw[←g1,←e]
 ·rw[e1,e2] at g1;simp at g1;have:=h.ok.some.resolve_left (by omega);exact this (by simp[cellsT,e,g1.2])
theorem cpath (h:TS w B D Gp V K pk m A fl pages)(hm:m≤40000){t:T d}(hT:Tr A fl pages os t es)(ht:TB w tb Gp (numT d t))(key:ByteArray)(hd:d≤200):Calls Tryz.prog 93 #[(.pointer (some ⟨tb,0,none⟩)),.string key] w fun e w'=>∃(V':PV) (c:Cx 0) (x:T 0) (l:List PN) (s:Value),e=.returned s∧TS w' B D Gp V' K pk m A fl pages∧St2 w w' B V V'∧Way w' A fl pages os es (numT d t) w.heap.size c x l key∧c.dep=d∧w'.ownsRow w.heap.size 94 1 s l.length (rowP l):=by
 obtain⟨t0,t1,tlt⟩:=ht.cells;have hbn:=hT.sx.wf.at;have hbn:Bnd d ⟨#[]⟩ ⟨#[]⟩ t:=hbn;have HTOP:=hide (ctop h hm ht hT.sx.own.1 hT.own hbn hT.ok.some);have HT:=hide (hT);have H:=hide (h);have HTB:=hide (ht);have HM:=hide (hm);have HD:=hide (hd);have hi0:(Tryz.prog.info? 94).map (fun i=>(i.zero,i.size,i.bytes))=some (some (.pointer none),1,8):=by kernel_rfl
 obtain⟨i0,hi,hz⟩:=Option.map_eq_some_iff.1 hi0;simp only[Prod.mk.injEq] at hz;obtain⟨hz0,hz1,hz2⟩:=hz;clear h ht hT hbn hm;go_enter Tryz.func93,Tryz.ntmps93;go_wp2_with fail
 refine HTOP.out.mono ?_;rintro e w1⟨V1,p,rfl,k1,k2,k3,k4⟩;have HK1:=hide (show TS w1 B D Gp V1 K pk m A fl pages∧St2 w w1 B V V1∧ND w1 w.heap.size p (nvT d t ⟨#[]⟩ ⟨#[]⟩ 0)∧w.heap.size≤p from⟨k1,k2,k3,k4⟩);clear k1 k2 k3 k4 HTOP;go_wp2_with fail
 go_loopw [5] (fun s wr=>∃(dd:Nat) (c:Cx dd) (x:T dd) (l:List PN) (Vi:PV),Hid (TS wr B D Gp Vi K pk m A fl pages)∧Hid (St2 w wr B V Vi)∧Hid (Way wr A fl pages os es (numT d t) w.heap.size c x l key)∧Hid (c.dep=d)∧Hid (wr.ownsRow w.heap.size 94 1 s l.length (rowP l))) (fun s _=>d+1-slLen s)
 case atStart =>
  obtain⟨k1,k2,k3,k4⟩:=HK1.out;have hbl:Below w1.heap.size w1 (w1.alloc (.cells #[(.pointer (some ⟨p,0,none⟩))] 94)):=((Below.refl _ _).alloc (Nat.le_refl _) _);obtain⟨q1,q2⟩:=k1.below hbl;refine⟨d,.top d,t,[⟨w.heap.size,p,nvT d t ⟨#[]⟩ ⟨#[]⟩ 0⟩],V1,hide q1,hide (k2.trans q2),hide ⟨HT.out.sx,HT.out.own,HT.out.ok,trivial,rfl,?_,.inl rfl,⟨?_,trivial⟩,rfl,Nat.le_refl _⟩,hide rfl,hide ?_⟩
  ·show klt key ⟨#[]⟩=false;unfold klt;rw[show(⟨#[]⟩:ByteArray).toList=[] by rw[ByteArray.toList_eq]];cases key.toList<;>rfl
  ·exact((k3.b k4).below hbl).up (by have:=hbl.size;exact this)
  ·exact⟨rfl,.inr ⟨w1.heap.size,1,#[(.pointer (some ⟨p,0,none⟩))],rfl,k2.bel.size,World.alloc_heap_new w1 _,Nat.le_refl _,by decide,rfl,rfl⟩⟩
 case round =>
  obtain⟨dd,c,x,l,Vi,HTS,HST,HW,HDP,HO⟩:=hrel;clear HK1;have hlen:l.length=(c.nvs (numT dd x)).length+1:=by
   have:=congrArg List.length HW.out.vs;simpa using this
  obtain⟨l0,xp,rfl⟩:∃l0 xp,l=l0++[xp]:=by
   refine⟨l.dropLast,l.getLast (fun e=>by rw[e] at hlen;simp at hlen),?_⟩;exact(List.dropLast_concat_getLast _).symm
  have hvs:=HW.out.vs;rw[List.map_append] at hvs;obtain⟨v1,v2⟩:=List.append_inj_right' hvs (by simp) |> fun e=>(⟨List.append_inj_left' hvs (by simp),e⟩:_∧_)
  have v2:xp.v=nvT dd x c.lo c.hi 0:=by simpa using v2
  obtain⟨pm0,pmx⟩:=PM.unsnoc HW.out.pm;have hdep:=nvs_len c (numT dd x);have hl0:l0.length=(c.nvs (numT dd x)).length:=by simpa using hlen
  have hdp:=HDP.out;have hdd:=HD.out;have hrow:rowP (l0++[xp])=rowP l0++[(.pointer (some ⟨xp.p,0,none⟩))]:=by simp[rowP]
  have ho:=HO.out;rw[List.length_append,List.length_cons,List.length_nil,hrow] at ho;obtain⟨g,cap,hs,hcl,hglt⟩:=own_lastP (by simp[rowP]) ho;have HLST:=hide (fun(X:World) (hX:X.cell? ⟨g,0+l0.length,none⟩=some (.pointer (some ⟨xp.p,0,none⟩)))=>clastN g 0 l0.length cap xp.p X (by omega) hX);have HPX:=hide (pmx);obtain⟨sx,nb,-⟩:=pmx;obtain⟨n0,n1,n2,n3,n4,n5,n6,n7,n8⟩:=nb.cells;rw[v2] at n0;have HNB:=hide (nb);have HSE:=hide (hs);have HV2:=hide (v2);have HV1:=hide (v1);have HPM0:=hide (pm0);have HL0:=hide (hl0);rw[hs];clear hlen hvs v1 v2 pm0 nb n1 n2 n3 n4 n5 n6 n7 hrow ho hs hi0;cases dd with
  | zero =>
   replace n0:wr.cell? ⟨xp.p,0,none⟩=some (.int .i64 1):=n0
   clear hdep hl0 hdp;go_wp2_with fail
   refine(HLST.out _ hcl).mono ?_;rintro e w2⟨rfl,hw⟩;rw[hw];clear hw;go_wp2_with fail
   go_ret;exact⟨Vi,c,x,l0++[xp],_,rfl,HTS.out,HST.out,HW.out,HDP.out,by rw[←HSE.out];exact HO.out⟩
  | succ dd =>
   replace n0:wr.cell? ⟨xp.p,0,none⟩=some (.int .i64 2):=n0
   obtain⟨s1,k,y,s2,hx,hi1,hk1,hk2,hne⟩:=HW.out.kid;have hkc:∀cc∈(nvT (dd+1) x c.lo c.hi 0).cells,kS cc≤cc.size∧cc.size≤240:=fun cc hcc=>by
    have hcc:cc∈cellsT (dd+1) x:=hcc;obtain⟨i,hi',rfl⟩:=List.getElem_of_mem hcc;have:=(cells_key (dd+1) HW.out.sx.wf.at i hi').2.1;rw[tx_get hi'] at this;exact⟨this,cells_sz (dd+1) HW.out.sx.wf.at _ hcc⟩
   have hfew:=used_few HW.out.ok.high;have hsrt:((nvT (dd+1) x c.lo c.hi 0).cells.map keyB).Pairwise fun a b=>klt a b=true:=by
    have hks:(cellsT (dd+1) x).map keyB=keysT (dd+1) x:=by
     apply List.ext_getElem
     ·rw[keys_len];simp
     ·intro i h1 h2;have hi':i<(cellsT (dd+1) x).length:=by simpa using h1
      have:=(cells_key (dd+1) HW.out.sx.wf.at i hi').1;rw[tx_get hi',tx_get h2] at this;rw[List.getElem_map,this]
    show((cellsT (dd+1) x).map keyB).Pairwise _;rw[hks];exact(keys_sort (dd+1) HW.out.sx.wf.at).2.1
   have hnr:NR wr xp.p (nvT (dd+1) x c.lo c.hi 0):=by have:=HPX.out.nd.nr;rw[HV2.out] at this;exact this
   have HCF:=hide (cchildFor hnr hkc hfew hsrt key)
   replace hi1:s1.length=posK ((nvT (dd+1) x c.lo c.hi 0).cells.map keyB) key+(if hasK ((nvT (dd+1) x c.lo c.hi 0).cells.map keyB) key=true then 1 else 0):=hi1
   rw[←hi1] at HCF;have HX:=hide (show x=frm x.num s1 k y s2∧klt key k=false∧ltB key (nxt s2 c.hi)∧¬(s1=[]∧s2=[])∧(cellsT (dd+1) x).length≤1000 from⟨hx,hk1,hk2,hne,hfew⟩);have HMS:=hide (show l0.length+1<d+1 from by omega);have HGE:=hide (show l0.length≤200 from by omega);clear hx hi1 hk1 hk2 hne hkc hsrt hnr hfew hdep hl0 hdp;go_wp2_with fail
   refine(HLST.out _ hcl).mono ?_;rintro e w2⟨rfl,hw⟩;rw[hw];clear hw;go_wp2_with fail
   refine(HLST.out _ hcl).mono ?_;rintro e w3⟨rfl,hw⟩;rw[hw];clear hw;go_wp2_with fail
   refine HCF.out.mono ?_;rintro e w3⟨rfl,hb3⟩;obtain⟨q3,r3⟩:=HTS.out.below hb3;have nb3:=HTS.out.stayNB r3 HNB.out;obtain⟨u0,u1,u2,u3,u4,u5,u6,u7,u8⟩:=nb3.cells;have f6:=u7 6;have hg4:=set_grown w3 xp.p 6 (.int .i64 (s1.length:Int));have q4:=q3.other hg4 ⟨_,nb3⟩ (by decide);have r4:St2 w (w3.setCell ⟨xp.p,6,none⟩ (.int .i64 (s1.length:Int))) B V Vi:=(HST.out.trans r3).other hg4 (Nat.le_trans (by
    have h1:=HW.out.lows;have h2:=HPM0.out;rw[hdB_app] at h1;exact Nat.le_trans h1 (hdB_le h2)) (by obtain⟨_,_,_,h3,_⟩:=HPX.out;exact h3)) H.out.lo
   have p4:NDb (w3.setCell ⟨xp.p,6,none⟩ (.int .i64 (s1.length:Int))) xp.b wr.heap.size xp.p { xp.v with taken:=s1.length }:=(HPX.out.below hb3).taken s1.length;have l4:PM (w3.setCell ⟨xp.p,6,none⟩ (.int .i64 (s1.length:Int))) l0 xp.b:=(HPM0.out.below hb3).other hg4 (by obtain⟨_,_,_,h3,_⟩:=HPX.out;exact h3);have tb4:TB (w3.setCell ⟨xp.p,6,none⟩ (.int .i64 (s1.length:Int))) tb Gp (numT d t):=by
    have h1:=q3.stayTB (St2.refl _ _ _) (HTS.out.stayTB r3 (H.out.stayTB HST.out HTB.out));refine(hg4.block tb (Array.getElem?_eq_some_iff.1 h1).1 (fun e=>?_)).trans h1;injection e with e;exact ne_CC ⟨_,nb3⟩ ⟨_,h1⟩ (by decide) e
   have sz4:wr.heap.size≤(w3.setCell ⟨xp.p,6,none⟩ (.int .i64 (s1.length:Int))).heap.size:=Nat.le_trans hb3.size hg4.size;have c4:(w3.setCell ⟨xp.p,6,none⟩ (.int .i64 (s1.length:Int))).cell? ⟨xp.p,6,none⟩=some (.int .i64 (s1.length:Int)):=by
    obtain⟨s',b',-⟩:=p4;exact(b'.cells).2.2.2.2.2.2.1
   obtain⟨num,hnum⟩:∃num,x.num=num:=⟨_,rfl⟩;have hx:=HX.out.1;rw[hnum] at hx;have HNUM:=hide (hnum);have hv4:({ xp.v with taken:=s1.length }:NV)=nvT (dd+1) (frm num s1 k y s2) c.lo c.hi s1.length:=by rw[HV2.out,←hx];rfl
   have p4':=p4;rw[hv4] at p4';have hown:=HW.out.own;have hok:=HW.out.ok;have hsx:=HW.out.sx;rw[hx] at hown hok hsx;obtain⟨d1,d2,d3⟩:=hsx.down hown hok;have HDW:=hide (show Sx A fl pages os (.up num s1 k s2 c) y es∧A (numT dd y)=pgT dd y∧OkN (.up num s1 k s2 c) y from⟨d1,d2,d3⟩);have HCH:=hide (cchildN q4 HM.out tb4 p4'.nd.nr hsx.wf.at (by rw[←hx];exact HX.out.2.2.2.2) d1.own.1 d2 d3.some);have HW4:=hide (show TS (w3.setCell ⟨xp.p,6,none⟩ (.int .i64 (s1.length:Int))) B D Gp Vi K pk m A fl pages∧St2 w (w3.setCell ⟨xp.p,6,none⟩ (.int .i64 (s1.length:Int))) B V Vi∧NDb (w3.setCell ⟨xp.p,6,none⟩ (.int .i64 (s1.length:Int))) xp.b wr.heap.size xp.p (nvT (dd+1) (frm num s1 k y s2) c.lo c.hi s1.length)∧PM (w3.setCell ⟨xp.p,6,none⟩ (.int .i64 (s1.length:Int))) l0 xp.b∧wr.heap.size≤(w3.setCell ⟨xp.p,6,none⟩ (.int .i64 (s1.length:Int))).heap.size from⟨q4,r4,p4',l4,sz4⟩);have ho4:(w3.setCell ⟨xp.p,6,none⟩ (.int .i64 (s1.length:Int))).ownsRow w.heap.size 94 1 (.slice (some ⟨g,0,none⟩) (l0.length+1) cap) (l0.length+1) (rowP (l0++[xp])):=by
    have h1:=HO.out;rw[HSE.out,List.length_append,List.length_cons,List.length_nil] at h1;have h2:=row_below h1 hb3;refine row_keep h2 fun g' hg'=>hg4.block g' (World.ownsRow.lt h2 g' hg').2 (fun e=>?_)
    injection e with e;injection hg' with hg';have hg':g=g':=hg';rcases h2.2 with⟨e',_⟩ | ⟨g2,cap2,cur2,e',_,hh2,_⟩
    ·cases e'
    ·injection e' with e';injection e' with e';injection e' with e';exact ne_CC ⟨_,nb3⟩ ⟨_,hh2⟩ (by decide) (by rw[←e',hg'];exact e)
   have HO4:=hide (ho4);clear q3 r3 nb3 hg4 q4 r4 p4 l4 tb4 sz4 p4' hv4 hown hok hsx d1 d2 d3 hx hnum u0 u1 u2 u3 u4 u5 u7 ho4 HCF hb3 n0;go_wp2_with fail
   refine HCH.out.mono ?_;rintro e w5⟨V5,q,rfl,k1,k2,k3,k4⟩;have HK5:=hide (show TS w5 B D Gp V5 K pk m A fl pages∧St2 (w3.setCell ⟨xp.p,6,none⟩ (.int .i64 (s1.length:Int))) w5 B Vi V5∧ND w5 (w3.setCell ⟨xp.p,6,none⟩ (.int .i64 (s1.length:Int))).heap.size q (nvT dd y k (nxt s2 c.hi) 0)∧(w3.setCell ⟨xp.p,6,none⟩ (.int .i64 (s1.length:Int))).heap.size≤q from⟨k1,k2,k3,k4⟩);have ho5:w5.ownsRow w.heap.size 94 1 (.slice (some ⟨g,0,none⟩) (l0.length+1) cap) (l0.length+1) (rowP (l0++[xp])):=by
    rcases HO4.out.2 with⟨e',_⟩|⟨g2,cap2,cur2,e',b2,hh2,r2⟩
    ·cases e'
    ·exact⟨HO4.out.1,.inr ⟨g2,cap2,cur2,e',b2,HW4.out.1.stay k2 hh2 (by decide),r2⟩⟩
   have HO5:=hide (ho5);have HSZ5:=hide (show w.heap.size≤w5.heap.size from Nat.le_trans HW4.out.2.1.bel.size k2.bel.size);clear k1 k2 k3 k4 HCH ho5 c4 u6 f6 u8;go_wp2_with (first
    | (at_builtin;refine wpList_append_own_at _ rfl _ _ 151 rfl w.heap.size 94 i0 (.pointer none) 1 8 Tryz.underlying151 hi hz0 hz1 hz2 rfl (by decide) (.slice (some ⟨g,0,none⟩) (l0.length+1) cap) (l0.length+1) (rowP (l0++[xp])) rfl (World.ownsRow.alloc HO5.out _) ⟨w5.heap.size,0,none⟩ 1 1 [(.pointer (some ⟨q,0,none⟩))] rfl rfl (newsP _ _) (fun x hx=>by simp at hx;subst hx;rfl) (by have:=HGE.out;unfold maxLen;omega) (by have:=HGE.out;omega) (by simp;exact Nat.le_trans HSZ5.out (by omega)) ?_;intro v1 w6 ho1 hg1 hnil1 hown1)
    | go_in)
   obtain⟨k1,k2,k3,k4⟩:=HK5.out;obtain⟨g1,g2,g3,g4,g5⟩:=HW4.out;have hbl:Below w5.heap.size w5 (w5.alloc (.cells #[(.pointer (some ⟨q,0,none⟩))] 94)):=((Below.refl _ _).alloc (Nat.le_refl _) _);obtain⟨a1,a2⟩:=k1.below hbl;have hgb:∃cur,(w5.alloc (.cells #[(.pointer (some ⟨q,0,none⟩))] 94)).heap[g]?=some (.cells cur 94 (0,0))∧w.heap.size≤g:=by
    rcases HO5.out.2 with⟨e',_⟩|⟨g',cap',cur',e',b',hh',_⟩
    ·cases e'
    ·injection e' with e';injection e' with e';injection e' with e';subst e';exact⟨cur',(hbl.block g (Array.getElem?_eq_some_iff.1 hh').1).trans hh',b'⟩
   obtain⟨cur,hcur,hgw⟩:=hgb;have hg1:(w5.alloc (.cells #[(.pointer (some ⟨q,0,none⟩))] 94)).grownBy w6 (some g):=hg1;have a3:=a1.other hg1 ⟨_,hcur⟩ (by decide);have a4:=((g2.trans k2).trans a2).other hg1 hgw H.out.lo;have szz:w5.heap.size≤w6.heap.size:=Nat.le_trans hbl.size hg1.size;have px:NDb w6 xp.b (w3.setCell ⟨xp.p,6,none⟩ (.int .i64 (s1.length:Int))).heap.size xp.p (nvT (dd+1) (frm num s1 k y s2) c.lo c.hi s1.length):=(((g1.stayNDb k2 (g3.up g5)).below hbl).otherT hg1 ⟨_,hcur⟩ (by decide) (by decide));have py:NDb w6 (w3.setCell ⟨xp.p,6,none⟩ (.int .i64 (s1.length:Int))).heap.size w6.heap.size q (nvT dd y k (nxt s2 c.hi) 0):=(((k3.b k4).below hbl).otherT hg1 ⟨_,hcur⟩ (by decide) (by decide)).up szz;have pl:PM w6 l0 xp.b:=((g1.stayPM k2 g4).below hbl).otherT hg1 ⟨_,hcur⟩ (by decide) (by decide);obtain⟨b1,b2,b3⟩:=HDW.out;obtain⟨n1,hn1⟩:∃n1:PN,n1=⟨xp.b,xp.p,nvT (dd+1) (frm num s1 k y s2) c.lo c.hi s1.length⟩:=⟨_,rfl⟩;obtain⟨n2,hn2⟩:∃n2:PN,n2=⟨(w3.setCell ⟨xp.p,6,none⟩ (.int .i64 (s1.length:Int))).heap.size,q,nvT dd y k (nxt s2 c.hi) 0⟩:=⟨_,rfl⟩;have hlen2:(l0++[n1]++[n2]).length=l0.length+1+1:=by simp
   refine⟨⟨dd,.up num s1 k s2 c,y,l0++[n1]++[n2],V5,hide a3,hide a4,hide ⟨b1,b2,b3,⟨HX.out.2.2.2.1,HW.out.two⟩,?_,HX.out.2.1,HX.out.2.2.1,by rw[hn1,hn2];exact PM.snoc (PM.snoc pl px) py,?_,?_⟩,HDP,hide ?_⟩,?_⟩
   ·have:=HW.out.rt;have e1:numT (dd+1) x=num:=HNUM.out;rw[e1] at this;exact this
   ·have hv1:=HV1.out;have e1:numT (dd+1) x=num:=HNUM.out;rw[e1] at hv1;rw[List.map_append,List.map_append,hv1];rw[hn1,hn2];simp only[List.map_cons,List.map_nil,nvs2];rw[frP_eq num];rfl
   ·have h1:=HW.out.lows;rw[hdB_app] at h1;rw[hdB_app,hdB_app,hn1];exact h1
   ·rw[hlen2];have e1:rowP (l0++[n1]++[n2])=rowP (l0++[xp])++[(.pointer (some ⟨q,0,none⟩))]:=by rw[hn1,hn2];simp[rowP]
    rw[e1];exact ho1
   ·have e1:slLen v1=l0.length+1+1:=by
     rcases ho1.2 with⟨_,h0⟩|⟨g',cap',cur',e',_⟩
     ·omega
     ·rw[e'];rfl
    have e2:slLen (Value.slice (some ⟨g,0,none⟩) (l0.length+1) cap)=l0.length+1:=rfl;rw[e1,e2];have:=HMS.out;omega
end
def setL:Array Value→Nat→List Value→Array Value
 | c,_,[]=>c
 | c,o,v::r=>setL (c.setIfInBounds o v) (o+1) r
theorem setL_size:∀(vs:List Value) (c:Array Value) (o:Nat),(setL c o vs).size=c.size
 | [],_,_=>rfl
 | v::r,c,o=>by show(setL (c.setIfInBounds o v) (o+1) r).size=_;rw[setL_size r];simp
theorem setL_get:∀(vs:List Value) (c:Array Value) (o:Nat),o+vs.length≤c.size→∀j,(setL c o vs)[j]?=if o≤j∧j<o+vs.length then vs[j-o]? else c[j]?
 | [], c, o, _, j => by
  rw[if_neg (by simp)];rfl
 | v :: r, c, o, h, j => by
  show(setL (c.setIfInBounds o v) (o+1) r)[j]?=_;rw[setL_get r _ _ (by simp at h ⊢;omega) j];by_cases h1:j=o
  ·subst h1;rw[if_neg (by omega),if_pos (by simp),Nat.sub_self,Array.getElem?_setIfInBounds_self_of_lt (by simp at h;omega)];rfl
  ·by_cases h2:o≤j∧j<o+(v::r).length
   ·rw[if_pos (by simp at h2;omega),if_pos h2];have:j-o=(j-(o+1))+1:=by omega
    rw[this,List.getElem?_cons_succ]
   ·rw[if_neg (by simp at h2;omega),if_neg h2,Array.getElem?_setIfInBounds_ne (fun e=>h1 e.symm)]
theorem setCells_blk {b:Nat}{fz:Nat×Nat}:∀(vs:List Value) (o:Nat) (w:World) (c:Array Value),w.heap[b]?=some (.cells c t fz)→(w.setCells b o vs).heap[b]?=some (.cells (setL c o vs) t fz)
 | [],_,_,_,h=>h
 | v :: r, o, w, c, h => by
  rw[World.setCells];exact setCells_blk r (o+1) _ _ (set_blk h)
theorem setCells_grown (b:Nat):∀(vs:List Value) (o:Nat) (w:World),w.grownBy (w.setCells b o vs) (some b)
 | [],_,w=>But.refl w _
 | v :: r, o, w => by
  rw[World.setCells];exact But.trans (set_grown w b o v) (setCells_grown b r (o+1) _)
theorem drew_grown (w:World)(o:Option Nat):w.grownBy w.drew o:=⟨rfl,rfl,rfl,Nat.le_refl _,fun _ _ _=>rfl⟩
def insL (l:List ByteArray)(i:Nat)(c:ByteArray):List ByteArray:=l.take i++c::l.drop i
theorem insL_len (h:i≤l.length)(c:ByteArray):(insL l i c).length=l.length+1:=by simp[insL];omega
theorem valsS_get (l:List ByteArray)(j:Nat):(valsS l)[j]?=l[j]?.map Value.string:=by simp[valsS]
theorem insL_get (h:i≤l.length)(c:ByteArray)(j:Nat):(insL l i c)[j]?=if j<i then l[j]? else if j=i then some c else l[j-1]?:=by
 unfold insL;by_cases h1:j<i
 ·rw[if_pos h1,List.getElem?_append_left (by simp;omega),List.getElem?_take,if_pos h1]
 ·rw[if_neg h1,List.getElem?_append_right (by simp;omega)];have hl:(l.take i).length=i:=by simp;omega
  rw[hl];by_cases h2:j=i
  ·rw[if_pos h2,h2,Nat.sub_self];rfl
  ·rw[if_neg h2];have:j-i=(j-i-1)+1:=by omega
   rw[this,List.getElem?_cons_succ,List.getElem?_drop]
   congr 1
   omega
theorem own_of {cur:Array Value}(hb:base≤g)(hg:w.heap[g]?=some (.cells cur 9 (0,0)))(hn:l.length=n)(h1:n≤cap)(h2:cap≤maxLen)(h3:cur.size=cap)(h4:∀j,j<n→cur[j]?=l[j]?.map Value.string):w.ownsRow base 9 1 (.slice (some ⟨g,0,none⟩) n cap) n (valsS l):=by
 refine⟨by simp[valsS,hn],.inr ⟨g,cap,cur,rfl,hb,hg,h1,h2,by rw[h3,Nat.mul_one],?_⟩⟩;apply List.ext_getElem?;intro j;rw[List.getElem?_take,Nat.mul_one,valsS_get,Array.getElem?_toList];by_cases hj:j<n
 ·rw[if_pos hj,h4 j hj]
 ·rw[if_neg hj,List.getElem?_eq_none (by omega)];rfl
theorem own_cur (h:w.ownsRow base 9 1 s n (valsS l))(h0:0<n):∃g cap cur,s=.slice (some ⟨g,0,none⟩) n cap∧base≤g∧w.heap[g]?=some (.cells cur 9 (0,0))∧n≤cap∧cap≤maxLen∧cur.size=cap∧l.length=n∧∀j,j<n→cur[j]?=l[j]?.map Value.string:=by
 have hl:l.length=n:=by have:=h.1;simpa[valsS] using this
 rcases h.2 with⟨_,e⟩|⟨g,cap,cur,e,hb,hg,h1,h2,h3,h4⟩
 ·omega
 ·refine⟨g,cap,cur,e,hb,hg,h1,h2,by rw[h3,Nat.mul_one],hl,fun j hj=>?_⟩;have:(cur.toList.take (n*1))[j]?=(valsS l)[j]?:=by rw[h4]
  rw[List.getElem?_take,Nat.mul_one,if_pos hj,valsS_get,Array.getElem?_toList] at this;exact this
theorem grow3 (w:World)(o:Obj)(v1 v2:List Value)(i1 i2:Nat)(row:Option Nat):w.grownBy ((((w.alloc o).drew.setCells w.heap.size i1 v1).drew).setCells w.heap.size i2 v2) row:=by
 have q1:=World.grownBy_alloc w o none;have q2:=setCells_grown w.heap.size v1 i1 (w.alloc o).drew;have q3:=setCells_grown w.heap.size v2 i2 ((w.alloc o).drew.setCells w.heap.size i1 v1).drew;refine⟨by rw[q3.os];exact q2.os,by rw[q3.tape];exact q2.tape,by rw[q3.output];exact q2.output,Nat.le_trans q1.size (Nat.le_trans q2.size q3.size),fun x hx _=>?_⟩;have hx1:x<(w.alloc o).heap.size:=Nat.lt_of_lt_of_le hx q1.size;rw[q3.block x (Nat.lt_of_lt_of_le hx1 q2.size) (fun e=>by injection e with e;omega)];refine(q2.block x hx1 (fun e=>by injection e with e;omega)).trans ?_;exact q1.block x hx (by simp)
theorem zs_size (n:Nat):(Builtin.zeroCells (Value.string ⟨#[]⟩).cells n).size=n:=by rw[size_zeroCells];show n*1=n;omega
theorem cinsS (h:w.ownsRow base 9 1 s n (valsS l))(hB:base≤w.heap.size)(hn:n≤100000)(i:Nat)(hi:i≤n)(c:ByteArray)(vb:Nat)(hv:w.heap[vb]?=some (.cells #[.string c] 9 (0,0)))(hne:¬s.ownBlock=some vb):Calls Tryz.prog 151 #[s,.int .i64 (i:Int),.slice (some ⟨vb,0,none⟩) 1 1] w fun e w'=>∃s',e=.returned s'∧w'.ownsRow base 9 1 s' (n+1) (valsS (insL l i c))∧w.grownBy w' s.ownBlock∧(s'.ownBlock=s.ownBlock∨s'.ownBlock=some w.heap.size):=by
 have hl:l.length=n:=by have:=h.1;simpa[valsS] using this
 have hvs:∀j v,([Value.string c]:List Value)[j]?=some v→w.cell? ⟨vb,0+j,none⟩=some v:=fun j v hj=>by
  match j,hj with
  | 0,hj=>cases hj;simp[World.cell?,hv]
  | j+1,hj=>simp at hj
 have h1v:∀v∈([Value.string c]:List Value),v.oneCell'=true:=fun v hv=>by simp at hv;subst hv;rfl
 have hcs1:∀v∈valsS l,v.oneCell'=true:=fun v hv=>by simp[valsS] at hv;obtain⟨x,_,rfl⟩:=hv;rfl
 have hlen:(insL l i c).length=n+1:=by rw[insL_len (by omega),hl]
 have hget:=insL_get (l:=l) (i:=i) (by omega) c;have hm:(n+1)≤maxLen:=by unfold maxLen;omega
 by_cases h0:n=0
 ·
  subst h0;have hi0:i=0:=by omega
  subst hi0;have hl0:l=[]:=List.length_eq_zero_iff.1 hl;subst hl0;rcases h.2 with⟨rfl,_⟩ | ⟨g,cap,cur,rfl,hb,hg,h1,h2,h3,h4⟩
  ·have:=Any2.slices_Insert_string_end_grow Tryz.insertA none 0 0 vb 0 1 1 [] [.string c] w (by omega) (by omega) (by omega) (by omega) rfl rfl (fun _=>rfl) (fun a ha=>by cases ha) hvs h1v;refine this.mono ?_;rintro e w'⟨rfl,rfl⟩;refine⟨_,rfl,?_,But.trans (drew_grown w _) (World.grownBy_alloc _ _ _),.inr rfl⟩;have hc:=grownCap_ge w 1 0 (Tryz.insertA_ren.t 9);refine own_of (cur:=([]++[Value.string c]).toArray++Builtin.zeroCells (Value.string ⟨#[]⟩).cells (grownCap w 1 0 (Tryz.insertA_ren.t 9)-1)) hB (World.alloc_heap_new w.drew _) hlen hc (grownCap_le_maxLen w _ _ _ hm) ?_ (fun j hj=>?_)
   ·rw[Array.size_append,zs_size];simp;omega
   ·obtain rfl:j=0:=by omega
    rw[Array.getElem?_append_left (by simp)];simp[insL]
  ·by_cases hroom:1≤cap
   ·have hcs:cur.size=cap:=by rw[h3,Nat.mul_one]
    have:=Any2.slices_Insert_string_end_room Tryz.insertA g 0 0 cap vb 0 1 1 [.string c] w (by omega) (by omega) (by unfold maxLen at h2;omega) rfl (fun j hj=>(by simp only[World.cell?,hg];rw[Array.getElem?_eq_getElem (by omega)];rfl)) (fun j hj=>by simp[World.frozen?,hg]) hvs h1v;refine this.mono ?_;rintro e w'⟨rfl,rfl⟩;refine⟨_,rfl,own_of hb (setCells_blk _ _ _ _ hg) hlen hroom h2 (by rw[setL_size,hcs]) (fun j hj=>?_),setCells_grown _ _ _ _,.inl rfl⟩;obtain rfl:j=0:=by omega
    rw[setL_get _ _ _ (by simp;omega)];simp[insL]
   ·have hc0:cap=0:=by omega
    subst hc0;have:=Any2.slices_Insert_string_end_grow Tryz.insertA (some ⟨g,0,none⟩) 0 0 vb 0 1 1 [] [.string c] w (by omega) (by omega) (by omega) (by omega) rfl rfl (fun _=>rfl) (fun a ha j v hj=>by simp at hj) hvs h1v;refine this.mono ?_;rintro e w'⟨rfl,rfl⟩;refine⟨_,rfl,?_,But.trans (drew_grown w _) (World.grownBy_alloc _ _ _),.inr rfl⟩;have hc:=grownCap_ge w 1 0 (Tryz.insertA_ren.t 9);refine own_of (cur:=([]++[Value.string c]).toArray++Builtin.zeroCells (Value.string ⟨#[]⟩).cells (grownCap w 1 0 (Tryz.insertA_ren.t 9)-1)) hB (World.alloc_heap_new w.drew _) hlen hc (grownCap_le_maxLen w _ _ _ hm) ?_ (fun j hj=>?_)
    ·rw[Array.size_append,zs_size];simp;omega
    ·obtain rfl:j=0:=by omega
     rw[Array.getElem?_append_left (by simp)];simp[insL]
 ·obtain⟨g,cap,cur,rfl,hb,hg,h1,h2,h3,-,h5⟩:=own_cur h (by omega);have hglt:=(Array.getElem?_eq_some_iff.1 hg).1;have hgv:vb≠g:=fun e=>hne (by rw[e];rfl)
  have hcsl:(valsS l).length=n:=by simp[valsS,hl]
  have hcs:∀j v,(valsS l)[j]?=some v→w.cell? ⟨g,0+j,none⟩=some v:=fun j v hj=>by
   have hjn:j<n:=by
    have:=(List.getElem?_eq_some_iff.1 hj).1;omega
   rw[Nat.zero_add];simp only[World.cell?,hg];rw[h5 j hjn,←valsS_get,hj];rfl
  by_cases hin:i<n
  ·by_cases hroom:n+1≤cap
   ·have:=Any2.slices_Insert_string_shift Tryz.insertA g 0 n cap i vb 0 1 1 (valsS l) [.string c] w hin (by omega) hroom (by unfold maxLen at h2;omega) hgv hcsl rfl hcs (fun j hj=>by simp only[World.cell?,hg];rw[Nat.zero_add,Array.getElem?_eq_getElem (by omega)];rfl) (fun j hj=>by simp[World.frozen?,hg]) hvs hcs1 h1v 9 9 1 cap (by simp[World.shape?,hv]) (by simp[World.shape?,hg,h3]) (by omega) (by simp[World.frozen?,hv]) (by simp[World.frozen?,hv]);refine this.mono ?_;rintro e w'⟨rfl,rfl⟩;have hb1:w.drew.heap[g]?=some (.cells cur 9 (0,0)):=hg;refine⟨_,rfl,own_of hb (setCells_blk _ _ _ _ (setCells_blk _ _ _ _ hb1)) hlen hroom h2 (by rw[setL_size,setL_size,h3]) (fun j hj=>?_),But.trans (But.trans (drew_grown w _) (setCells_grown _ _ _ _)) (setCells_grown _ _ _ _),.inl rfl⟩;have hdl:((valsS l).drop i).length=n-i:=by simp[hcsl]
    rw[setL_get _ _ _ (by rw[setL_size,h3];simp;omega),setL_get _ _ _ (by rw[hdl,h3];omega),hget j,hdl];by_cases e1:j<i
    ·rw[if_neg (by simp;omega),if_neg (by omega),if_pos e1,h5 j (by omega)]
    ·by_cases e2:j=i
     ·rw[if_pos (by simp;omega),if_neg e1,if_pos e2,e2];simp
     ·rw[if_neg (by simp;omega),if_pos (by omega),if_neg e1,if_neg e2,List.getElem?_drop,valsS_get]
      congr 2
      omega
   ·have:=Any2.slices_Insert_string_grow Tryz.insertA g 0 n cap i vb 0 1 1 (valsS l) [.string c] w hin (by omega) h1 (by omega) (by omega) hcsl rfl hcs hvs hcs1 h1v;refine this.mono ?_;rintro e w'⟨rfl,rfl⟩;have hc:=grownCap_ge w (n+1) cap (Tryz.insertA_ren.t 9);have hdl:((valsS l).drop i).length=n-i:=by simp[hcsl]
    have htl:((valsS l).take i).length=i:=by simp[hcsl];omega
    generalize hgc:grownCap w (n+1) cap (Tryz.insertA_ren.t 9)=gc at *;have hsz:(((valsS l).take i).toArray++Builtin.zeroCells (Value.string ⟨#[]⟩).cells (n+1-i)++Builtin.zeroCells (Value.string ⟨#[]⟩).cells (gc-(n+1))).size=gc:=by
     rw[Array.size_append,Array.size_append,zs_size,zs_size,List.size_toArray,htl];omega
    have hblk:=World.alloc_heap_new w (.cells (((valsS l).take i).toArray++Builtin.zeroCells (Value.string ⟨#[]⟩).cells (n+1-i)++Builtin.zeroCells (Value.string ⟨#[]⟩).cells (gc-(n+1))) 9);refine⟨_,rfl,own_of hB (setCells_blk _ _ _ _ (setCells_blk _ _ _ _ hblk)) hlen hc (by rw[←hgc];exact grownCap_le_maxLen w _ _ _ hm) (by rw[setL_size,setL_size,hsz]) (fun j hj=>?_),?_,.inr rfl⟩
    ·rw[setL_get _ _ _ (by rw[setL_size,hsz,hdl];omega),setL_get _ _ _ (by rw[hsz];simp;omega),hget j,hdl];by_cases e1:j<i
     ·rw[if_neg (by omega),if_neg (by simp;omega),if_pos e1];rw[Array.getElem?_append_left (by rw[Array.size_append,zs_size,List.size_toArray,htl];omega),Array.getElem?_append_left (by rw[List.size_toArray,htl];omega),List.getElem?_toArray,List.getElem?_take,if_pos e1,valsS_get]
     ·by_cases e2:j=i
      ·rw[if_neg (by omega),if_pos (by simp;omega),if_neg e1,if_pos e2,e2];simp
      ·rw[if_pos (by omega),if_neg e1,if_neg e2,List.getElem?_drop,valsS_get]
       congr 2
       omega
    ·exact grow3 w _ _ _ _ _ _
  ·have hin2:i=n:=by omega
   subst hin2;by_cases hroom:i+1≤cap
   ·have:=Any2.slices_Insert_string_end_room Tryz.insertA g 0 i cap vb 0 1 1 [.string c] w (by omega) hroom (by unfold maxLen at h2;omega) rfl (fun j hj=>by simp only[World.cell?,hg];rw[Array.getElem?_eq_getElem (by omega)];rfl) (fun j hj=>by simp[World.frozen?,hg]) hvs h1v;refine this.mono ?_;rintro e w'⟨rfl,rfl⟩;refine⟨_,rfl,own_of hb (setCells_blk _ _ _ _ hg) hlen hroom h2 (by rw[setL_size,h3]) (fun j hj=>?_),setCells_grown _ _ _ _,.inl rfl⟩;rw[setL_get _ _ _ (by rw[h3];simp;omega),hget j];by_cases e1:j<i
    ·rw[if_neg (by simp;omega),if_pos e1,h5 j (by omega)]
    ·have e2:j=i:=by omega
     rw[if_pos (by simp;omega),if_neg e1,if_pos e2,e2];simp
   ·have:=Any2.slices_Insert_string_end_grow Tryz.insertA (some ⟨g,0,none⟩) i cap vb 0 1 1 (valsS l) [.string c] w (by omega) h1 (by omega) (by omega) hcsl rfl (fun e=>by cases e) (fun a ha j v hj=>by injection ha with ha;subst ha;rw[Addr.add_lit];exact hcs j v hj) hvs h1v;refine this.mono ?_;rintro e w'⟨rfl,rfl⟩;have hc:=grownCap_ge w (i+1) cap (Tryz.insertA_ren.t 9);refine⟨_,rfl,?_,But.trans (drew_grown w _) (World.grownBy_alloc _ _ _),.inr rfl⟩;refine own_of (cur:=(valsS l++[Value.string c]).toArray++Builtin.zeroCells (Value.string ⟨#[]⟩).cells (grownCap w (i+1) cap (Tryz.insertA_ren.t 9)-(i+1))) hB (World.alloc_heap_new w.drew _) hlen hc (grownCap_le_maxLen w _ _ _ hm) ?_ (fun j hj=>?_)
    ·rw[Array.size_append,zs_size,List.size_toArray,List.length_append,hcsl];simp;omega
    ·rw[Array.getElem?_append_left (by rw[List.size_toArray,List.length_append,hcsl];simp;omega),List.getElem?_toArray,hget j];by_cases e1:j<i
     ·rw[List.getElem?_append_left (by omega),if_pos e1,valsS_get]
     ·have e2:j=i:=by omega
      rw[List.getElem?_append_right (by omega),if_neg e1,if_pos e2,e2,hcsl,Nat.sub_self];rfl
theorem valsS_enc (l:List ByteArray):(l.map (·.data.toList)).map encStr=valsS l:=map_encStr l
theorem putRow_grown [Inhabited α](enc:α→Value)(w:World)(q g:Nat)(d:Array α):w.grownBy (putRow enc (Sort.ahead w q) g 0 d) (some g):=
 ⟨rfl,rfl,rfl,by simp[putRow,mapBlock,Sort.ahead],fun k _ hn=>by
  have hn:¬g=k:=fun e=>hn (by rw[e])
  simp[putRow,mapBlock,Sort.ahead,Array.getElem?_modify,hn]⟩
theorem erase_takeS {l:List α}{z:α}(hi:i<l.length):(l.take i++l.drop (i+1)++List.replicate (i+1-i) z).take (l.length-1)=l.eraseIdx i:=by
 rw[List.eraseIdx_eq_take_drop_succ];rw[List.take_append_of_le_length (by simp;omega),List.take_of_length_le (by simp;omega)]
theorem cdelS (h:w.ownsRow base 9 1 s n (valsS l))(hn:n≤100000)(i:Nat)(hi:i<n):Calls Tryz.prog 179 #[s,.int .i64 (i:Int),.int .i64 ((i:Int)+1)] w fun e w'=>∃s',e=.returned s'∧w'.ownsRow base 9 1 s' (n-1) (valsS (l.eraseIdx i))∧w.grownBy w' s.ownBlock∧s'.ownBlock=s.ownBlock:=by
 have hl:l.length=n:=by have:=h.1;simpa[valsS] using this
 have h':=h;rw[←valsS_enc] at h';obtain⟨g,cap,rfl,h1,h2,h3,h4,h5,h6⟩:=holds_of_ownsRow h' (fun e=>by
  rw[e] at h;rcases h.2 with⟨_,e0⟩ | ⟨g,cap,cur,e',_⟩
  ·omega
  ·cases e')
 have hz:(l.map (·.data.toList)).length=n:=h5;have:=Tryz.slices_Delete_string g 0 cap i (i+1) (l.map (·.data.toList)) w h6 (by omega) (by unfold maxLen at h4;omega) (by omega) (by omega);rw[show((i+1:Nat):Int)=(i:Int)+1 by omega,hz,show n-(i+1-i)=n-1 by omega] at this;refine this.mono ?_;rintro r w'⟨rfl,q,rfl⟩;have hz2:((l.map (fun x:ByteArray=>x.data.toList)).take i++(l.map (fun x:ByteArray=>x.data.toList)).drop (i+1)++List.replicate (i+1-i) []).length=n:=by simp;omega
 have hrow:=ownsRow_putRow (q:=q) (k:=n-1) h' hz2 (by omega);have e1:((l.map (fun x:ByteArray=>x.data.toList)).take i++(l.map (fun x:ByteArray=>x.data.toList)).drop (i+1)++List.replicate (i+1-i) []).take (n-1)=(l.eraseIdx i).map (fun x:ByteArray=>x.data.toList):=by
  rw[←hz,erase_takeS (by rw[hz];exact hi),List.eraseIdx_eq_take_drop_succ,List.eraseIdx_eq_take_drop_succ,List.map_append,List.map_take,List.map_drop]
 rw[e1,valsS_enc] at hrow;exact⟨_,rfl,hrow,putRow_grown _ _ _ _ _,rfl⟩
def NF (b:Nat)(w w':World):Prop:=∀R:World→Prop,R w→(∀x y,R x→Below x.heap.size x y→R y)→(∀x y c,R x→x.grownBy y (some c)→b≤c→isC x c 9∨isC x c 98→R y)→R w'
theorem NF.refl {b:Nat}(w:World):NF b w w:=fun _ h _ _=>h
theorem NF.bel {b:Nat}(h:NF b w w')(hb:Below w'.heap.size w' w''):NF b w w'':=fun R r f g=>f _ _ (h R r f g) hb
theorem NF.set {b:Nat}(h:NF b w w')(hg:w'.grownBy w'' (some c))(hc:b≤c)(ht:isC w' c 9∨isC w' c 98):NF b w w'':=fun R r f g=>g _ _ _ (h R r f g) hg hc ht
theorem NF.trans {b:Nat}(h:NF b w w')(k:NF b w' w''):NF b w w'':=fun R r f g=>k R (h R r f g) f g
theorem NF.mono {b:Nat}(h:NF b w w')(hb:b'≤b):NF b' w w':=fun R r f g=>h R r f fun x y c q hg hc=>g x y c q hg (Nat.le_trans hb hc)
theorem NF.size {b:Nat}(h:NF b w w'):w.heap.size≤w'.heap.size:=h (fun x=>w.heap.size≤x.heap.size) (Nat.le_refl _) (fun _ _ ih h1=>Nat.le_trans ih h1.size) (fun _ _ _ ih hg _ _=>Nat.le_trans ih hg.size)
theorem NF.pm {b:Nat}(h:NF b w w'){l:List PN}(hl:PM w l b):PM w' l b:=h (fun x=>PM x l b) hl (fun _ _ ih h1=>ih.below h1) (fun _ _ _ ih hg hc _=>ih.other hg hc)
theorem NF.blk {b:Nat}(h:NF b w w'){cs:Array Value}(hc:w.heap[c]?=some (.cells cs t (0,0)))(h1:¬t=9)(h2:¬t=98):w'.heap[c]?=some (.cells cs t (0,0)):=by
 refine h (fun x=>x.heap[c]?=some (.cells cs t (0,0))) hc (fun _ _ ih hb=>(hb.block c (Array.getElem?_eq_some_iff.1 ih).1).trans ih) fun _ _ _ ih hg _ ht=>?_
 refine(hg.block c (Array.getElem?_eq_some_iff.1 ih).1 (fun e=>?_)).trans ih;injection e with e;rcases ht with ht | ht
 ·exact ne_CC ht ⟨_,ih⟩ h1 e
 ·exact ne_CC ht ⟨_,ih⟩ h2 e
section
variable {pk:Nat}
theorem NF.ts {b:Nat}(h:NF b w w')(ht:TS w B D Gp V K pk m A fl pages):TS w' B D Gp V K pk m A fl pages:=
 h (fun x=>TS x B D Gp V K pk m A fl pages) ht (fun _ _ ih hb=>(ih.below hb).1) (fun _ _ _ ih hg _ hc=>hc.elim (fun hc=>ih.other hg hc (by decide)) (fun hc=>ih.other hg hc (by decide)))
theorem NF.st {b:Nat}{w0:World}(h:NF b w w')(hs:St2 w0 w B V V')(ht:TS w B D Gp V' K pk m A fl pages)(hb:w0.heap.size≤b)(hB:B≤w0.heap.size):St2 w0 w' B V V':=
 (h (fun x=>TS x B D Gp V' K pk m A fl pages∧St2 w0 x B V V') ⟨ht,hs⟩ (fun _ _ ih h1=>⟨(ih.1.below h1).1,ih.2.trans (ih.1.below h1).2⟩) (fun _ _ _ ih hg hc ht'=>⟨ht'.elim (fun k=>ih.1.other hg k (by decide)) (fun k=>ih.1.other hg k (by decide)),ih.2.other hg (Nat.le_trans hb hc) hB⟩)).2
end
theorem NF.stayTB {b t:Nat}(h:NF b w w')(ht:TB w t Gp root):TB w' t Gp root:=h.blk ht (by decide) (by decide)
theorem NDb.cells {w2:World}{b:Nat}{s':Value}(hb:NB w p v s)(hr:w.ownsRow b 9 1 s v.cells.length (valsS v.cells))(hp:b≤p)(hg:w.grownBy w2 s.ownBlock)(ho:w2.ownsRow b 9 1 s' l.length (valsS l)):NDb (w2.setCell ⟨p,2,none⟩ s') b (w2.setCell ⟨p,2,none⟩ s').heap.size p { v with cells:=l }∧NF b w (w2.setCell ⟨p,2,none⟩ s')∧NB w2 p v s:=by
 have hsp:∀g,s.ownBlock=some g→isC w g 9∧b≤g:=fun g hg'=>by
  rcases hr.2 with⟨e',_⟩|⟨g',cap,cur,e',hb',hh,_⟩
  ·rw[e'] at hg';cases hg'
  ·rw[e'] at hg';injection hg' with hg';have hg':g'=g:=hg';subst hg';exact⟨⟨_,hh⟩,hb'⟩
 have hb2:NB w2 p v s:=by
  refine(hg.block p (Array.getElem?_eq_some_iff.1 hb).1 (fun e=>?_)).trans hb;exact ne_CC (hsp p e.symm).1 ⟨_,hb⟩ (by decide) rfl
 have hgp:=set_grown w2 p 2 s';have hnf:NF b w (w2.setCell ⟨p,2,none⟩ s'):=by
  have h1:NF b w w2:=by
   cases hq:s.ownBlock with
   | none=>rw[hq] at hg;exact(NF.refl w).bel ⟨hg.os,hg.tape,hg.output,hg.size,fun i hi=>hg.block i hi (by simp)⟩
   | some g=>rw[hq] at hg;exact(NF.refl w).set hg (hsp g hq).2 (.inl (hsp g hq).1)
  exact h1.set hgp hp (.inr ⟨_,hb2⟩)
 have hps:∀g,s'.ownBlock=some g→¬g=p:=fun g hg' e=>by
  subst e;rcases ho.2 with⟨e',_⟩ | ⟨g',cap,cur,e',_,hh,_⟩
  ·rw[e'] at hg';cases hg'
  ·rw[e'] at hg';injection hg' with hg';have hg':g'=g:=hg';subst hg';exact ne_CC ⟨_,hh⟩ ⟨_,hb2⟩ (by decide) rfl
 have hro:=row_keep ho (w':=w2.setCell ⟨p,2,none⟩ s') fun g hg'=>hgp.block g (World.ownsRow.lt ho g hg').2 (fun e=>by injection e with e;exact hps g hg' e)
 refine⟨⟨s',?_,hro,hp,Nat.lt_of_lt_of_le (Array.getElem?_eq_some_iff.1 hb2).1 hgp.size,fun g hg'=>(World.ownsRow.lt hro g hg').2⟩,hnf,hb2⟩;unfold NB;rw[set_blk hb2];rfl
theorem cinsertN {b:Nat}(h:NDb w b top p v)(hB:b≤w.heap.size)(hl:v.cells.length≤1000)(i:Nat)(hi:i≤v.cells.length)(c:ByteArray):Calls Tryz.prog 97 #[(.pointer (some ⟨p,0,none⟩)),.int .i64 (i:Int),.string c] w fun e w'=>e=.returned (.tuple #[])∧NDb w' b w'.heap.size p { v with cells:=insL v.cells i c }∧NF b w w':=by
 obtain⟨s,h1,h2,h3,h4,h5⟩:=h;obtain⟨n0,n1,n2,n3,n4,n5,n6,n7,n8⟩:=h1.cells;obtain⟨a,cap,rfl,-⟩:=StB.own h2;have hbl:Below w.heap.size w (w.alloc (.cells #[.string c] 9)):=((Below.refl _ _).alloc (Nat.le_refl _) _);have hr2:=row_below h2 hbl;have hnb2:NB (w.alloc (.cells #[.string c] 9)) p v (.slice a v.cells.length cap):=(hbl.block p n8).trans h1;have HI:=hide (cinsS hr2 (Nat.le_trans hB hbl.size) (by omega) i hi c w.heap.size (World.alloc_heap_new w _) (fun e=>by have:=(World.ownsRow.lt h2 w.heap.size e).2;omega));have H1:=hide (hnb2);have H2:=hide (hr2);have H3:=hide (show b≤p∧i≤v.cells.length from⟨h3,hi⟩);clear h1 h2 h5 hbl hr2 hnb2 n0 n1 n3 n4 n5 n6;go_enter Tryz.func97,Tryz.ntmps97;go_wp2_with fail
 refine HI.out.mono ?_;rintro e w2⟨s',rfl,k1,k2,k3⟩;obtain⟨q1,q2,q3⟩:=NDb.cells (l:=insL v.cells i c) H1.out H2.out H3.out.1 k2 (by rw[insL_len H3.out.2];exact k1);obtain⟨u0,u1,u2,u3,u4,u5,u6,u7,u8⟩:=q3.cells;have f2:=u7 2;obtain⟨a',cap',rfl,-⟩:=StB.own (l:=insL v.cells i c) (by rw[insL_len H3.out.2];exact k1);have HQ:=hide (show _∧_ from⟨q1,((NF.refl (b:=b) w).bel (show Below w.heap.size w (w.alloc (.cells #[.string c] 9)) from((Below.refl _ _).alloc (Nat.le_refl _) _))).trans q2⟩);clear q1 q2 q3 k1 k2 k3 HI u0 u1 u3 u4 u5 u6 u7;go_wp2_with fail
 go_end0;exact⟨rfl,HQ.out⟩
theorem cremoveN {b:Nat}(h:NDb w b top p v)(hl:v.cells.length≤1000)(i:Nat)(hi:i<v.cells.length):Calls Tryz.prog 150 #[(.pointer (some ⟨p,0,none⟩)),.int .i64 (i:Int)] w fun e w'=>e=.returned (.tuple #[])∧NDb w' b w'.heap.size p { v with cells:=v.cells.eraseIdx i }∧NF b w w'∧NRs w' p { v with cells:=v.cells.eraseIdx i }:=by
 obtain⟨s,h1,h2,h3,h4,h5⟩:=h;obtain⟨n0,n1,n2,n3,n4,n5,n6,n7,n8⟩:=h1.cells;obtain⟨a,cap,rfl,-⟩:=StB.own h2;have HI:=hide (cdelS h2 (by omega) i hi);have H1:=hide (h1);have H2:=hide (h2);have hle:(v.cells.eraseIdx i).length=v.cells.length-1:=by rw[List.length_eraseIdx,if_pos hi]
 have H3:=hide (show b≤p∧i<v.cells.length∧(v.cells.eraseIdx i).length=v.cells.length-1 from⟨h3,hi,hle⟩);have hw1:wrap64 ((i:Int)+1)=(i:Int)+1:=by unfold wrap64;omega
 clear h1 h2 h5 n0 n1 n3 n4 n5 n6 hle;go_enter Tryz.func150,Tryz.ntmps150;go_wp2_with fail
 refine HI.out.mono ?_;rintro e w2⟨s',rfl,k1,k2,k3⟩;obtain⟨q1,q2,q3⟩:=NDb.cells (l:=v.cells.eraseIdx i) H1.out H2.out H3.out.1 k2 (by rw[H3.out.2.2];exact k1);obtain⟨u0,u1,u2,u3,u4,u5,u6,u7,u8⟩:=q3.cells;have f2:=u7 2;obtain⟨g',cap',rfl⟩:∃g' cap',s'=.slice (some ⟨g',0,none⟩) (v.cells.length-1) cap':=by
  rcases k1.2 with⟨e',_⟩|⟨g',cap',_,e',_⟩
  ·rw[e'] at k3;obtain⟨g,cp,_,es,_⟩:=own_cur (n:=v.cells.length) H2.out (by have:=H3.out.2.1;omega);rw[es] at k3;cases k3
  ·exact⟨g',cap',e'⟩
 have q4:NRs (w2.setCell ⟨p,2,none⟩ (.slice (some ⟨g',0,none⟩) (v.cells.length-1) cap')) p { v with cells:=v.cells.eraseIdx i }:=by
  obtain⟨s1,z1,z2,-⟩:=q1;obtain⟨a1,c1,es,z3,-⟩:=StB.own z2;subst es;have e1:(Value.slice a1 (v.cells.eraseIdx i).length c1)=.slice (some ⟨g',0,none⟩) (v.cells.length-1) cap':=by
   have z4:=z1.cells.2.2.1;have z5:(w2.setCell ⟨p,2,none⟩ (.slice (some ⟨g',0,none⟩) (v.cells.length-1) cap')).cell? ⟨p,2,none⟩=some (.slice (some ⟨g',0,none⟩) (v.cells.length-1) cap'):=by
    have:=set_blk (k:=2) (v:=.slice (some ⟨g',0,none⟩) (v.cells.length-1) cap') q3;simp[World.cell?,this,ndC]
   rw[z5] at z4;injection z4 with z4;exact z4.symm
  injection e1 with e1 _ _;exact⟨a1,c1,z1,z3,g',0,e1⟩
 have HQ:=hide (show _∧_∧_ from⟨q1,q2,q4⟩);clear q1 q2 q3 q4 k1 k2 k3 HI u0 u1 u3 u4 u5 u6 u7;go_wp2_with fail
 go_end0;exact⟨rfl,HQ.out⟩
theorem cuts_len (v:ByteArray):∀n a,(cuts v a n).length=n
 | 0,_=>rfl
 | n+1,a=>by show(cuts v (a+1008) n).length+1=_;rw[cuts_len v n]
theorem cuts_drop (v:ByteArray):∀n a i,i<n→(cuts v a n).drop i=v.extract (a+1008*i) (min (a+1008*i+1008) v.size)::(cuts v a n).drop (i+1)
 | n+1,a,0,_=>by simp[cuts]
 | n + 1, a, i + 1, h => by
  show(cuts v (a+1008) n).drop i=_::(cuts v (a+1008) n).drop (i+1);rw[cuts_drop v n (a+1008) i (by omega)];have:a+1008+1008*i=a+1008*(i+1):=by omega
  rw[this]
def cutsN (v:ByteArray):Nat:=(v.size+1007)/1008
theorem piece_drop (v:ByteArray)(h:i<cutsN v):(piecesV v).drop i=v.extract (1008*i) (min (1008*i+1008) v.size)::(piecesV v).drop (i+1):=by
 have:=cuts_drop v (cutsN v) 0 i h;rw[Nat.zero_add] at this;exact this
theorem piece_len (v:ByteArray):(piecesV v).length=cutsN v:=cuts_len v _ _
theorem valN_fst:∀(ps:List Nat) (cs:List ByteArray),ps.length=cs.length→(valN ps cs).map (·.1)=ps
 | [],[],_=>rfl
 | p::ps,c::cs,h=>by show p::(valN ps cs).map (·.1)=_;rw[valN_fst ps cs (by simpa using h)]
section
variable {pk:Nat}
def Hold (fl:List Nat)(pages:Nat)(X:List Nat):Prop:=(0::(fl++X)).Perm (List.range pages)
theorem Hold.nd (h:Hold fl pages X):(0::(fl++X)).Nodup:=h.nodup_iff.2 List.nodup_range
theorem Hold.mem (h:Hold fl pages X)(hn:n∈X):0<n∧n<pages∧¬n∈fl:=by
 have hd:=h.nd;rw[List.nodup_cons,List.nodup_append] at hd;refine⟨?_,List.mem_range.1 (h.mem_iff.1 (by simp[hn])),fun hf=>hd.2.2.2 n hf n hn rfl⟩;have:¬n=0:=fun e=>hd.1 (by rw[←e];simp[hn])
 omega
theorem Hold.cons (h:Hold fl pages (n::X)):¬n∈X:=by
 have hd:=h.nd;rw[List.nodup_cons,List.nodup_append,List.nodup_cons] at hd;exact hd.2.2.1.1
structure StoR (A:Nat→PgV) (ps:List Nat) (cs:List ByteArray) (A':Nat→PgV):Prop where
 same:∀x,¬x=0→¬x∈ps→A' x=A x
 rep:∀p∈valN ps cs,A' p.1=p.2
 len:ps.length=cs.length
def stoPost (w:World)(B D Gp:Nat)(V:PV)(K:Pgs)(pk m:Nat)(A:Nat→PgV)(pages:Nat)(v:ByteArray)(X:List Nat)(n:Nat)(w':World):Prop:=∃(V':PV) (ps:List Nat) (A':Nat→PgV) (fl':List Nat) (pages':Nat),ps.headD 0=n∧TS w' B D Gp V' K pk (m+9) A' fl' pages'∧St2 w w' B V V'∧StoR A ps (piecesV v) A'∧Hold fl' pages' (ps++X)∧pages'≤pages+3
theorem cstore (h:TS w B D Gp V K pk m A fl pages)(hm:m≤39000)(hp:pages≤57000)(ht:TB w tb Gp root)(v:ByteArray)(hv0:0<v.size)(hv:v.size≤3000)(hX:Hold fl pages X):Calls Tryz.prog 155 #[(.pointer (some ⟨tb,0,none⟩)),.string v] w fun e w'=>∃n:Nat,e=.returned (.int .i64 (n:Int))∧stoPost w B D Gp V K pk m A pages v X n w':=by
 have HTB:=hide (ht);have H:=hide (h);have HX:=hide (hX);obtain⟨c,hc⟩:∃c,cutsN v=c:=⟨_,rfl⟩;have hc3:1≤c∧c≤3:=by unfold cutsN at hc;omega
 have hcv:1008*c<v.size+1008∧v.size≤1008*c:=by unfold cutsN at hc;omega
 have hat:(((v.size:Int)-1).tdiv 1008)*1008=((c:Int)-1-0)*1008:=by
  have e1:((v.size:Int)-1).tdiv 1008=((v.size-1:Nat):Int).tdiv ((1008:Nat):Int):=by congr 1;omega
  rw[e1,←Int.ofNat_tdiv];omega
 have HC:=hide (show cutsN v=c∧m≤39000∧pages≤57000 from⟨hc,hm,hp⟩);clear h ht hX hc;go_enter Tryz.func155,Tryz.ntmps155;go_wp2_with fail
 go_loopw [5,6] (fun x5 x6 wr=>∃(j:Nat) (Vi:PV) (ps:List Nat) (Ai:Nat→PgV) (fli:List Nat) (pgi:Nat),x5=.int .i64 (ps.headD 0:Int)∧x6=.int .i64 (((c:Int)-1-(j:Int))*1008)∧j≤c∧Hid (TS wr B D Gp Vi K pk (m+3*j) Ai fli pgi)∧Hid (St2 w wr B V Vi)∧Hid (StoR A ps ((piecesV v).drop (c-j)) Ai∧Hold fli pgi (ps++X)∧pgi≤pages+j∧ps.length=j)) (fun _ x6 _=>((intOf x6)+1008).toNat)
 case atStart=>exact⟨0,V,[],A,fl,pages,rfl,by simp,by omega,H,hide (St2.refl _ _ _),hide ⟨⟨fun _ _ _=>rfl,fun p hp=>by simp[valN] at hp,by rw[←HC.out.1,←piece_len];simp⟩,HX.out,by omega,rfl⟩⟩
 case round =>
  obtain⟨j,Vi,ps,Ai,fli,pgi,rfl,rfl,hj,HTS,HST,HI⟩:=hrel;by_cases hjc:j<c
  ·obtain⟨i,hi⟩:∃i:Nat,c=i+j+1:=⟨c-j-1,by omega⟩;have hx6:((c:Int)-1-(j:Int))*1008=((1008*i:Nat):Int):=by omega
   rw[hx6];obtain⟨e,he⟩:∃e:Nat,min (1008*i+1008) v.size=e:=⟨_,rfl⟩;have hee:1008*i<e∧e≤v.size∧e≤1008*i+1008:=by omega
   have hmin:min (((1008*i:Nat):Int)+1008) (v.size:Int)=(e:Int):=by omega
   have h0:(0:Int)≤((1008*i:Nat):Int):=by omega
   have hsl:=fun Y=>slice_lit v (1008*i) e (by omega) hee.2.1 Y
   have hps:(v.extract (1008*i) e).size≤1008∧0<(v.extract (1008*i) e).size:=by rw[ByteArray.size_extract];omega
   have hpc:=piece_drop v (i:=i) (by rw[HC.out.1];omega);rw[he] at hpc;have HPC:=hide (show(piecesV v).drop (c-(j+1))=v.extract (1008*i) e::(piecesV v).drop (c-j) from by
    rw[show c-(j+1)=i by omega,show c-j=i+1 by omega];exact hpc)
   have hpgi:=HI.out.2.2.1;have hcc:=HC.out;have HFR:=hide (cfresh HTS.out (by omega) (by omega) (H.out.stayTB HST.out HTB.out) 5);have HPS:=hide (hps);have HJ:=hide (show j<c∧c≤3∧c=i+j+1 from⟨hjc,hc3.2,hi⟩);generalize hpe:v.extract (1008 * i) e=pc at *;have HX6:=hide (hx6);clear hi hx6;generalize hai:1008 * i=ai at *;clear hpc hps hpe hpgi hcc hai;go_wp2_with fail
   refine HFR.out.mono ?_;rintro e' w1⟨V1,n,A1,fl1,pg1,p,rfl,k1,k2,k3,k4,k5⟩;obtain⟨nx,hnx⟩:∃nx:Nat,ps.headD 0=nx:=⟨_,rfl⟩;rw[hnx];have hold1:Hold fl1 pg1 (n::(ps++X)):=k3.perm _ HI.out.2.1;have hmem:=hold1.mem (n:=n) (by simp);have hbl:Below w1.heap.size w1 (w1.alloc (.cells #[.string pc] 9)):=((Below.refl _ _).alloc (Nat.le_refl _) _);obtain⟨q1,r1⟩:=k1.below hbl;obtain⟨s0,nb0,ho0⟩:=k4;have nb1:=k1.stayNB r1 nb0;obtain⟨sa,sc,rfl,-⟩:=StB.own (l:=[]) ho0;obtain⟨u0,u1,u2,u3,u4,u5,u6,u7,u8⟩:=nb0.cells;have f1:=u7 1;have f2:=u7 2;have hg2:=set_grown (w1.alloc (.cells #[.string pc] 9)) p 1 (.int .i64 (nx:Int));have nb2:NB ((w1.alloc (.cells #[.string pc] 9)).setCell ⟨p,1,none⟩ (.int .i64 (nx:Int))) p ⟨5,nx,[],n,⟨#[]⟩,⟨#[]⟩,0⟩ (.slice sa 0 sc):=by unfold NB;rw[set_blk nb1];rfl
   have hg3:=set_grown ((w1.alloc (.cells #[.string pc] 9)).setCell ⟨p,1,none⟩ (.int .i64 (nx:Int))) p 2 (.slice (some ⟨w1.heap.size,0,none⟩) 1 1);have nb3:NB (((w1.alloc (.cells #[.string pc] 9)).setCell ⟨p,1,none⟩ (.int .i64 (nx:Int))).setCell ⟨p,2,none⟩ (.slice (some ⟨w1.heap.size,0,none⟩) 1 1)) p ⟨5,nx,[pc],n,⟨#[]⟩,⟨#[]⟩,0⟩ (.slice (some ⟨w1.heap.size,0,none⟩) 1 1):=by unfold NB;rw[set_blk nb2];rfl
   have q2:=q1.other hg2 ⟨_,nb1⟩ (by decide);have q3:=q2.other hg3 ⟨_,nb2⟩ (by decide);have hplt:p<w1.heap.size:=(Array.getElem?_eq_some_iff.1 nb0).1;have hrow:(((w1.alloc (.cells #[.string pc] 9)).setCell ⟨p,1,none⟩ (.int .i64 (nx:Int))).setCell ⟨p,2,none⟩ (.slice (some ⟨w1.heap.size,0,none⟩) 1 1)).heap[w1.heap.size]?=some (.cells #[.string pc] 9 (0,0)):=by
    rw[hg3.block _ (by simp) (fun e=>by injection e with e;omega),hg2.block _ (by simp) (fun e=>by injection e with e;omega)];exact World.alloc_heap_new w1 _
   have hnr:NR (((w1.alloc (.cells #[.string pc] 9)).setCell ⟨p,1,none⟩ (.int .i64 (nx:Int))).setCell ⟨p,2,none⟩ (.slice (some ⟨w1.heap.size,0,none⟩) 1 1)) p ⟨5,nx,[pc],n,⟨#[]⟩,⟨#[]⟩,0⟩:=⟨_,1,nb3,.inr ⟨w1.heap.size,0,_,rfl,hrow,fun i' hi'=>by
    have hi0:i'=0:=by simp at hi';exact hi'
    subst hi0;rfl⟩⟩
   have r3:St2 wr (((w1.alloc (.cells #[.string pc] 9)).setCell ⟨p,1,none⟩ (.int .i64 (nx:Int))).setCell ⟨p,2,none⟩ (.slice (some ⟨w1.heap.size,0,none⟩) 1 1)) B Vi V1:=((k2.trans r1).other hg2 k5 HTS.out.lo).other hg3 k5 HTS.out.lo;have tb3:=HTS.out.stayTB r3 (H.out.stayTB HST.out HTB.out);have hnxs:nx≤2147483647:=by
    rw[←hnx];have hsm:=k1.flsmall.2;cases ps with
    | nil=>exact Nat.zero_le _
    | cons a r =>
     have:=(hold1.mem (n:=a) (by simp)).2.1;show a≤_;omega
   have hok:okP (pgN ⟨5,nx,[pc],n,⟨#[]⟩,⟨#[]⟩,0⟩):=⟨⟨by show 1≤5;omega,by show 5≤5;omega⟩,hnxs,by
    show usedC [pc]≤1012;have:=HPS.out.1;simp[usedC];omega⟩
   have HWR:=hide (ctwrite q3 (by have:=HC.out;have:=HJ.out;omega) tb3 hnr hok hmem.1 hmem.2.1 hmem.2.2);have HK:=hide (show AllR Ai fli pgi n A1 fl1 pg1∧Hold fl1 pg1 (n::(ps++X))∧ps.headD 0=nx from⟨k3,hold1,hnx⟩);have HR3:=hide (r3);have HNB3:=hide (show NB (((w1.alloc (.cells #[.string pc] 9)).setCell ⟨p,1,none⟩ (.int .i64 (nx:Int))).setCell ⟨p,2,none⟩ (.slice (some ⟨w1.heap.size,0,none⟩) 1 1)) p ⟨5,nx,[pc],n,⟨#[]⟩,⟨#[]⟩,0⟩ (.slice (some ⟨w1.heap.size,0,none⟩) 1 1) from nb3);have HQ3:=hide (q3);have hcomm:((w1.alloc (.cells #[.string pc] 9)).setCell ⟨p,1,none⟩ (.int .i64 (nx:Int))).setCell ⟨p,2,none⟩ (.slice (some ⟨w1.heap.size,0,none⟩) 1 1)=((w1.setCell ⟨p,1,none⟩ (.int .i64 (nx:Int))).setCell ⟨p,2,none⟩ (.slice (some ⟨w1.heap.size,0,none⟩) 1 1)).alloc (.cells #[.string pc] 9):=by
    rw[World.setCell_alloc_past _ _ _ _ hplt,World.setCell_alloc_past _ _ _ _ (by simp;exact hplt)]
   rw[hcomm] at HWR HR3 HNB3 HQ3;clear hcomm;clear k1 k2 k3 k5 hold1 hmem hbl q1 r1 nb0 ho0 nb1 hg2 nb2 hg3 nb3 q2 q3 hrow hnr r3 tb3 hnxs hok HFR u0 u3 u4 u5 u6 u7 hnx;go_wp2_with fail
   refine HWR.out.mono ?_;rintro e' w4⟨rfl,V4,z1,z2⟩;have nb4:=HQ3.out.stayNB z2 HNB3.out;obtain⟨v0,v1,v2,v3,v4,v5,v6,v7,v8⟩:=nb4.cells;have HZ:=hide (show TS w4 B D Gp V4 K pk (m+3*j+2+1) (updA A1 n ⟨5,nx,[pc]⟩) fl1 pg1∧St2 wr w4 B Vi V4 from⟨z1,HR3.out.trans z2⟩);clear z1 z2 nb4 v0 v1 v2 v4 v5 v6 v7 HWR;go_wp2_with fail
   go_roundw
   case rel =>
    obtain⟨a1,a2,a3⟩:=HK.out;obtain⟨b1,b2,b3,b4⟩:=HI.out;have hnps:¬n∈ps:=fun hn=>a2.cons (List.mem_append_left _ hn)
    refine⟨j+1,V4,n::ps,updA A1 n ⟨5,nx,[pc]⟩,fl1,pg1,rfl,?_,by have:=HJ.out;omega,hide HZ.out.1,hide (HST.out.trans HZ.out.2),hide ⟨⟨fun x h0 hx=>?_,fun q hq=>?_,?_⟩,a2,by have:=a1.pgs.2;omega,by simp[b4]⟩⟩
    ·have:=HX6.out
     congr 1
     omega
    ·simp at hx;rw[updA_ne _ _ hx.1,a1.same x h0 hx.1];exact b1.same x h0 hx.2
    ·rw[HPC.out] at hq;have hq:q∈(n,(⟨5,ps.headD 0,[pc]⟩:PgV))::valN ps ((piecesV v).drop (c-j)):=hq;rcases List.mem_cons.1 hq with rfl | hq
     ·rw[a3];exact updA_at _ _ _
     ·have hq1:q.1∈ps:=by
       have:=List.mem_map_of_mem (f:=(·.1)) hq;rw[valN_fst _ _ b1.len] at this;exact this
      have hne:¬q.1=n:=fun e=>hnps (by rw[←e];exact hq1)
      have h0:¬q.1=0:=by have:=(b2.mem (n:=q.1) (by simp[hq1])).1;omega
      rw[updA_ne _ _ hne,a1.same _ h0 hne];exact b1.rep q hq
    ·rw[HPC.out,List.length_cons,List.length_cons,b1.len]
   case measure =>
    simp[intOf];omega
  ·have hjc2:j=c:=by omega
   have hx6:¬(0:Int)≤((c:Int)-1-(j:Int))*1008:=by omega
   have HJC:=hide (hjc2);clear hjc2;generalize ((c:Int)-1-(j:Int)) * 1008=z6 at *;obtain⟨nx,hnx⟩:∃nx:Nat,ps.headD 0=nx:=⟨_,rfl⟩;rw[hnx];have HNX:=hide (hnx);clear hnx;go_wp2_with fail
   go_ret;obtain⟨b1,b2,b3,b4⟩:=HI.out;have hjc:=HJC.out;rw[hjc,Nat.sub_self,List.drop_zero] at b1;exact⟨nx,rfl,Vi,ps,Ai,fli,pgi,HNX.out,HTS.out.mono (by omega),HST.out,b1,b2,by omega⟩
end
theorem grow_below (w:World)(m:Nat)(os:Array Obj):Below w.heap.size w (grow (w.drewN m) os):=by
 refine⟨rfl,rfl,rfl,by show _≤(w.heap++os).size;simp,fun i hi=>?_⟩;show(w.heap++os)[i]?=w.heap[i]?;rw[Array.getElem?_append_left hi]
theorem StB.below (h:StB w a l)(hb:Below w.heap.size w w'):StB w' a l:=by
 rcases h with h|⟨b,off,cur,e,hh,hc⟩
 ·exact .inl h
 ·exact .inr ⟨b,off,cur,e,(hb.block b (Array.getElem?_eq_some_iff.1 hh).1).trans hh,hc⟩
theorem StB.take (h:StB w a l)(n:Nat):StB w a (l.take n):=by
 rcases h with h|⟨b,off,cur,e,hh,hc⟩
 ·exact .inl (by rw[h];simp)
 ·refine .inr ⟨b,off,cur,e,hh,fun i hi=>?_⟩;have hi':i<n∧i<l.length:=by simp at hi;omega
  rw[hc i hi'.2,tx_get hi'.2,tx_get hi];simp
theorem cusedB (h:StB w a l)(cap:Nat)(hu:usedC l≤100000):Calls Tryz.prog 118 #[.slice a l.length cap] w fun e w'=>e=.returned (.int .i64 (usedC l:Int))∧w'=w:=by
 have:=cused a l.length cap (tx l) w h.sta (by rw[used_len];omega);rw[used_len] at this;exact this
theorem cmid1 {X:World}{b1 b2:Nat}(h:StB X a l)(h1:X.heap[b1]?=some (.cells #[.slice a l.length cap] 43 (0,0)))(h2:X.heap[b2]?=some (.cells #[.int .i64 (usedC l:Int)] 3 (0,0)))(hc:l.length≤cap)(hu:usedC l≤10000)(i:Nat)(hi:i<l.length)(hl:l.length≤1000):Calls Tryz.prog 221 #[.int .i64 (i:Int),(.pointer (some ⟨b1,0,none⟩)),(.pointer (some ⟨b2,0,none⟩))] X fun e w'=>e=.returned (.bool (decide (usedC l≤2*usedC (l.take (i+1)))))∧∃q,w'=X.drewN q:=by
 have c1:X.cell? ⟨b1,0,none⟩=some (.slice a l.length cap):=by simp[World.cell?,h1]
 have c2:X.cell? ⟨b2,0,none⟩=some (.int .i64 (usedC l:Int)):=by simp[World.cell?,h2]
 have l1:=(Array.getElem?_eq_some_iff.1 h1).1;have l2:=(Array.getElem?_eq_some_iff.1 h2).1;have hmono:=usedC_mono l (show i+1≤l.length by omega);rw[List.take_length] at hmono;have hlen:(l.take (i+1)).length=i+1:=by simp;omega
 obtain⟨b,off,cur,rfl,hh,hcur⟩:=h.resolve_left (fun e=>by rw[e] at hi;simp at hi);have HU:=hide (fun(q:Nat)=>cusedB (w:=X.drewN q) (l:=l.take (i+1)) ((StB.take (l:=l) (.inr ⟨b,off,cur,rfl,hh,hcur⟩) (i+1)).below (drawnB X q)) cap (by omega));rw[hlen] at HU;have hb1:((i:Int)+1)≤(l.length:Int):=by omega
 have hb2:((i:Int)+1)≤(cap:Int):=by omega
 have hw:wrap64 ((i:Int)+1)=(i:Int)+1:=by unfold wrap64;omega
 have hw2:IntKind.i64.wrap ((i:Int)+1)=(i:Int)+1:=by rw[IntKind.wrap_i64];omega
 generalize usedC (l.take (i+1))=u1 at *;generalize usedC l=u0 at *;generalize l.length=L at *;have hw3:IntKind.i64.wrap (2 * (u1:Int))=2 * (u1:Int):=by rw[IntKind.wrap_i64];omega
 have hdec:decide (u0≤2*u1)=decide ((u0:Int)≤2*(u1:Int)):=by congr 1;apply propext;omega
 rw[hdec];clear hh hcur h1 h2 hlen h hdec;go_enter Tryz.func221,Tryz.ntmps221;go_wp2_with fail
 go_region_with (go_at_call 118;refine(HU.out 1).mono ?_;rintro e w1⟨rfl,hw⟩;rw[hw];clear hw)
 all_goals
  go_wp2;go_ret;exact⟨rfl,⟨1,rfl⟩⟩
theorem cmiddle (h:StB w a l)(cap:Nat)(hc:l.length≤cap)(hu:usedC l≤10000)(hl:l.length≤1000):Calls Tryz.prog 209 #[.slice a l.length cap] w fun e w'=>e=.returned (.int .i64 (midC l:Int))∧Below w.heap.size w w':=by
 have hb1:Below w.heap.size w (w.alloc (.cells #[.slice a l.length cap] 43)):=((Below.refl _ _).alloc (Nat.le_refl _) _);have hb2:Below w.heap.size w ((w.alloc (.cells #[.slice a l.length cap] 43)).alloc (.cells #[.int .i64 (usedC l:Int)] 3)):=(((Below.refl _ _).alloc (Nat.le_refl _) _).alloc (by simp) _);have e1:((w.alloc (.cells #[.slice a l.length cap] 43)).alloc (.cells #[.int .i64 (usedC l:Int)] 3)).heap[w.heap.size]?=some (.cells #[.slice a l.length cap] 43 (0,0)):=by
  have hb:=(Below.refl (w.alloc (.cells #[.slice a l.length cap] 43)).heap.size (w.alloc (.cells #[.slice a l.length cap] 43))).alloc (Nat.le_refl _) (.cells #[.int .i64 (usedC l:Int)] 3);rw[hb.block w.heap.size (by simp)];exact World.alloc_heap_new w _
 have e2:((w.alloc (.cells #[.slice a l.length cap] 43)).alloc (.cells #[.int .i64 (usedC l:Int)] 3)).heap[w.heap.size+1]?=some (.cells #[.int .i64 (usedC l:Int)] 3 (0,0)):=by
  have:=World.alloc_heap_new (w.alloc (.cells #[.slice a l.length cap] 43)) (.cells #[.int .i64 (usedC l:Int)] 3);rw[World.size_alloc] at this;exact this
 have HU:=hide (cusedB (h.below hb1) cap (by omega));have eg:∀args w,(callFunc 221 args).run Tryz.prog w=.ok (.enter 221 args) w:=fun args w=>by go_simp
 have HS:=hide (Any.sort_Search Tryz.searchA 221 #[(.pointer (some ⟨w.heap.size,0,none⟩)),(.pointer (some ⟨w.heap.size+1,0,none⟩))] l.length (fun i=>decide (usedC l≤2*usedC (l.take (i+1)))) ((w.alloc (.cells #[.slice a l.length cap] 43)).alloc (.cells #[.int .i64 (usedC l:Int)] 3)) eg (by omega) (fun m os i hi=>by
  have hbg:=grow_below ((w.alloc (.cells #[.slice a l.length cap] 43)).alloc (.cells #[.int .i64 (usedC l:Int)] 3)) m os;refine(cmid1 (l:=l) (cap:=cap) (a:=a) ((h.below hb2).below hbg) ((hbg.block _ (Array.getElem?_eq_some_iff.1 e1).1).trans e1) ((hbg.block _ (Array.getElem?_eq_some_iff.1 e2).1).trans e2) hc hu i hi hl).mono ?_;rintro e w'⟨rfl,q,rfl⟩;exact⟨rfl,q,#[],by rw[grow_empty]⟩) (fun x y hxy hy hp=>by
  simp only[decide_eq_true_eq] at hp ⊢;have:=usedC_mono l (show x+1≤y+1 by omega);omega))
 have hmid:(List.range l.length).countP (fun i=>!decide (usedC l≤2 * usedC (l.take (i+1))))=midC l:=rfl;rw[hmid] at HS;have HB2:=hide (hb2);generalize usedC l=u0 at *;generalize midC l=mc at *;generalize l.length=L at *;clear e1 e2 eg hb1 hb2 h hmid;go_enter Tryz.func209,Tryz.ntmps209;go_wp2_with fail
 refine HU.out.mono ?_;rintro e w1⟨rfl,hw⟩;rw[hw];clear hw;go_wp2_with fail
 refine HS.out.mono ?_;rintro e w2⟨rfl,q,os,rfl⟩;go_wp2_with fail
 go_ret;exact⟨rfl,HB2.out.trans ((grow_below _ q os).mono (HB2.out.size))⟩
structure TF (b B:Nat) (w w':World) (V V':PV):Prop where
 pm:∀l b',b'≤b→PM w l b'→PM w' l b'
 blk:∀(c:Nat) (cs:Array Value) (t:TypeId),w.heap[c]?=some (.cells cs t (0,0))→tyQ t=false→¬t=9→¬t=98→w'.heap[c]?=some (.cells cs t (0,0))
 st:∀w0 V0,St2 w0 w B V0 V→w0.heap.size≤b→B≤w0.heap.size→St2 w0 w' B V0 V'
 size:w.heap.size≤w'.heap.size
theorem TF.refl (b B:Nat)(w:World)(V:PV):TF b B w w V V:=⟨fun _ _ _ h=>h,fun _ _ _ h _ _ _=>h,fun _ _ h _ _=>h,Nat.le_refl _⟩
theorem TF.trans {b:Nat}{V'':PV}(h:TF b B w w' V V')(k:TF b B w' w'' V' V''):TF b B w w'' V V'':=
 ⟨fun l b' hb hl=>k.pm l b' hb (h.pm l b' hb hl),fun c cs t hc h1 h2 h3=>k.blk c cs t (h.blk c cs t hc h1 h2 h3) h1 h2 h3,fun w0 V0 hs hb hB=>k.st w0 V0 (h.st w0 V0 hs hb hB) hb hB,Nat.le_trans h.size k.size⟩
section
variable {pk:Nat}
theorem TS.tf (h:TS w B D Gp V K pk m A fl pages)(hs:St2 w w' B V V')(b:Nat):TF b B w w' V V':=
 ⟨fun _ _ _ hl=>h.stayPM hs hl,fun _ _ _ hc h1 _ _=>h.stay hs hc h1,fun _ _ h0 _ _=>h0.trans hs,hs.bel.size⟩
theorem NF.tf {b:Nat}(h:NF b w w')(ht:TS w B D Gp V K pk m A fl pages):TF b B w w' V V:=
 ⟨fun _ _ hb hl=>(h.mono hb).pm hl,fun _ _ _ hc _ h2 h3=>h.blk hc h2 h3,fun _ _ h0 hb hB=>h.st h0 ht hb hB,h.size⟩
theorem TF.stayTB {b:Nat}(h:TF b B w w' V V')(ht:TB w tb Gp root):TB w' tb Gp root:=h.blk _ _ _ ht (by decide) (by decide) (by decide)
theorem TF.mono {b:Nat}(h:TF b B w w' V V')(hb:b'≤b):TF b' B w w' V V':=⟨fun l b2 h2=>h.pm l b2 (Nat.le_trans h2 hb),h.blk,fun w0 V0 h0 h1 h2=>h.st w0 V0 h0 (Nat.le_trans h1 hb) h2,h.size⟩
end
theorem StB.drop {b:Nat}(h:StB w (some ⟨b,off,none⟩) l)(n:Nat):StB w (some ⟨b,off+n,none⟩) (l.drop n):=by
 rcases h with h|⟨b',off',cur,e,hh,hc⟩
 ·exact .inl (by rw[h];simp)
 ·injection e with e;injection e with e1 e2 _;subst e1 e2;refine .inr ⟨b,off+n,cur,rfl,hh,fun i hi=>?_⟩;have hi':n+i<l.length:=by simp at hi;omega
  rw[Nat.add_assoc,hc (n+i) hi',tx_get hi',tx_get hi];simp
theorem two_rows {l1 l2:List ByteArray}{s1 s2:Value}(hl:NB w pl vl sl)(hr:NB w pr vr sr)(hne:¬pl=pr){b:Nat}(hbl:b≤pl)(hbr:b≤pr):NB (((w.setCell ⟨pl,2,none⟩ s1).setCell ⟨pr,2,none⟩ s2).drew) pl { vl with cells:=l1 } s1∧NB (((w.setCell ⟨pl,2,none⟩ s1).setCell ⟨pr,2,none⟩ s2).drew) pr { vr with cells:=l2 } s2∧NF b w (((w.setCell ⟨pl,2,none⟩ s1).setCell ⟨pr,2,none⟩ s2).drew)∧(∀a,StB w a l→StB (((w.setCell ⟨pl,2,none⟩ s1).setCell ⟨pr,2,none⟩ s2).drew) a l):=by
 have g1:=set_grown w pl 2 s1;have g2:=set_grown (w.setCell ⟨pl,2,none⟩ s1) pr 2 s2;have b1:(w.setCell ⟨pl,2,none⟩ s1).heap[pl]?=some (.cells (ndC { vl with cells:=l1 } s1) 98 (0,0)):=by rw[set_blk hl];rfl
 have b2:NB (w.setCell ⟨pl,2,none⟩ s1) pr vr sr:=(g1.block pr (Array.getElem?_eq_some_iff.1 hr).1 (fun e=>by injection e with e;exact hne e.symm)).trans hr;refine⟨?_,?_,?_,fun a ha=>?_⟩
 ·show((w.setCell ⟨pl,2,none⟩ s1).setCell ⟨pr,2,none⟩ s2).heap[pl]?=_;rw[g2.block pl (Array.getElem?_eq_some_iff.1 b1).1 (fun e=>by injection e with e;exact hne e)];exact b1
 ·show((w.setCell ⟨pl,2,none⟩ s1).setCell ⟨pr,2,none⟩ s2).heap[pr]?=_;rw[set_blk b2];rfl
 ·exact(((NF.refl w).set g1 hbl (.inr ⟨_,hl⟩)).set g2 hbr (.inr ⟨_,b2⟩)).bel (drawnB _ 1)
 ·rcases ha with ha|⟨b,off,cur,e,hh,hc⟩
  ·exact .inl ha
  ·refine .inr ⟨b,off,cur,e,?_,hc⟩;show((w.setCell ⟨pl,2,none⟩ s1).setCell ⟨pr,2,none⟩ s2).heap[b]?=_;have h1:(w.setCell ⟨pl,2,none⟩ s1).heap[b]?=some (.cells cur 9 (0,0)):=(g1.block b (Array.getElem?_eq_some_iff.1 hh).1 (fun e=>by injection e with e;exact ne_CC ⟨_,hl⟩ ⟨_,hh⟩ (by decide) e)).trans hh;rw[g2.block b (Array.getElem?_eq_some_iff.1 h1).1 (fun e=>by injection e with e;exact ne_CC ⟨_,b2⟩ ⟨_,h1⟩ (by decide) e)];exact h1
section
variable {pk:Nat}
theorem cshare1 (h:TS w B D Gp V K pk m A fl pages)(hm:m≤39000)(ht:TB w tb Gp root){b:Nat}(hl:NB w pl vl sl)(hr:NB w pr vr sr)(hbl:b≤pl)(hbr:b≤pr)(hne:¬pl=pr)(hst:StB w (some ⟨g,off,none⟩) l)(hcap:l.length≤cap)(hlen:l.length≤1000)(hu:usedC l≤1500)(hkl:vl.kind=1)(hkr:vr.kind=1)(hmid:midC l<l.length)(hsl:∃x y z,sl=.slice x y z)(hsr:∃x y z,sr=.slice x y z)(h1:okP ⟨1,vl.link,l.take (midC l)⟩)(h2:okP ⟨1,vr.link,l.drop (midC l)⟩)(hn1:0<vl.num∧vl.num<pages∧¬vl.num∈fl)(hn2:0<vr.num∧vr.num<pages∧¬vr.num∈fl)(hk:kS (tx l (midC l))≤(tx l (midC l)).size∧(tx l (midC l)).size≤240):Calls Tryz.prog 184 #[(.pointer (some ⟨tb,0,none⟩)),(.pointer (some ⟨pl,0,none⟩)),(.pointer (some ⟨pr,0,none⟩)),.slice (some ⟨g,off,none⟩) l.length cap] w fun e w'=>e=.returned (.string (keyB (tx l (midC l))))∧∃V',TS w' B D Gp V' K pk (m+2) (updA (updA A vl.num ⟨1,vl.link,l.take (midC l)⟩) vr.num ⟨1,vr.link,l.drop (midC l)⟩) fl pages∧TF b B w w' V V'∧NR w' pr { vr with cells:=l.drop (midC l)}:=by
 obtain⟨x1,y1,z1,rfl⟩:=hsl;obtain⟨x2,y2,z2,rfl⟩:=hsr;have HM:=hide (cmiddle hst cap hcap (by omega) hlen);have H:=hide (h);have HTB:=hide (ht);have HL:=hide (hl);have HR:=hide (hr);have HST:=hide (hst);obtain⟨mc,hmc⟩:∃mc,midC l=mc:=⟨_,rfl⟩;rw[hmc] at HM hmid h1 h2 hk ⊢;have HX:=hide (show(okP ⟨1,vl.link,l.take mc⟩∧okP ⟨1,vr.link,l.drop mc⟩)∧(0<vl.num∧vl.num<pages∧¬vl.num∈fl)∧(0<vr.num∧vr.num<pages∧¬vr.num∈fl)∧(kS (tx l mc)≤(tx l mc).size∧(tx l mc).size≤240)∧m≤39000∧mc<l.length∧vl.kind=1∧vr.kind=1∧b≤pl∧b≤pr from⟨⟨h1,h2⟩,hn1,hn2,hk,hm,hmid,hkl,hkr,hbl,hbr⟩);have hlt1:(mc:Int)≤(l.length:Int):=by omega
 have hlt2:(mc:Int)≤(cap:Int):=by omega
 have hlt3:(mc:Int)<(l.length:Int):=by omega
 have hlc:(l.length:Int)≤(cap:Int):=by omega
 clear h ht hl hr hst h1 h2 hn1 hn2 hk hmc hm hkl hkr;go_enter Tryz.func184,Tryz.ntmps184;go_wp2_with fail
 refine HM.out.mono ?_;rintro e w1⟨rfl,hb1⟩;obtain⟨q1,s1⟩:=H.out.below hb1;have nl1:=H.out.stayNB s1 HL.out;have nr1:=H.out.stayNB s1 HR.out;obtain⟨u0,u1,u2,u3,u4,u5,u6,u7,u8⟩:=nl1.cells;obtain⟨t0,t1,t2,t3,t4,t5,t6,t7,t8⟩:=nr1.cells;have fl2:=u7 2;have fr2:=t7 2;have HB1:=hide (hb1);rw[HX.out.2.2.2.2.2.2.1] at u0;clear u7 t7 HM hb1;generalize hLL:l.length=LL at *;go_wp2_with fail
 go_region
 all_goals
  have HLL:=hide (hLL);obtain⟨n1,n2,n3,n4⟩:=two_rows (l:=l) (l1:=l.take mc) (l2:=l.drop mc) (s1:=.slice (some ⟨g,off,none⟩) mc cap) (s2:=.slice (some ⟨g,off+mc,none⟩) (LL-mc) (cap-mc)) nl1 nr1 hne hbl hbr;have q2:=n3.ts q1;have st2:=n4 _ (HST.out.below HB1.out);have e1:(l.take mc).length=mc:=by have:=HX.out.2.2.2.2.2.1;simp;omega
  have e2:(l.drop mc).length=LL-mc:=by simp[hLL]
  have r1:NR (((w1.setCell ⟨pl,2,none⟩ (.slice (some ⟨g,off,none⟩) mc cap)).setCell ⟨pr,2,none⟩ (.slice (some ⟨g,off+mc,none⟩) (LL-mc) (cap-mc))).drew) pl { vl with cells:=l.take mc }:=⟨_,cap,by rw[e1];exact n1,st2.take mc⟩;have r2:NR (((w1.setCell ⟨pl,2,none⟩ (.slice (some ⟨g,off,none⟩) mc cap)).setCell ⟨pr,2,none⟩ (.slice (some ⟨g,off+mc,none⟩) (LL-mc) (cap-mc))).drew) pr { vr with cells:=l.drop mc }:=⟨_,cap-mc,by rw[e2];exact n2,st2.drop mc⟩;have tf2:TF b B w (((w1.setCell ⟨pl,2,none⟩ (.slice (some ⟨g,off,none⟩) mc cap)).setCell ⟨pr,2,none⟩ (.slice (some ⟨g,off+mc,none⟩) (LL-mc) (cap-mc))).drew) V V:=(H.out.tf s1 b).trans (n3.tf q1);have tb2:=tf2.stayTB HTB.out;obtain⟨w0',w1',w2',w3',w4',w5',w6',w7',w8'⟩:=n1.cells;have hx:=HX.out;rw[show({ vl with cells:=l.take mc }:NV).kind=vl.kind from rfl,hx.2.2.2.2.2.2.1] at w0';have hp1:pgN { vl with cells:=l.take mc }=⟨1,vl.link,l.take mc⟩:=by unfold pgN;rw[show({ vl with cells:=l.take mc }:NV).kind=vl.kind from rfl,hx.2.2.2.2.2.2.1]
  have hp2:pgN { vr with cells:=l.drop mc }=⟨1,vr.link,l.drop mc⟩:=by unfold pgN;rw[show({ vr with cells:=l.drop mc }:NV).kind=vr.kind from rfl,hx.2.2.2.2.2.2.2.1]
  have HW1:=hide (ctwrite q2 (by omega) tb2 r1 (by rw[hp1];exact hx.1.1) hx.2.1.1 hx.2.1.2.1 hx.2.1.2.2);have HR2:=hide (show _∧_∧_∧_∧_∧_ from⟨q2,r2,tf2,tb2,hp1,hp2⟩);have HST2:=hide (st2);clear n1 n2 n3 n4 q2 st2 e1 e2 r1 r2 tf2 tb2 hp1 hp2 hx w1' w2' w3' w4' w5' w6' w7' nl1 nr1 q1 s1;generalize hW2:((w1.setCell ⟨pl,2,none⟩ (.slice (some ⟨g,off,none⟩) mc cap)).setCell ⟨pr,2,none⟩ (.slice (some ⟨g,off+mc,none⟩) (LL-mc) (cap-mc))).drew=W2 at *;clear hW2 u0 u1 u2 u3 u4 u5 u6 u8 t0 t1 t2 t3 t4 t5 t6 t8 fl2 fr2;go_wp2_with fail
  refine HW1.out.mono ?_;rintro e w3⟨rfl,V3,k1,k2⟩;obtain⟨q2,r2,tf2,tb2,hp1,hp2⟩:=HR2.out;have hx:=HX.out;have HW2:=hide (ctwrite k1 (by omega) (q2.stayTB k2 tb2) (q2.stayNR k2 r2) (by rw[hp2];exact hx.1.2) hx.2.2.1.1 hx.2.2.1.2.1 hx.2.2.1.2.2);rw[hp1,hp2] at HW2;have HT3:=hide (show TS w3 B D Gp V3 K pk (m+1) (updA A vl.num ⟨1,vl.link,l.take mc⟩) fl pages∧TF b B w w3 V V3∧StB w3 (some ⟨g,off,none⟩) l∧NR w3 pr { vr with cells:=l.drop mc } from⟨by rw[←hp1];exact k1,tf2.trans (q2.tf k2 b),q2.staySt k2 HST2.out,q2.stayNR k2 r2⟩);clear k1 k2 q2 r2 tf2 tb2 hp1 hp2 hx HW1 HR2 HST2;go_wp2_with fail
  refine HW2.out.mono ?_;rintro e w4⟨rfl,V4,k1,k2⟩;have hs4:=HT3.out.1.staySt k2 HT3.out.2.2.1;have hx:=HX.out;obtain⟨gb,goff,gcur,he,hgh,hgc⟩:=hs4.resolve_left (fun e=>by have h1:=hx.2.2.2.2.2.1;have h2:=HLL.out;rw[e] at h2;simp at h2;omega);injection he with he;injection he with he1 he2 _;have hcell:w4.cell? ⟨g,off+mc,none⟩=some (.string (tx l mc)):=by
   rw[he1,he2];simp only[World.cell?,hgh];exact hgc mc (by rw[HLL.out];exact hx.2.2.2.2.2.1)
  have HK:=hide (ckeyOf (tx l mc) w4 hx.2.2.2.1.1 (by have:=hx.2.2.2.1.2;omega));have HFIN:=hide (show TS w4 B D Gp V4 K pk (m+1+1) (updA (updA A vl.num ⟨1,vl.link,l.take mc⟩) vr.num ⟨1,vr.link,l.drop mc⟩) fl pages∧TF b B w w4 V V4∧NR w4 pr { vr with cells:=l.drop mc } from⟨k1,HT3.out.2.1.trans (HT3.out.1.tf k2 b),HT3.out.1.stayNR k2 HT3.out.2.2.2⟩);obtain⟨cm,hcm⟩:∃cm,tx l mc=cm:=⟨_,rfl⟩;rw[hcm] at HK hcell;have HCM:=hide (hcm);clear hcm;clear k1 k2 hs4 hx hgh hgc he1 he2 HT3 HW2;go_wp2_with fail
  refine HK.out.mono ?_;rintro e w5⟨rfl,hw⟩;rw[hw];clear hw;go_wp2_with fail
  go_ret;exact⟨by rw[HCM.out];rfl,V4,HFIN.out⟩
end
end Go.Proofs.YtiaibgfhigdgdaaGreat
