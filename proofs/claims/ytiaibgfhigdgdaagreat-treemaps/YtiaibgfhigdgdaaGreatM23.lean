/- a part -/
import Derived.Test.YtiaibgfhigdgdaaGreatM21
import Derived.Test.YtiaibgfhigdgdaaGreatM22
import Derived.Laws.AppendOwnNone
set_option maxRecDepth 100000
set_option maxHeartbeats 8000000
namespace Go.Proofs.YtiaibgfhigdgdaaGreat
open Tryz
open Go.RowKit Go.Lib Go.Maps Go.Sort
variable {α β:Type}{most:Int}{fs l fj es es':List Ent}{X W w w' Y W0:World}{base n size g sb B D Gp pk m pages tb root p tk d off mb:Nat}{e t:TypeId}{v fv v':Value}{xs:List Value}{lo fr ed k key val hi:ByteArray}{V V':PV}{K:Pgs}{A:Nat->PgV}{fl os:List Nat}{back:Bool}{o:Obj}{f:Array Edge}{x:T d}
def addM (most:Int)(fs l:List Ent):List Ent:=if most<0 then fs++l else fs++l.take (most.toNat-fs.length)
def fitM (most:Int)(fs:List Ent):Prop:=most<0∨(fs.length:Int)<=most
def dirL (back:Bool)(l:List α):List α:=if back=true then l.reverse else l
theorem addM_nil (most:Int)(fs:List Ent):addM most fs []=fs:=by unfold addM;split<;>simp
theorem addM_fit (h:fitM most fs)(l:List Ent):fitM most (addM most fs l):=by
 unfold fitM addM at *;split
 ·left;assumption
 ·right;rw[List.length_append,List.length_take];rcases h with h | h<;>omega
theorem addM_app (h:fitM most fs)(a b:List Ent):addM most (addM most fs a) b=addM most fs (a++b):=by
 unfold addM;by_cases hm:most<0
 ·simp only[if_pos hm,List.append_assoc]
 ·simp only[if_neg hm];have hl:(fs.length:Int)<=most:=h.resolve_left hm;rw[List.take_append,List.length_append,List.length_take,List.append_assoc];have e:most.toNat-(fs.length+min (most.toNat-fs.length) a.length)=most.toNat-fs.length-a.length:=by omega
  rw[e]
theorem addM_full (h:(fs.length:Int)=most)(l:List Ent):addM most fs l=fs:=by
 unfold addM;have e:most.toNat-fs.length=0:=by omega
 rw[if_neg (by omega),e];simp
theorem addM_one (h:fitM most fs)(hn:¬(fs.length:Int)=most)(x:Ent):addM most fs [x]=fs++[x]:=by
 unfold addM;split
 ·rfl
 ·have hl:(fs.length:Int)<=most:=h.resolve_left (by assumption);obtain⟨k,hk⟩:∃k,most.toNat-fs.length=k+1:=⟨most.toNat-fs.length-1,by omega⟩;rw[hk];simp
theorem addM_len (l:List Ent):(addM most fs l).length<=fs.length+l.length:=by
 unfold addM;split
 ·rw[List.length_append];omega
 ·rw[List.length_append,List.length_take];omega
theorem dir_flat (back:Bool)(l:List α)(f:α->List β):dirL back (l.flatMap f)=(dirL back l).flatMap (λx=>dirL back (f x)):=by
 cases back with
 | false=>rfl
 | true =>
  show(l.flatMap f).reverse=l.reverse.flatMap (λx=>(f x).reverse);rw[List.reverse_flatMap];rfl
theorem dir_map (back:Bool)(l:List α)(f:α->β):dirL back (l.map f)=(dirL back l).map f:=by
 cases back with
 | false=>rfl
 | true=>exact(List.map_reverse ..).symm
theorem dir_len (back:Bool)(l:List α):(dirL back l).length=l.length:=by
 cases back with
 | false=>rfl
 | true=>exact List.length_reverse
theorem dir_at (back:Bool)(l:List α){fi en j:Nat}(h:fi+j<en)(he:en<=l.length):(dirL back ((l.take en).drop fi))[j]?=l[if back=true then en-1-j else fi+j]?:=by
 have hl:((l.take en).drop fi).length=en-fi:=by rw[List.length_drop,List.length_take];omega
 cases back with
 | false =>
  show((l.take en).drop fi)[j]?=l[fi+j]?;rw[List.getElem?_drop,List.getElem?_take_of_lt h]
 | true =>
  show((l.take en).drop fi).reverse[j]?=l[en-1-j]?;rw[List.getElem?_reverse (by omega),hl,List.getElem?_drop,List.getElem?_take_of_lt (by omega)]
  congr 1
  omega
def entV (fs:List Ent):List Value:=fs.flatMap λe=>[.string e.1,.string e.2]
theorem entV_len:∀fs:List Ent,(entV fs).length=fs.length*2
 | []=>rfl
 | e :: r => by
  show(Value.string e.1::Value.string e.2::entV r).length=(e::r).length*2;rw[List.length_cons,List.length_cons,List.length_cons,entV_len r];omega
theorem entV_app (a b:List Ent):entV (a++b)=entV a++entV b:=by simp[entV]
theorem entV_at:∀{i:Nat} (_:i<fs.length),(entV fs)[2*i]?=some (.string fs[i].1)∧(entV fs)[2*i+1]?=some (.string fs[i].2):=by
 induction fs with
 | nil=>intro i h;simp at h
 | cons e r ih =>
  intro i h;cases i with
  | zero=>exact⟨rfl,rfl⟩
  | succ i =>
   have:=ih (i:=i) (by simpa using h);have e1:entV (e::r)=[.string e.1,.string e.2]++entV r:=rfl;rw[e1,List.getElem?_append_right (by simp;omega),List.getElem?_append_right (by simp;omega)];refine⟨?_,?_⟩
   ·rw[show 2*(i+1) - [Value.string e.1,Value.string e.2].length=2*i by simp;omega];exact this.1
   ·rw[show 2*(i+1)+1 - [Value.string e.1,Value.string e.2].length=2*i+1 by simp;omega];exact this.2
theorem entV_one (fs:List Ent):∀u∈entV fs,u.oneCell'=true:=λu hu=>by
 obtain⟨e,_,he⟩:=List.mem_flatMap.1 hu;rcases List.mem_cons.1 he with rfl|he
 ·rfl
 ·rcases List.mem_cons.1 he with rfl|he
  ·rfl
  ·cases he
theorem row_isN (h:X.ownsRow base e size v n xs)(hg:v.ownBlock=some g):isC X g e:=by
 rcases h.2 with⟨q,_⟩|⟨g',cap,cur,q,_,hgg,_⟩
 ·rw[q] at hg;cases hg
 ·rw[q] at hg;injection hg with hg;have hg:g'=g:=hg;subst hg;exact⟨_,hgg⟩
theorem own_formN {lo:Nat}(h:W.ownsRow lo t size v n xs):∃a c,v=.slice a n c:=by
 rcases h.2 with⟨e,h0⟩|⟨g,cap,_,e,_⟩
 ·exact⟨none,0,by rw[e,h0]⟩
 ·exact⟨_,_,e⟩
structure SeF (w:World) (sb:Nat) (fr ed:ByteArray) (most:Int) (back:Bool) (fv:Value) (fs:List Ent):Prop where
 se:SeV w sb fr ed most back fv
 row:w.ownsRow sb 116 2 fv fs.length (entV fs)
structure WF (sb B:Nat) (w w':World) (V V':PV):Prop where
 st:∀w0 V0,St2 w0 w B V0 V->w0.heap.size<=sb->B<=w0.heap.size->St2 w0 w' B V0 V'
 blk:∀(c:Nat) (cs:Array Value) (t:TypeId),w.heap[c]?=some (.cells cs t (0,0))->tyQ t=false->¬t=114->¬t=116->w'.heap[c]?=some (.cells cs t (0,0))
 size:w.heap.size<=w'.heap.size
theorem WF.refl (sb B:Nat)(w:World)(V:PV):WF sb B w w V V:=⟨λ_ _ h _ _=>h,λ_ _ _ h _ _ _=>h,Nat.le_refl _⟩
theorem WF.trans {w'':World}{V'':PV}(h:WF sb B w w' V V')(k:WF sb B w' w'' V' V''):WF sb B w w'' V V'':=
 ⟨λw0 V0 a b c=>k.st w0 V0 (h.st w0 V0 a b c) b c,λc cs t a b d e=>k.blk c cs t (h.blk c cs t a b d e) b d e,Nat.le_trans h.size k.size⟩
theorem TS.wf (h:TS w B D Gp V K pk m A fl pages)(hs:St2 w w' B V V')(sb:Nat):WF sb B w w' V V':=
 ⟨λ_ _ h0 _ _=>h0.trans hs,λ_ _ _ hc h1 _ _=>h.stay hs hc h1,hs.bel.size⟩
theorem TS.staySe (h:TS w B D Gp V K pk m A fl pages)(hs:St2 w w' B V V')(hp:SeF w sb fr ed most back fv fs):SeF w' sb fr ed most back fv fs:=
 ⟨⟨h.stay hs hp.se.blk (by decide)⟩,row_keep hp.row λg hg=>by
  obtain⟨cs,hcs⟩:=row_isN hp.row hg;exact(h.stay hs hcs (by decide)).trans hcs.symm⟩
theorem SeF.row_ne (hp:SeF w sb fr ed most back fv fs):¬fv.ownBlock=some sb:=λe=>by
 obtain⟨cs,hcs⟩:=row_isN hp.row e;rw[hp.se.blk] at hcs;injection hcs with hcs;injection hcs with _ hcs _;exact absurd hcs (by decide)
theorem SeF.app (h:TS X B D Gp V K pk m A fl pages)(hp:SeF X sb fr ed most back fv fs){v:ByteArray}(hg:X.grownBy Y fv.ownBlock)(ho:Y.ownsRow sb 116 2 v' (fs.length+1) (entV fs++[.string k,.string v]))(hn:v'.ownBlock=fv.ownBlock∨v'.ownBlock=some X.heap.size):TS (Y.setCell ⟨sb,4,none⟩ v') B D Gp V K pk m A fl pages∧SeF (Y.setCell ⟨sb,4,none⟩ v') sb fr ed most back v' (fs++[(k,v)])∧WF sb B X (Y.setCell ⟨sb,4,none⟩ v') V V:=by
 have hrow:=hp.row;have hspn:=hp.row_ne;have hlt:=hp.se.cells.2.2.2.2.2.2;have hsY:Y.heap[sb]?=some (.cells #[.string fr,.string ed,.int .i64 most,.bool back,fv] 114 (0,0)):=(hg.block sb hlt (λe=>hspn e.symm)).trans hp.se.blk;have hk:Kpt X Y B V.b.vo:=⟨hg.size,λc hc hl=>hg.block c hc (λe=>hl (by
  obtain⟨cs,hcs⟩:=row_isN hrow e.symm;exact .inl ⟨cs,_,hcs,by decide⟩))⟩
 have hvs:¬v'.ownBlock=some sb:=λe=>by
  rcases hn with q|q
  ·exact hspn (q.symm.trans e)
  ·rw[q] at e;injection e with e;omega
 have hz:∀c,¬c=sb->(Y.setCell ⟨sb,4,none⟩ v').heap[c]?=Y.heap[c]?:=λc hc=>Below.heap_setCell _ _ _ _ (by show ¬c=sb;exact hc)
 have old:∀c,c<X.heap.size->¬fv.ownBlock=some c->¬c=sb->(Y.setCell ⟨sb,4,none⟩ v').heap[c]?=X.heap[c]?:=λc h1 h2 h3=>(hz c h3).trans (hg.block c h1 (λe=>h2 e.symm))
 have gs:=set_grown Y sb 4 v';refine⟨(h.keptN hk).other gs ⟨_,hsY⟩ (by decide),⟨⟨set_blk hsY⟩,?_⟩,⟨λw0 V0 a b c=>?_,λc cs t a b d e=>?_,Nat.le_trans hg.size gs.size⟩⟩
 ·have e1:(fs++[(k,v)]).length=fs.length+1:=by simp
  have e2:entV (fs++[(k,v)])=entV fs++[.string k,.string v]:=by rw[entV_app];rfl
  rw[e1,e2];exact row_keep ho λg hgg=>hz g (λq=>hvs (by rw[hgg,q]))
 ·exact a.keep2 (o:=fv.ownBlock) (o':=some sb) ⟨gs.os.trans hg.os,gs.tape.trans hg.tape,gs.output.trans hg.output,Nat.le_trans hg.size gs.size,λc hc h1 h2=>(gs.block c (Nat.lt_of_lt_of_le hc hg.size) h2).trans (hg.block c hc h1)⟩ (λg e=>Nat.le_trans b (World.ownsRow.lt hrow g e).1) (λg e=>by injection e with e;omega) c
 ·refine(old c (gl a) (λq=>?_) (λq=>?_)).trans a
  ·obtain⟨cs',hcs⟩:=row_isN hrow q;rw[a] at hcs;injection hcs with hcs;injection hcs with _ hcs _;exact e hcs
  ·rw[q,hp.se.blk] at a;injection a with a;injection a with _ a _;exact d a.symm
theorem WF.nr (h:WF sb B w w' V V'){v:NV}(hn:NR w p v):NR w' p v:=by
 obtain⟨a,c,h1,h2⟩:=hn;have h1':w.heap[p]?=_:=h1;refine⟨a,c,h.blk p _ _ h1' (by decide) (by decide) (by decide),?_⟩;rcases h2 with h2 | ⟨b,off,cur,e,hbk,hc⟩
 ·exact .inl h2
 ·exact .inr ⟨b,off,cur,e,h.blk b _ _ hbk (by decide) (by decide) (by decide),hc⟩
theorem WF.tbk (h:WF sb B w w' V V')(ht:TB w tb Gp root):TB w' tb Gp root:=h.blk tb _ _ ht (by decide) (by decide) (by decide)
attribute [local go_sem ↓] Go.wp_at_zero Go.wp_at_succ
section
variable {v:NV}
theorem cwithin2 (h:NR w p v)(hk:∀c∈v.cells,kS c<=c.size∧c.size<=240)(hl:v.cells.length<=1000)(hs:(v.cells.map keyB).Pairwise λa b=>klt a b=true)(hv:v.kind=2)(hq:SeV w sb fr ed most back fv):Calls prog 143 #[(.pointer (some ⟨sb,0,none⟩)),(.pointer (some ⟨p,0,none⟩))] w λe w'=>e=.returned (.tuple #[.int .i64 (cntK (v.cells.map keyB) fr:Int),.int .i64 ((endK (v.cells.map keyB) ed+1:Nat):Int)])∧Below w.heap.size w w':=by
 have HF:=hide (λ(Y:World) (hb:Below w.heap.size w Y) (key:ByteArray)=>cfindN (h.below hb) hk hl hs key);have HC:=hide (λ(Y:World) (hb:Below w.heap.size w Y) (key:ByteArray)=>cchildFor (h.below hb) hk hl hs key);have hce:=cnt_eq (key:=fr) hs;have HQ:=hide (λ(Y:World) (hb:Below w.heap.size w Y)=>(hq.below hb).cells);have HN:=hide (λ(Y:World) (hb:Below w.heap.size w Y)=>h.below hb);obtain⟨a,c,nb,st⟩:=h;obtain⟨n0,n1,n2,n3,n4,n5,n6,n7,n8⟩:=nb.cells;rw[hv] at n0;obtain⟨c0,c1,c2,c3,c4,c5,c6⟩:=hq.cells;have hkl:(v.cells.map keyB).length=v.cells.length:=List.length_map _;have hpl:=pos_len (v.cells.map keyB) ed;unfold endK;rw[hkl] at hpl ⊢;generalize v.cells.map keyB=ks at *;generalize v.cells.length=cn at *;clear hs hk nb st hq n1 n3 n4 n5 n6 n7 c2 c3 c4 c5;cases hE:ed.toList.isEmpty with
 | true =>
  rw[if_pos rfl];have hw1:IntKind.i64.wrap ((cn:Int)+1)=((cn+1:Nat):Int):=by rw[IntKind.wrap_i64];omega
  have HC1:=hide (HC.out w (Below.refl _ _) fr);rw[hce] at HC1;generalize cntK ks fr=q at *;clear HC HF HQ HN hce;go_enter func143,ntmps143;go_wp2_with fail
  refine HC1.out.mono ?_;rintro e w1⟨rfl,hb⟩;have HB:=hide hb;clear hb;go_wp2_with fail
  refine bodyPost_ret (v:=.tuple #[.int .i64 (q:Int),.int .i64 ((cn+1:Nat):Int)]) (by simp[results,results143,go_sem, *]) rfl ?_;exact⟨rfl,HB.out⟩
 | false =>
  rw[if_neg (by simp)];have hw1:IntKind.i64.wrap ((posK ks ed:Int)+1)=((posK ks ed+1:Nat):Int):=by rw[IntKind.wrap_i64];omega
  have HC2:=hide (λ(Y:World) (hb:Below w.heap.size w Y)=>by
   have:=HC.out Y hb fr;rw[hce] at this;exact this)
  have HF2:=hide (HF.out w (Below.refl _ _) ed);generalize cntK ks fr=q at *;generalize posK ks ed=pe at *;clear HC HF hce;go_enter func143,ntmps143;go_wp2_with fail
  refine HF2.out.mono ?_;rintro e w1⟨rfl,hb⟩;obtain⟨d0,d1,d2,d3,d4,d5,d6⟩:=HQ.out w1 hb;obtain⟨a',c',nb',st'⟩:=HN.out w1 hb;have m0:=nb'.cells.1;rw[hv] at m0;have HB:=hide hb;have HC1:=hide (HC2.out w1 hb);clear hb nb' st' d2 d3 d4 d5 HC2 HF2 HQ HN;go_wp2_with fail
  refine HC1.out.mono ?_;rintro e w2⟨rfl,hb2⟩;have HB2:=hide (HB.out.trans (hb2.mono HB.out.size));clear hb2;go_wp2_with fail
  refine bodyPost_ret (v:=.tuple #[.int .i64 (q:Int),.int .i64 ((pe+1:Nat):Int)]) (by simp[results,results143,go_sem, *]) rfl ?_;exact⟨rfl,HB2.out⟩
end
def walkP (w:World)(sb B D Gp:Nat)(V:PV)(K:Pgs)(pk m:Nat)(A:Nat->PgV)(fl:List Nat)(pages:Nat)(fr ed:ByteArray)(most:Int)(back:Bool)(fs l:List Ent)(e:Ending)(w':World):Prop:=
 e=.returned (.tuple #[])∧∃(V':PV) (fv':Value),TS w' B D Gp V' K pk m A fl pages∧SeF w' sb fr ed most back fv' (addM most fs l)∧WF sb B w w' V V'
structure WkS (w Y:World) (sb B D Gp:Nat) (V Vi:PV) (K:Pgs) (pk m:Nat) (A:Nat->PgV) (fl:List Nat) (pages:Nat) (fr ed:ByteArray) (most:Int) (back:Bool) (fv:Value) (fs:List Ent):Prop where
 ts:TS Y B D Gp Vi K pk m A fl pages
 se:SeF Y sb fr ed most back fv fs
 wf:WF sb B w Y V Vi
theorem addM_all (h:fitM most (fs++l)):addM most fs l=fs++l:=by
 unfold addM;split
 ·rfl
 ·have:l.length<=most.toNat-fs.length:=by
   rcases h with h|h
   ·omega
   ·rw[List.length_append] at h;omega
  rw[List.take_of_length_le this]
theorem addM_over {a:List Ent}(h0:fitM most fs)(h:fitM most (fs++a))(hf:((fs++a).length:Int)=most)(b:List Ent):addM most fs (a++b)=fs++a:=by
 rw[<-addM_app h0,addM_all h,addM_full hf]
theorem infoE:(prog.info? 116).map (λi=>(i.zero,i.size,i.bytes))=some (some (.agg #[.string ⟨#[]⟩,.string ⟨#[]⟩]),2,32):=by kernel_rfl
theorem newsE (w:World)(k v:ByteArray):∀j u,([.string k,.string v]:List Value)[j]?=some u->(w.alloc (.cells #[.string k,.string v] 116)).cell? ((⟨w.heap.size,0,none⟩:Addr).add j)=some u:=by
 intro j u hj
 match j,hj with
 | 0,h=>cases h;go_simp
 | 1,h=>cases h;go_simp
section
variable {Vi:PV}
theorem WkS.below (h:WkS w X sb B D Gp V Vi K pk m A fl pages fr ed most back fv fs)(hb:Below X.heap.size X Y):WkS w Y sb B D Gp V Vi K pk m A fl pages fr ed most back fv fs:=by
 obtain⟨t2,s2⟩:=h.ts.below hb;exact⟨t2,h.ts.staySe s2 h.se,h.wf.trans (h.ts.wf s2 sb)⟩
theorem WkS.stay {V2:PV}(h:WkS w X sb B D Gp V Vi K pk m A fl pages fr ed most back fv fs)(t2:TS Y B D Gp V2 K pk m A fl pages)(s2:St2 X Y B Vi V2):WkS w Y sb B D Gp V V2 K pk m A fl pages fr ed most back fv fs:=⟨t2,h.ts.staySe s2 h.se,h.wf.trans (h.ts.wf s2 sb)⟩
theorem WkS.app {v:ByteArray}(h:WkS w X sb B D Gp V Vi K pk m A fl pages fr ed most back fv fs)(hg:(X.alloc o).grownBy Y fv.ownBlock)(ho:Y.ownsRow sb 116 2 v' (fs.length+1) (entV fs++[.string k,.string v]))(hn:v'.ownBlock=fv.ownBlock∨v'.ownBlock=some (X.heap.size+1)):WkS w (Y.setCell ⟨sb,4,none⟩ v') sb B D Gp V Vi K pk m A fl pages fr ed most back v' (fs++[(k,v)]):=by
 have h2:=h.below (show Below X.heap.size X (X.alloc o) from((Below.refl _ _).alloc (Nat.le_refl _) _));obtain⟨a,b,c⟩:=SeF.app h2.ts h2.se hg ho (by simpa using hn);exact⟨a,b,h2.wf.trans c⟩
theorem WkS.cellsY (h:WkS w X sb B D Gp V Vi K pk m A fl pages fr ed most back fv fs)(hg:(X.alloc o).grownBy Y fv.ownBlock):Y.cell? ⟨sb,4,none⟩=some fv∧(∀o,Y.frozen? ⟨sb,o,none⟩=false)∧sb<Y.heap.size:=by
 have h2:=h.below (show Below X.heap.size X (X.alloc o) from((Below.refl _ _).alloc (Nat.le_refl _) _));have e:=(hg.block sb h2.se.se.cells.2.2.2.2.2.2 (λe=>h2.se.row_ne e.symm)).trans h2.se.se.blk;exact⟨by simp[World.cell?,e],λo=>by simp[World.frozen?,e],(gl e)⟩
end
def wk9S (w W0:World)(sb B D Gp:Nat)(V:PV)(K:Pgs)(pk m:Nat)(A:Nat->PgV)(fl:List Nat)(pages:Nat)(fr ed:ByteArray)(most:Int)(back:Bool)(fv:Value)(fj:List Ent)(key val:ByteArray):Nat->Value->Value->World->Prop
 | 0,_,_,X=>X=W0
 | 1,_,_,X=>∃V2,WkS w X sb B D Gp V V2 K pk m A fl pages fr ed most back fv fj
 | 2,y,_,X=>∃V2 w2,WkS w w2 sb B D Gp V V2 K pk m A fl pages fr ed most back fv fj∧X=w2.alloc (.cells #[.string key,.string val] 116)∧y=.slice (some ⟨w2.heap.size,0,none⟩) 1 1
 | 3,_,z,X=>∃V2 w2,WkS w w2 sb B D Gp V V2 K pk m A fl pages fr ed most back fv fj∧(w2.alloc (.cells #[.string key,.string val] 116)).grownBy X fv.ownBlock∧X.ownsRow sb 116 2 z (fj.length+1) (entV fj++[.string key,.string val])∧(z.ownBlock=fv.ownBlock∨z.ownBlock=some (w2.heap.size+1))
 | _,_,_,X=>∃V2 fv2,WkS w X sb B D Gp V V2 K pk m A fl pages fr ed most back fv2 (fj++[(key,val)])
theorem wk9_mk {p:String}(a:Act)(y z:Value)(X:World)(hS:wk9S w W0 sb B D Gp V K pk m A fl pages fr ed most back fv fj key val 1 y z X)(q0:a.eval (.tmp 76)=.agg #[.string key,.string val]):∃v X',(execOp a.eval ⟨some 77,.buildSlice 32 1 #[(0,.tmp 76)],t,p,f,none⟩).run prog X=.ok (.value v) X'∧wk9S w W0 sb B D Gp V K pk m A fl pages fr ed most back fv fj key val 2 v z X':=by
 obtain⟨V2,hS⟩:=hS;refine⟨.slice (some ⟨X.heap.size,0,none⟩) 1 1,X.alloc (.cells #[.string key,.string val] 116),?_,V2,X,hS,rfl,rfl⟩;have q1:=tmp_of q0;simp only[execOp];go_simp
theorem wk9_app {p:String}(hfj:fj.length<=100000)(a:Act)(y z:Value)(X:World)(hS:wk9S w W0 sb B D Gp V K pk m A fl pages fr ed most back fv fj key val 2 y z X)(q0:a.eval (.tmp 62)=fv)(q1:a.eval (.tmp 77)=y):∃v X',(execOp a.eval ⟨some 78,.call { callee:=.builtin .append,args:=#[.tmp 62,.tmp 77],argTypes:=#[32,32]},t,p,f,none⟩).run prog X=.ok (.value v) X'∧wk9S w W0 sb B D Gp V K pk m A fl pages fr ed most back fv fj key val 3 y v X':=by
 obtain⟨V2,w2,hS,rfl,rfl⟩:=hS;obtain⟨i1,hif1,hy0,hy1,hy2⟩:=info_parts infoE;obtain⟨v',w',hrun,r1,r2,_,r4⟩:=run_append_own_at (P:=prog) (w2.alloc (.cells #[.string key,.string val] 116)) sb 32 t 116 i1 (.agg #[.string ⟨#[]⟩,.string ⟨#[]⟩]) 2 32 underlying32 hif1 hy0 hy1 hy2 rfl (by decide) fv fj.length (entV fj) (World.ownsRow.alloc hS.se.row _) ⟨w2.heap.size,0,none⟩ 1 1 [.string key,.string val] rfl (newsE _ _ _) (entV_one [(key,val)]) (by unfold maxLen;omega) (by omega) (by have:=hS.se.se.cells.2.2.2.2.2.2;simp;omega);refine⟨v',w',?_,V2,w2,hS,r2,r1,by simpa using r4⟩;simp[execOp,resolve,invoke,builtin,q0,q1,hrun,Result.andThen]
theorem wk9_st {p:String}(a:Act)(y z:Value)(X:World)(hS:wk9S w W0 sb B D Gp V K pk m A fl pages fr ed most back fv fj key val 3 y z X)(q0:a.eval (.tmp 80)=.pointer (some ⟨sb,4,none⟩))(q1:a.eval (.tmp 78)=z):∃X',(execOp a.eval ⟨none,.store 32 (.tmp 80) (.tmp 78),t,p,f,none⟩).run prog X=.ok .skip X'∧wk9S w W0 sb B D Gp V K pk m A fl pages fr ed most back fv fj key val 4 y z X':=by
 obtain⟨V2,w2,hS,hg,ho,hn⟩:=hS;obtain⟨y1,y4,y5⟩:=hS.cellsY hg;obtain⟨a3,c3,rfl⟩:=own_formN hS.se.row;have y7:=y4 4;have HN:=hS.app hg ho hn;obtain⟨a8,c8,rfl⟩:=own_formN ho;refine⟨X.setCell ⟨sb,4,none⟩ (.slice a8 (fj.length+1) c8),?_,V2,_,HN⟩;have q2:=tmp_of q0;have q3:=tmp_of q1;simp only[execOp];go_simp
theorem cwalk0 (h:TS w B D Gp V K pk m A fl pages)(hm:m<=40000)(ht:TB w tb Gp root){x:T 0}(hn:NR w p (nvT 0 x lo hi tk))(hb:Bnd 0 lo hi x)(hu:usedC (cellsT 0 x)<=1012)(hA:∀q∈nodT 0 x,A q.1=q.2)(hs:∀n∈numsT 0 x,n<pages)(hq:SeF w sb fr ed most back fv fs)(hf:fitM most fs)(hl:fs.length+x.its.length<=100000)(hB:B<=sb):Calls prog 92 #[(.pointer (some ⟨tb,0,none⟩)),(.pointer (some ⟨p,0,none⟩)),(.pointer (some ⟨sb,0,none⟩))] w (walkP w sb B D Gp V K pk m A fl pages fr ed most back fs (dirL back ((entT 0 x).filter λe=>inR fr ed e.1))):=by
 have hbi:BI lo x.its hi:=hb;have hcx:(cellsT 0 x).length<=1000:=used_few hu;have hsort:=(keys_sort 0 hb).2.1;have e1:(cellsT 0 x).map keyB=x.its.map (·.key):=leaf_keys hb;have hcl:(cellsT 0 x).length=x.its.length:=by show(x.its.map cellI).length=_;simp
 have HW:=hide (cwithin1 hn (leaf_cells hb) hcx (by show((cellsT 0 x).map keyB).Pairwise _;rw[e1];exact hsort) rfl hq.se);have e2:(nvT 0 x lo hi tk).cells.map keyB=x.its.map (·.key):=e1;rw[e2] at HW;have hent:dirL back ((entT 0 x).filter λe=>inR fr ed e.1)=entI (dirL back ((x.its.take (endK (x.its.map (·.key)) ed)).drop (posK (x.its.map (·.key)) fr))):=by
  rw[<-leaf_range hsort];show dirL back ((x.its.map λi=>(i.key,i.val)).filter λe=>inR fr ed e.1)=_;unfold entI;rw[<-dir_map,List.filter_map];rfl
 have hfi:posK (x.its.map (·.key)) fr<=x.its.length:=pos_le;have hen:endK (x.its.map (·.key)) ed<=x.its.length:=by
  unfold endK;split
  ·simp
  ·exact pos_le
 generalize posK (x.its.map (·.key)) fr=fi at *;generalize endK (x.its.map (·.key)) ed=en at *;obtain⟨seq,hseq⟩:∃seq,dirL back ((x.its.take en).drop fi)=seq:=⟨_,rfl⟩;rw[hseq] at hent;rw[hent];have hsl:seq.length=en-fi:=by rw[<-hseq,dir_len,List.length_drop,List.length_take];omega
 have HE:=hide (show ∀j,fi+j<en->∃i it,i=(if back=true then en-1-j else fi+j)∧i<x.its.length∧x.its[i]?=some it∧seq[j]?=some it∧okI it∧tx (cellsT 0 x) i=cellI it∧kS (cellI it)<=(cellI it).size∧(cellI it).size<=240∧keyB (cellI it)=it.key∧(∀q∈it.pgs,q<pages)∧(∀q∈nodI it,A q.1=q.2) from λj hj=>by
  have hd:=dir_at back x.its hj hen;rw[hseq] at hd;have hi':(if back=true then en-1-j else fi+j)<x.its.length:=by split<;>omega
  rw[List.getElem?_eq_getElem hi'] at hd;refine⟨_,_,rfl,hi',List.getElem?_eq_getElem hi',hd,?_⟩;generalize (if back=true then en-1-j else fi+j)=i at *;have hmem:x.its[i]∈x.its:=List.getElem_mem hi';have hok:=(BI_mem hbi _ hmem).1;obtain⟨k1,k2,k3,-⟩:=cellI_key hok;have htx:tx (cellsT 0 x) i=cellI x.its[i]:=by
   show tx (x.its.map cellI) i=_;rw[tx_map cellI hi']
  have hsz:(cellI x.its[i]).size<=240:=(leaf_cells hb _ (List.mem_map.2 ⟨_,hmem,rfl⟩)).2;have hnod:∀q∈nodI x.its[i],q∈nodT 0 x:=λq hq=>List.mem_cons_of_mem _ (List.mem_flatMap.2 ⟨_,hmem,hq⟩)
  refine⟨hok,htx,k2,hsz,k1,λq hq=>?_,λq hq=>hA q (hnod q hq)⟩;rw[<-nodI_fst hok] at hq;obtain⟨z,hz,rfl⟩:=List.mem_map.1 hq;exact hs _ (List.mem_map.2 ⟨z,hnod z hz,rfl⟩))
 have HK:=hide (And.intro hn (And.intro ht (And.intro hf hB)));have H0:=hide (λ(Z:World) (hZ:Below w.heap.size w Z)=>(show WkS w Z sb B D Gp V V K pk m A fl pages fr ed most back fv fs from WkS.below ⟨h,hq,WF.refl _ _ _ _⟩ hZ));clear h ht hn hb hu hA hs hq hf hbi hcx hsort e1 e2 hent hseq hcl;go_enter func92,ntmps92;go_wp2_with fail
 refine HW.out.mono ?_;rintro e w1⟨rfl,hb1⟩;have HS1:=hide (H0.out w1 hb1);clear hb1 HW H0;go_wp2_with fail
 go_loopw [8] (λx8 Y=>∃(j:Nat) (Vi:PV) (fvi:Value),j<=en-fi∧x8=.int .i64 ((fi+j:Nat):Int)∧Hid (WkS w Y sb B D Gp V Vi K pk m A fl pages fr ed most back fvi (fs++entI (seq.take j))∧fitM most (fs++entI (seq.take j)))) (λx8 _=>en-(intOf x8).toNat)
 case atStart=>exact⟨0,V,fv,Nat.zero_le _,rfl,by simpa[entI] using⟨HS1.out,HK.out.2.2.1⟩⟩
 case round =>
  clear HS1;obtain⟨j,Vi,fvi,hj,rfl,HI⟩:=hrel;obtain⟨fj,hfj⟩:∃fj,fs++entI (seq.take j)=fj:=⟨_,rfl⟩;rw[hfj] at HI;obtain⟨a4,c4,rfl⟩:=own_formN HI.out.1.se.row;obtain⟨d0,d1,d2,d3,d4,d5,d6⟩:=HI.out.1.se.se.cells;have HD:=hide (HI.out.1.below (show Below wr.heap.size wr wr.drew from(Below.refl _ _).drew));obtain⟨kk,hkk0⟩:∃kk,fi+j=kk:=⟨_,rfl⟩;have HFJ:=hide (And.intro hfj (And.intro hkk0 hj));by_cases hjn:fi+j<en
  ·have hlt:(kk:Int)<(en:Int):=by omega
   by_cases hfull:(fj.length:Int)=most
   ·rw[hkk0];have HX:=hide (show addM most fs (entI seq)=fj from by
     have e:entI seq=entI (seq.take j)++entI (seq.drop j):=by unfold entI;rw[<-List.map_append,List.take_append_drop]
     rw[e,addM_over HK.out.2.2.1 (by rw[hfj];exact HI.out.2) (by rw[hfj];exact hfull),hfj])
    clear hfj hkk0 hj hjn
    go_upto_region 2 with fail
    go_cut [31] (λx31 wx=>x31=.bool false∧wx=wr.drew)
    case first =>
     refine wk2 sb kk en fj.length c4 a4 most true false (λ_=>d4) (λ_=>d2) (decide_eq_true hlt) (λ_=>by simpa using hfull) (by simp) rfl rfl rfl (by kernel_rfl) (by kernel_rfl) (by kernel_rfl) (by kernel_rfl) ?_;simp only[vs,Twk2,gd,Bool.true_and,List.map_cons,List.map_nil,sets,List.setIfInBounds_toArray,List.set_cons_zero,List.set_cons_succ];go_wp2_with fail
     go_meet
     case rel=>exact⟨rfl,rfl⟩
    obtain⟨rfl,rfl⟩:=hcut;go_wp2_with fail
    go_end0;exact⟨rfl,Vi,_,HD.out.ts,by rw[HX.out];exact HD.out.se,HD.out.wf⟩
   ·obtain⟨i,it,hi,hil,hit,hsj,hok,htx,hk2,hsz,hkk,hpg,hnd⟩:=HE.out j hjn;have hiB:i<=100000:=by omega
    have hbk:(back=true∧(i:Int)=(fi:Int)+(en:Int)-1-(kk:Int))∨(back=false∧i=kk):=by
     cases back with
     | true=>left;refine⟨rfl,?_⟩;rw[if_pos rfl] at hi;omega
     | false=>right;refine⟨rfl,?_⟩;rw[if_neg (by decide)] at hi;omega
    have HJ:=hide (show fj++[(it.key,it.val)]=fs++entI (seq.take (j+1))∧fitM most (fj++[(it.key,it.val)])∧j+1<=en-fi from by
     have hjl:j<seq.length:=by omega
     have e:seq.take (j+1)=seq.take j++[it]:=by
      rw[List.getElem?_eq_getElem hjl] at hsj;injection hsj with hsj;rw[take_snoc hjl,hsj]
     refine⟨?_,?_,by omega⟩
     ·rw[e,<-hfj];simp[entI]
     ·rw[<-addM_one HI.out.2 hfull];exact addM_fit HI.out.2 _)
    rw[hkk0];clear hfj hj hjn hi
    go_upto_region 2 with fail
    go_cut [31] (λx31 wx=>x31=.bool true∧wx=wr.drew)
    case first =>
     refine wk2 sb kk en fj.length c4 a4 most true true (λ_=>d4) (λ_=>d2) (decide_eq_true hlt) (λ_=>by simpa using hfull) (by simp) rfl rfl rfl (by kernel_rfl) (by kernel_rfl) (by kernel_rfl) (by kernel_rfl) ?_;simp only[vs,Twk2,gd,Bool.true_and,List.map_cons,List.map_nil,sets,List.setIfInBounds_toArray,List.set_cons_zero,List.set_cons_succ];go_wp2_with fail
     go_meet
     case rel=>exact⟨rfl,rfl⟩
    obtain⟨rfl,rfl⟩:=hcut;obtain⟨f0,f1,f2,f3,f4,f5,f6⟩:=HD.out.se.se.cells;clear d0 d1 d2 d3 d4 d5 d6 f0 f1 f2 f4;have HD2:=hide (HD.out.below (show Below wr.drew.heap.size wr.drew wr.drew.drew from(Below.refl _ _).drew));have hnr1:=HD.out.wf.nr HK.out.1;have hnr:=HD2.out.wf.nr HK.out.1;obtain⟨aa1,cc1,nb1,-⟩:=hnr1;have m0:wr.drew.cell? ⟨p,0,none⟩=some (.int .i64 1):=nb1.cells.1;have hcn:i<(cellsT 0 x).length:=by show i<(x.its.map cellI).length;rw[List.length_map];exact hil
    have htx':tx (nvT 0 x lo hi tk).cells i=cellI it:=htx;have HKY:=hide (ckeyN hnr i hcn (by rw[htx'];exact hk2) (by rw[htx'];exact hsz));rw[htx',hkk] at HKY;have HKY2:=hide (λ(Z:World) (hz:NR Z p (nvT 0 x lo hi tk))=>(by
     have:=ckeyN hz i hcn (by rw[htx'];exact hk2) (by rw[htx'];exact hsz);rw[htx',hkk] at this;exact this:Calls prog 144 #[(.pointer (some ⟨p,0,none⟩)),.int .i64 (i:Int)] Z λe w'=>e=.returned (.string it.key)∧w'=Z))
    have HVL:=hide (cvalueOf HD2.out.ts hm (HD2.out.wf.tbk HK.out.2.1) it hok hpg hnd);obtain⟨aa,cc,nb,st⟩:=hnr;have n2:wr.drew.drew.cell? ⟨p,2,none⟩=some (.slice aa (cellsT 0 x).length cc):=nb.cells.2.2.1;have n8:=nb.cells.2.2.2.2.2.2.2.2;obtain⟨g2,off,cur,rfl,hg2,hc2⟩:∃b off cur,aa=some ⟨b,off,none⟩∧wr.drew.drew.heap[b]?=some (.cells cur 9 (0,0))∧∀i,i<(cellsT 0 x).length->cur[off+i]?=some (.string (tx (cellsT 0 x) i)):=by
     rcases st with st|st
     ·have st:cellsT 0 x=[]:=st;rw[st] at hcn;exact absurd hcn (by simp)
     ·exact st
    have ce:wr.drew.drew.cell? ⟨g2,off+i,none⟩=some (.string (cellI it)):=by
     simp only[World.cell?,hg2];rw[hc2 i hcn,htx];rfl
    have i0:(0:Int)<=(i:Int):=by omega
    have i2:(i:Int)<((cellsT 0 x).length:Int):=by omega
    obtain⟨p0,p1,p2,p3,p4,p5,p6⟩:=HD2.out.se.se.cells;obtain⟨i1,hif1,hy0,hy1,hy2⟩:=info_parts infoE;obtain⟨fn,hfn⟩:∃fn,fj.length=fn:=⟨_,rfl⟩;have hfB:fn<=100000:=by
     have:=congrArg List.length HFJ.out.1;rw[List.length_append] at this;unfold entI at this;rw[List.length_map,List.length_take] at this;omega
    rw[hfn] at p4;generalize (cellsT 0 x).length=cn at *;generalize cellI it=cj at *;clear nb nb1 hc2 hg2 hnd hpg hok htx htx' hk2 hsz hkk hit hsj hil hcn p0 p1 p2 p3 p5;rcases hbk with⟨hbt,hi⟩ | ⟨hbt,rfl⟩
    all_goals
     rw[hbt] at f3;clear hbt
    case' inl =>
     have vw1:IntKind.i64.wrap ((fi:Int)+(en:Int))=(fi:Int)+(en:Int):=by rw[IntKind.wrap_i64];omega
     have vw2:IntKind.i64.wrap ((fi:Int)+(en:Int)-1)=(fi:Int)+(en:Int)-1:=by rw[IntKind.wrap_i64];omega
     have vw3:IntKind.i64.wrap ((fi:Int)+(en:Int)-1-(kk:Int))=(i:Int):=by rw[IntKind.wrap_i64];omega
     clear hi
    all_goals
     go_upto_region 9 with fail
     refine wk9 sb p tb i fn c4 g2 off cn cc a4 cj it.key it.val (wk9S w wr.drew.drew sb B D Gp V K pk m A fl pages fr ed most back (.slice a4 fn c4) fj it.key it.val) i0 i2 (by simp) rfl rfl rfl rfl rfl (by kernel_rfl) (by kernel_rfl) (by kernel_rfl) (by kernel_rfl) (by kernel_rfl) (by kernel_rfl) (by kernel_rfl) (by kernel_rfl) (by kernel_rfl) (by kernel_rfl) (by kernel_rfl) (by kernel_rfl) (by kernel_rfl) (by kernel_rfl) (by kernel_rfl) (by kernel_rfl) (by kernel_rfl) (by kernel_rfl) (by kernel_rfl) rfl ?hc ?hr1 ?hr2 ?hr3 ?hl62 ?hl71 ?hl74 ?hky ?_
     case hc=>rintro _ _ _ rfl;exact HVL.out.mono (λe w' hh=>⟨hh.1,by obtain⟨V2,q1,q2⟩:=hh.2;exact⟨V2,hfn ▸ HD2.out.stay q1 q2⟩⟩)
     case hr1=>exact wk9_mk
     case hr2=>exact wk9_app (by omega)
     case hr3=>exact wk9_st
     case hl62 =>
      intro k y z X hk hS
      match k,hk,hS with
      | 0,_,hS=>cases hS;exact p4
      | 1,_,⟨V2,hS⟩=>exact hS.se.se.cells.2.2.2.2.1
      | 2,_,⟨V2,w2,hS,hX,_⟩=>rw[hX];exact(hS.below (show Below w2.heap.size w2 _ from((Below.refl _ _).alloc (Nat.le_refl _) _))).se.se.cells.2.2.2.2.1
     case hl71=>rintro k y z X hk hS;have:k=0:=(by omega);subst this;cases hS;exact n2
     case hl74=>rintro k y z X hk hS;have:k=0:=(by omega);subst this;cases hS;exact ce
     case hky =>
      intro k y z X hk hS
      match k,hk,hS with
      | 0,_,hS=>cases hS;exact HKY.out.mono (λe w' hh=>⟨hh.1,hh.2⟩)
      | 1,_,⟨V2,hS⟩=>exact(HKY2.out X (hS.wf.nr HK.out.1)).mono (λe w' hh=>⟨hh.1,by rw[hh.2];exact⟨V2,hS⟩⟩)
     intro u58 u59 u60 u61 u62 u63 u64 u65 u66 u67 u68 u69 u70 u71 u72 u73 u74 u75 u76 u77 u78 u79 u80 X9 hX9;obtain⟨V2,fv2,HN8'⟩:=hX9;have HN8:=hide HN8';clear HN8';simp only[sets,List.setIfInBounds_toArray,List.set_cons_zero,List.set_cons_succ];go_wp2_with fail
     go_roundw
     case rel=>exact⟨j+1,V2,fv2,HJ.out.2.2,by have:=HFJ.out.2.1;go_num,by rw[<-HJ.out.1];exact⟨HN8.out,HJ.out.2.1⟩⟩
     case measure=>simp[intOf];have:=HFJ.out.2.1;omega
  ·have hlt:¬(kk:Int)<(en:Int):=by omega
   rw[hkk0];have HX:=hide (show addM most fs (entI seq)=fj from by
    have e:seq.take j=seq:=List.take_of_length_le (by omega);rw[e] at hfj;rw[addM_all (by rw[hfj];exact HI.out.2),hfj])
   clear hfj hkk0 hj hjn
   go_upto_region 2 with fail
   go_cut [31] (λx31 wx=>x31=.bool false∧wx=wr.drew)
   case first =>
    refine wk2 sb kk en 0 0 none 0 false false (λh=>by cases h) (λh=>by cases h) (decide_eq_false hlt) (λh=>by cases h) (by simp) rfl rfl rfl (by kernel_rfl) (by kernel_rfl) (by kernel_rfl) (by kernel_rfl) ?_;simp only[vs,Twk2,gd,Bool.false_and,List.map_cons,List.map_nil,sets,List.setIfInBounds_toArray,List.set_cons_zero,List.set_cons_succ];go_wp2_with fail
    go_meet
    case rel=>exact⟨rfl,rfl⟩
   obtain⟨rfl,rfl⟩:=hcut;go_wp2_with fail
   go_end0;exact⟨rfl,Vi,_,HD.out.ts,by rw[HX.out];exact HD.out.se,HD.out.wf⟩
theorem node_keys (hb:Bnd d lo hi x):(cellsT d x).map keyB=keysT d x:=by
 apply List.ext_getElem
 ·rw[keys_len];simp
 ·intro i h1 h2;have hi':i<(cellsT d x).length:=by simpa using h1
  have:=(cells_key d hb i hi').1;rw[tx_get hi',tx_get h2] at this;rw[List.getElem_map,this]
theorem node_cells (hb:Bnd d lo hi x):∀c∈cellsT d x,kS c<=c.size∧c.size<=240:=λc hc=>by
 obtain⟨i,hi',rfl⟩:=List.getElem_of_mem hc;have:=(cells_key d hb i hi').2.1;rw[tx_get hi'] at this;exact⟨this,cells_sz d hb _ hc⟩
theorem flat_take (l:List α)(f:α->List β)(n:Nat):((l.take n).flatMap f).length<=(l.flatMap f).length:=by
 conv=>rhs;rw[<-List.take_append_drop n l,List.flatMap_append]
 rw[List.length_append];omega
theorem flat_drop (l:List α)(f:α->List β)(n:Nat):((l.drop n).flatMap f).length<=(l.flatMap f).length:=by
 conv=>rhs;rw[<-List.take_append_drop n l,List.flatMap_append]
 rw[List.length_append];omega
theorem flat_dir (back:Bool)(l:List α)(f:α->List β):((dirL back l).flatMap f).length=(l.flatMap f).length:=by
 cases back with
 | false=>rfl
 | true=>exact((List.reverse_perm l).flatMap_right f).length_eq
theorem flat_sub (f g:α->List β)(h:∀x,(g x).length<=(f x).length):∀l:List α,(l.flatMap g).length<=(l.flatMap f).length
 | []=>Nat.le_refl _
 | x :: r => by
  rw[List.flatMap_cons,List.flatMap_cons,List.length_append,List.length_append];have:=flat_sub f g h r;have:=h x;omega
def WalkOk (B D Gp:Nat)(K:Pgs)(pk m:Nat)(A:Nat->PgV)(fl:List Nat)(pages sb tb root:Nat)(fr ed:ByteArray)(most:Int)(back:Bool)(d:Nat):Prop:=∀(w:World) (V:PV) (fv:Value) (fs:List Ent) (x:T d) (lo hi:ByteArray) (p tk:Nat),TS w B D Gp V K pk m A fl pages->TB w tb Gp root->NR w p (nvT d x lo hi tk)->Bnd d lo hi x->usedC (cellsT d x)<=1012->FilK d x->(∀q∈nodT d x,A q.1=q.2)->(∀n∈numsT d x,n<pages)->SeF w sb fr ed most back fv fs->fitM most fs->fs.length+(entT d x).length<=100000 ->
  Calls prog 92 #[(.pointer (some ⟨tb,0,none⟩)),(.pointer (some ⟨p,0,none⟩)),(.pointer (some ⟨sb,0,none⟩))] w (walkP w sb B D Gp V K pk m A fl pages fr ed most back fs (dirL back ((entT d x).filter λe=>inR fr ed e.1)))
theorem walkP.wk {w1:World}{e:Ending}{V1:PV}{f0:Value}(h0:WkS w w1 sb B D Gp V V1 K pk m A fl pages fr ed most back f0 fs)(h:walkP w1 sb B D Gp V1 K pk m A fl pages fr ed most back fs l e w'):e=.returned (.tuple #[])∧∃V' fv',WkS w w' sb B D Gp V V' K pk m A fl pages fr ed most back fv' (addM most fs l):=by
 obtain⟨h1,V',fv',t,s,f⟩:=h;exact⟨h1,V',fv',t,s,h0.wf.trans f⟩
theorem cwalk1 (IH:WalkOk B D Gp K pk m A fl pages sb tb root fr ed most back d)(h:TS w B D Gp V K pk m A fl pages)(hm:m<=40000)(ht:TB w tb Gp root){x:T (d+1)}(hn:NR w p (nvT (d+1) x lo hi tk))(hb:Bnd (d+1) lo hi x)(hu:usedC (cellsT (d+1) x)<=1012)(hfk:FilK (d+1) x)(hA:∀q∈nodT (d+1) x,A q.1=q.2)(hs:∀n∈numsT (d+1) x,n<pages)(hq:SeF w sb fr ed most back fv fs)(hf:fitM most fs)(hl:fs.length+(entT (d+1) x).length<=100000):Calls prog 92 #[(.pointer (some ⟨tb,0,none⟩)),(.pointer (some ⟨p,0,none⟩)),(.pointer (some ⟨sb,0,none⟩))] w (walkP w sb B D Gp V K pk m A fl pages fr ed most back fs (dirL back ((entT (d+1) x).filter λe=>inR fr ed e.1))):=by
 have hcx:(cellsT (d+1) x).length<=1000:=used_few hu;have e1:(cellsT (d+1) x).map keyB=x.kids.tail.map (·.1):=node_keys hb;have hsort:(x.kids.tail.map (·.1)).Pairwise λa b=>klt a b=true:=(keys_sort (d+1) hb).2.1
 have HW:=hide (cwithin2 hn (node_cells hb) hcx (by show((cellsT (d+1) x).map keyB).Pairwise _;rw[e1];exact hsort) rfl hq.se);have e2:(nvT (d+1) x lo hi tk).cells.map keyB=x.kids.tail.map (·.1):=e1;rw[e2] at HW;have hbs:BS (Bnd d) x.kids hi:=hb.2;have hkl:0<x.kids.length:=by
  obtain⟨⟨p0,r0,e0,-⟩,-⟩:=hb;rw[e0];simp
 have hcl:(cellsT (d+1) x).length+1=x.kids.length:=by
  show(x.kids.tail.map _).length+1=_;rw[List.length_map,List.length_tail];omega
 have htl:(x.kids.tail.map (·.1)).length+1=x.kids.length:=by rw[List.length_map,List.length_tail];omega
 have hent:dirL back ((entT (d+1) x).filter λe=>inR fr ed e.1)=(dirL back ((x.kids.take (endK (x.kids.tail.map (·.1)) ed+1)).drop (cntK (x.kids.tail.map (·.1)) fr))).flatMap λq=>dirL back ((entT d q.2).filter λe=>inR fr ed e.1):=by
  have e:entT (d+1) x=entS x.kids:=rfl;rw[e,kids_range hbs hsort];unfold entS;rw[List.filter_flatMap,dir_flat]
 have hfi:cntK (x.kids.tail.map (·.1)) fr<=x.kids.length:=by have:=cnt_len (x.kids.tail.map (·.1)) fr;omega
 have hen:endK (x.kids.tail.map (·.1)) ed+1<=x.kids.length:=by
  unfold endK;split
  ·omega
  ·have:=pos_len (x.kids.tail.map (·.1)) ed;omega
 generalize cntK (x.kids.tail.map (·.1)) fr=fi at *;generalize endK (x.kids.tail.map (·.1)) ed+1=en at *;obtain⟨seq,hseq⟩:∃seq,dirL back ((x.kids.take en).drop fi)=seq:=⟨_,rfl⟩;rw[hseq] at hent;obtain⟨G,hG⟩:∃G:ByteArray×T d->List Ent,(λq=>dirL back ((entT d q.2).filter λe=>inR fr ed e.1))=G:=⟨_,rfl⟩;have hG':∀q,G q=dirL back ((entT d q.2).filter λe=>inR fr ed e.1):=λq=>by rw[<-hG]
 rw[hG] at hent;rw[hent];have hsl:seq.length=en-fi:=by rw[<-hseq,dir_len,List.length_drop,List.length_take];omega
 have hGl:∀q,(G q).length<=(entT d q.2).length:=λq=>by rw[hG',dir_len];exact List.length_filter_le _ _
 have htot:(seq.flatMap λq=>entT d q.2).length<=(entT (d+1) x).length:=by
  rw[<-hseq,flat_dir];exact Nat.le_trans (flat_drop _ _ _) (flat_take _ _ _)
 have HE:=hide (show ∀j,fi+j<en->∃i k y,i=(if back=true then en-1-j else fi+j)∧i<x.kids.length∧seq[j]?=some (k,y)∧fs.length+((seq.take j).flatMap G).length+(entT d y).length<=100000∧(∀Z VZ,TS Z B D Gp VZ K pk m A fl pages->TB Z tb Gp root->NR Z p (nvT (d+1) x lo hi tk)->Calls prog 103 #[(.pointer (some ⟨tb,0,none⟩)),(.pointer (some ⟨p,0,none⟩)),.int .i64 (i:Int)] Z λe w'=>∃(V':PV) (q:Nat) (l h:ByteArray),e=.returned (.pointer (some ⟨q,0,none⟩))∧TS w' B D Gp V' K pk m A fl pages∧St2 Z w' B VZ V'∧NR w' q (nvT d y l h 0)∧Bnd d l h y)∧usedC (cellsT d y)<=1012∧FilK d y∧(∀q∈nodT d y,A q.1=q.2)∧(∀n∈numsT d y,n<pages) from λj hj=>by
  have hd:=dir_at back x.kids hj hen;rw[hseq] at hd;have hi':(if back=true then en-1-j else fi+j)<x.kids.length:=by split<;>omega
  obtain⟨i,hid⟩:∃i,(if back=true then en-1-j else fi+j)=i:=⟨_,rfl⟩;rw[hid] at hd hi';rw[List.getElem?_eq_getElem hi'] at hd;refine⟨i,x.kids[i].1,x.kids[i].2,hid.symm,hi',hd,?_⟩;have hjl:j<seq.length:=by omega
  have hsj:seq[j]=x.kids[i]:=by rw[List.getElem?_eq_getElem hjl] at hd;injection hd
  have hmem:x.kids[i]∈x.kids:=List.getElem_mem hi';have hfn:FilN d x.kids[i].2:=hfk _ hmem;have hnod:∀q∈nodT d x.kids[i].2,q∈nodT (d+1) x:=λq hq=>List.mem_cons_of_mem _ (List.mem_flatMap.2 ⟨_,hmem,hq⟩)
  have hfn':=(FilN_iff d _).1 hfn;have hsome:d=0∨¬cellsT d x.kids[i].2=[]:=.inr (λe=>by
   have:=hfn'.1.1;rw[e] at this;exact absurd this (by decide))
  have hnum:∀n∈numsT d x.kids[i].2,n<pages:=λn hn=>by
   obtain⟨z,hz,rfl⟩:=List.mem_map.1 hn;exact hs _ (List.mem_map.2 ⟨z,hnod z hz,rfl⟩)
  have hx:x=frm x.num (x.kids.take i) x.kids[i].1 x.kids[i].2 (x.kids.drop (i+1)):=by
   have e:x.kids.take i++(x.kids[i].1,x.kids[i].2)::x.kids.drop (i+1)=x.kids:=by
    have:=List.take_append_drop i x.kids;rw[List.drop_eq_getElem_cons hi'] at this;exact this
   show x=(⟨x.num,x.kids.take i++(x.kids[i].1,x.kids[i].2)::x.kids.drop (i+1)⟩:Inn (T d));rw[e]
  have hown:(numT d x.kids[i].2,pgT d x.kids[i].2)∈nodT d x.kids[i].2:=by rw[nodT_eq];exact List.mem_cons_self ..
  refine⟨?_,λZ VZ z1 z2 z3=>?_,hfn'.1.2,hfn'.2,λq hq=>hA q (hnod q hq),hnum⟩
  ·have a1:((seq.take j).flatMap G).length<=((seq.take j).flatMap λq=>entT d q.2).length:=flat_sub _ _ hGl _;have a2:((seq.take (j+1)).flatMap λq=>entT d q.2).length=((seq.take j).flatMap λq=>entT d q.2).length+(entT d x.kids[i].2).length:=by
    rw[take_snoc hjl,List.flatMap_append,List.length_append,hsj];simp
   have a3:=flat_take seq (λq=>entT d q.2) (j+1);omega
  ·have z3':NR Z p (nvT (d+1) (frm x.num (x.kids.take i) x.kids[i].1 x.kids[i].2 (x.kids.drop (i+1))) lo hi tk):=by rw[<-hx];exact z3
   have hc:=cchildN z1 hm z2 z3' (by rw[<-hx];exact hb) (by rw[<-hx];exact hcx) (hnum _ (List.mem_map.2 ⟨_,hown,rfl⟩)) (hA _ (hnod _ hown)) hsome;rw[List.length_take,Nat.min_eq_left (by omega)] at hc;refine hc.mono ?_;rintro e w'⟨V',q,rfl,q1,q2,q3,q4⟩;exact⟨V',q,_,_,rfl,q1,q2,q3.nr,BS_at x.kids hi hbs i hi'⟩)
 have hkb:x.kids.length<=1001:=by omega
 have HK:=hide (And.intro hn (And.intro ht hf));have H0:=hide (λ(Z:World) (hZ:Below w.heap.size w Z)=>(show WkS w Z sb B D Gp V V K pk m A fl pages fr ed most back fv fs from WkS.below ⟨h,hq,WF.refl _ _ _ _⟩ hZ));have HG:=hide hG';have HIH:=hide IH;clear h ht hn hb hu hA hs hq hf hcx hsort e1 e2 hent hseq hcl hbs hfk htot hGl hG hG' htl IH;go_enter func92,ntmps92;go_wp2_with fail
 refine HW.out.mono ?_;rintro e w1⟨rfl,hb1⟩;have HS1:=hide (H0.out w1 hb1);clear hb1 HW H0;go_wp2_with fail
 go_loopw [8] (λx8 Y=>∃(j:Nat) (Vi:PV) (fvi:Value),j<=en-fi∧x8=.int .i64 ((fi+j:Nat):Int)∧Hid (WkS w Y sb B D Gp V Vi K pk m A fl pages fr ed most back fvi (addM most fs ((seq.take j).flatMap G)))) (λx8 _=>en-(intOf x8).toNat)
 case atStart=>exact⟨0,V,fv,Nat.zero_le _,rfl,by rw[List.take_zero,List.flatMap_nil,addM_nil];exact HS1.out⟩
 case round =>
  clear HS1;obtain⟨j,Vi,fvi,hj,rfl,HI⟩:=hrel;obtain⟨fj,hfj⟩:∃fj,addM most fs ((seq.take j).flatMap G)=fj:=⟨_,rfl⟩;have hfit:fitM most fj:=by rw[<-hfj];exact addM_fit HK.out.2.2 _
  rw[hfj] at HI;obtain⟨a4,c4,rfl⟩:=own_formN HI.out.se.row;obtain⟨d0,d1,d2,d3,d4,d5,d6⟩:=HI.out.se.se.cells;have HD:=hide (HI.out.below (show Below wr.heap.size wr wr.drew from(Below.refl _ _).drew));obtain⟨kk,hkk0⟩:∃kk,fi+j=kk:=⟨_,rfl⟩;have HFJ:=hide (And.intro hfj (And.intro hkk0 hj));by_cases hjn:fi+j<en
  ·have hlt:(kk:Int)<(en:Int):=by omega
   by_cases hfull:(fj.length:Int)=most
   ·rw[hkk0];have HX:=hide (show addM most fs (seq.flatMap G)=fj from by
     have e:seq.flatMap G=(seq.take j).flatMap G++(seq.drop j).flatMap G:=by rw[<-List.flatMap_append,List.take_append_drop]
     rw[e,<-addM_app HK.out.2.2,hfj,addM_full hfull])
    clear hfj hkk0 hj hjn hfit
    go_upto_region 2 with fail
    go_cut [31] (λx31 wx=>x31=.bool false∧wx=wr.drew)
    case first =>
     refine wk2 sb kk en fj.length c4 a4 most true false (λ_=>d4) (λ_=>d2) (decide_eq_true hlt) (λ_=>by simpa using hfull) (by simp) rfl rfl rfl (by kernel_rfl) (by kernel_rfl) (by kernel_rfl) (by kernel_rfl) ?_;simp only[vs,Twk2,gd,Bool.true_and,List.map_cons,List.map_nil,sets,List.setIfInBounds_toArray,List.set_cons_zero,List.set_cons_succ];go_wp2_with fail
     go_meet
     case rel=>exact⟨rfl,rfl⟩
    obtain⟨rfl,rfl⟩:=hcut;go_wp2_with fail
    go_end0;exact⟨rfl,Vi,_,HD.out.ts,by rw[HX.out];exact HD.out.se,HD.out.wf⟩
   ·obtain⟨i,k,y,hi,hil,hsj,hbd,hch,y1,y2,y3,y4⟩:=HE.out j hjn;have hiB:i<=100000:=by omega
    have hbk:(back=true∧(i:Int)=(fi:Int)+(en:Int)-1-(kk:Int))∨(back=false∧i=kk):=by
     cases back with
     | true=>left;refine⟨rfl,?_⟩;rw[if_pos rfl] at hi;omega
     | false=>right;refine⟨rfl,?_⟩;rw[if_neg (by decide)] at hi;omega
    have HJ:=hide (show addM most fj (G (k,y))=addM most fs ((seq.take (j+1)).flatMap G)∧j+1<=en-fi from by
     have hjl:j<seq.length:=by omega
     have e:seq.take (j+1)=seq.take j++[(k,y)]:=by
      rw[List.getElem?_eq_getElem hjl] at hsj;injection hsj with hsj;rw[take_snoc hjl,hsj]
     refine⟨?_,by omega⟩;rw[e,List.flatMap_append,<-addM_app HK.out.2.2,hfj];simp)
    have HB:=hide (show fj.length+(entT d y).length<=100000 from by
     have:=addM_len (most:=most) (fs:=fs) ((seq.take j).flatMap G);rw[hfj] at this;omega)
    have HY:=hide (And.intro hch (And.intro y1 (And.intro y2 (And.intro y3 (And.intro y4 hfit)))));rw[hkk0];clear hfj hj hjn hi hch y1 y2 y3 y4 hbd hfit hsj
    go_upto_region 2 with fail
    go_cut [31] (λx31 wx=>x31=.bool true∧wx=wr.drew)
    case first =>
     refine wk2 sb kk en fj.length c4 a4 most true true (λ_=>d4) (λ_=>d2) (decide_eq_true hlt) (λ_=>by simpa using hfull) (by simp) rfl rfl rfl (by kernel_rfl) (by kernel_rfl) (by kernel_rfl) (by kernel_rfl) ?_;simp only[vs,Twk2,gd,Bool.true_and,List.map_cons,List.map_nil,sets,List.setIfInBounds_toArray,List.set_cons_zero,List.set_cons_succ];go_wp2_with fail
     go_meet
     case rel=>exact⟨rfl,rfl⟩
    obtain⟨rfl,rfl⟩:=hcut;obtain⟨f0,f1,f2,f3,f4,f5,f6⟩:=HD.out.se.se.cells;clear d0 d1 d2 d3 d4 d5 d6 f0 f1 f2 f4;have hnr1:=HD.out.wf.nr HK.out.1;have HCH:=hide (HY.out.1 wr.drew Vi HD.out.ts (HD.out.wf.tbk HK.out.2.1) hnr1);obtain⟨aa1,cc1,nb1,-⟩:=hnr1;have m0:wr.drew.cell? ⟨p,0,none⟩=some (.int .i64 2):=nb1.cells.1;clear nb1;rcases hbk with⟨hbt,hi⟩|⟨hbt,rfl⟩
    all_goals
     rw[hbt] at f3;clear hbt
    case' inl =>
     have vw1:IntKind.i64.wrap ((fi:Int)+(en:Int))=(fi:Int)+(en:Int):=by rw[IntKind.wrap_i64];omega
     have vw2:IntKind.i64.wrap ((fi:Int)+(en:Int)-1)=(fi:Int)+(en:Int)-1:=by rw[IntKind.wrap_i64];omega
     have vw3:IntKind.i64.wrap ((fi:Int)+(en:Int)-1-(kk:Int))=(i:Int):=by rw[IntKind.wrap_i64];omega
     clear hi
    all_goals
     go_wp2_with fail
     refine HCH.out.mono ?_;rintro e w2⟨V2,q,l,u,rfl,q1,q2,q3,q4⟩;have HD3:=hide (HD.out.stay q1 q2);have HRC:=hide (HIH.out w2 V2 _ fj y l u q 0 q1 (HD3.out.wf.tbk HK.out.2.1) q3 q4 HY.out.2.1 HY.out.2.2.1 HY.out.2.2.2.1 HY.out.2.2.2.2.1 HD3.out.se HY.out.2.2.2.2.2 HB.out);clear q1 q2 q3 q4;go_wp2_with fail
     refine HRC.out.mono ?_;intro e w3 hw3;obtain⟨rfl,V3,fv3,hw⟩:=walkP.wk HD3.out hw3;have HN8:=hide hw;clear hw3 hw;go_wp2_with fail
     go_roundw
     case rel=>exact⟨j+1,V3,fv3,HJ.out.2,by have:=HFJ.out.2.1;go_num,by rw[<-HJ.out.1,HG.out];exact HN8.out⟩
     case measure=>simp[intOf];have:=HFJ.out.2.1;omega
  ·have hlt:¬(kk:Int)<(en:Int):=by omega
   rw[hkk0];have HX:=hide (show addM most fs (seq.flatMap G)=fj from by
    have e:seq.take j=seq:=List.take_of_length_le (by omega);rw[e] at hfj;exact hfj)
   clear hfj hkk0 hj hjn hfit
   go_upto_region 2 with fail
   go_cut [31] (λx31 wx=>x31=.bool false∧wx=wr.drew)
   case first =>
    refine wk2 sb kk en 0 0 none 0 false false (λh=>by cases h) (λh=>by cases h) (decide_eq_false hlt) (λh=>by cases h) (by simp) rfl rfl rfl (by kernel_rfl) (by kernel_rfl) (by kernel_rfl) (by kernel_rfl) ?_;simp only[vs,Twk2,gd,Bool.false_and,List.map_cons,List.map_nil,sets,List.setIfInBounds_toArray,List.set_cons_zero,List.set_cons_succ];go_wp2_with fail
    go_meet
    case rel=>exact⟨rfl,rfl⟩
   obtain⟨rfl,rfl⟩:=hcut;go_wp2_with fail
   go_end0;exact⟨rfl,Vi,_,HD.out.ts,by rw[HX.out];exact HD.out.se,HD.out.wf⟩
theorem walk_ok (hm:m<=40000)(hB:B<=sb):∀d,WalkOk B D Gp K pk m A fl pages sb tb root fr ed most back d
 | 0=>λ_ _ _ _ x _ _ _ _ h ht hn hb hu _ hA hs hq hf hl=>cwalk0 h hm ht hn hb hu hA hs hq hf (by have e:(entT 0 x).length=x.its.length:=(by simp[entT]);omega) hB
 | d+1=>λ_ _ _ _ _ _ _ _ _ h ht hn hb hu hf hA hs hq hfm hl=>cwalk1 (walk_ok hm hB d) h hm ht hn hb hu hf hA hs hq hfm hl
theorem ownN_mono {base' k:Nat}(ho:W.ownsRow base e size v k xs)(h:base'<=base):W.ownsRow base' e size v k xs:=by
 refine⟨ho.1,?_⟩;rcases ho.2 with h1 | ⟨g,cap,cur,h1,h2,h3⟩
 ·exact .inl h1
 ·exact .inr ⟨g,cap,cur,h1,Nat.le_trans h h2,h3⟩
def scanE (most:Int)(back:Bool)(fr ed:ByteArray)(es:List Ent):List Ent:=addM most [] (dirL back (es.filter λe=>inR fr ed e.1))
structure TrG (A:Nat->PgV) (pages d:Nat) (t:T d) (es:List Ent):Prop where
 ent:entT d t=es
 bnd:Bnd d ⟨#[]⟩ ⟨#[]⟩ t
 all:∀q∈nodT d t,A q.1=q.2
 num:∀n∈numsT d t,n<pages
theorem Tr.gist [Oth]{t:T d}(h:Tr A fl pages os t es):TrG A pages d t es:=by
 have hA:∀q∈nodT d t,A q.1=q.2:=λq hq=>by
  rw[nodT_eq,List.mem_cons] at hq;rcases hq with rfl | hq
  ·exact h.own
  ·exact h.sx.rep q (by unfold restN;exact List.mem_append_left _ hq)
 refine⟨?_,h.sx.wf.at,hA,λn hn=>?_⟩
 ·have:=h.sx.wf.ent;simpa[pre1,suf1] using this
 ·unfold numsT at hn;rw[nodT_eq,List.map_cons,List.mem_cons] at hn;rcases hn with rfl | hn
  ·exact h.sx.own.1
  ·refine h.sx.lt ?_;have:n∈(restN (.top d) t).map (·.1):=by unfold restN;rw[List.map_append];exact List.mem_append_left _ hn
   simp[this]
section
variable {w w' X Y:World}{B D Gp:Nat}{V V':PV}{K:Pgs}{pk m:Nat}{A:Nat->PgV}{fl os:List Nat}{pages tb root sb:Nat}{es fs:List Ent}{fr ed:ByteArray}{most:Int}{back:Bool}{fv:Value}
theorem SeF.other {c:Nat}(hp:SeF w sb fr ed most back fv fs)(hg:w.grownBy w' (some c))(hc:isC w c t)(h1:¬t=114)(h2:¬t=116):SeF w' sb fr ed most back fv fs:=by
 obtain⟨cs,hcs⟩:=hc;refine⟨⟨(hg.block sb hp.se.cells.2.2.2.2.2.2 (λe=>?_)).trans hp.se.blk⟩,row_keep hp.row λg hgg=>hg.block g (World.ownsRow.lt hp.row g hgg).2 (λe=>?_)⟩
 ·injection e with e;rw[<-e,hp.se.blk] at hcs;injection hcs with hcs;injection hcs with _ hcs _;exact h1 hcs.symm
 ·injection e with e;obtain⟨cs',hcs'⟩:=row_isN hp.row hgg;rw[e,hcs] at hcs';injection hcs' with hcs';injection hcs' with _ hcs' _;exact h2 hcs'
theorem centr1 [Oth]{b0:Nat}{t:T d}(h:TS X B D Gp V K pk m A fl pages)(hm:m<=40000)(hT:Tr A fl pages os t es)(ht:TB X tb Gp (numT d t))(hb0:X.heap[b0]?=some (.cells #[(.pointer (some ⟨tb,0,none⟩))] 38 (0,0)))(hq:SeF X sb fr ed most back fv [])(hB:B<=sb)(hes:es.length<=100000):Calls prog 91 #[(.pointer (some ⟨b0,0,none⟩)),(.pointer (some ⟨sb,0,none⟩))] X λe w'=>e=.returned (.tuple #[])∧∃V' fv',TS w' B D Gp V' K pk m A fl pages∧SeF w' sb fr ed most back fv' (scanE most back fr ed es)∧WF sb B X w' V V':=by
 have F:=hT.gist;have hfit:fitM most []:=by unfold fitM;simp;omega
 have HT:=hide (λ(Y:World) (hY:Below X.heap.size X Y)=>ctop (h.below hY).1 (by omega) (h.stayTB (h.below hY).2 ht) hT.sx.own.1 hT.own F.bnd hT.ok.some);have HD:=hide (λ(Y:World) (hY:Below X.heap.size X Y) (Z:World) (VZ:PV) (p:Nat) (y1:TS Z B D Gp VZ K pk m A fl pages) (y2:St2 Y Z B V VZ) (y3:ND Z Y.heap.size p (nvT d t ⟨#[]⟩ ⟨#[]⟩ 0))=>(show Calls prog 92 #[(.pointer (some ⟨tb,0,none⟩)),(.pointer (some ⟨p,0,none⟩)),(.pointer (some ⟨sb,0,none⟩))] Z λe w'=>e=.returned (.tuple #[])∧∃V' fv',TS w' B D Gp V' K pk m A fl pages∧SeF w' sb fr ed most back fv' (scanE most back fr ed es)∧WF sb B X w' V V' from by
  have hS:WkS X Y sb B D Gp V V K pk m A fl pages fr ed most back fv []:=WkS.below ⟨h,hq,WF.refl _ _ _ _⟩ hY;have hZ:=hS.stay y1 y2;refine(walk_ok hm hB d Z VZ fv [] t _ _ p 0 y1 (hZ.wf.tbk ht) y3.nr F.bnd hT.ok.high hT.ok.kids F.all F.num hZ.se hfit (by rw[F.ent];simpa using hes)).mono ?_;intro e w' hw;obtain⟨h1,V',fv',hw⟩:=walkP.wk hZ hw;rw[F.ent] at hw;exact⟨h1,V',fv',hw.ts,hw.se,hw.wf⟩))
 have HB:=hide (λ(Y:World) (hY:Below X.heap.size X Y) (Z:World) (VZ:PV) (y2:St2 Y Z B V VZ)=>(show Z.cell? ⟨b0,0,none⟩=some (.pointer (some ⟨tb,0,none⟩)) from by
  have:=(h.below hY).1.stay y2 (h.stay (h.below hY).2 hb0 (by decide)) (by decide);simp[World.cell?,this]))
 have c0:X.cell? ⟨b0,0,none⟩=some (.pointer (some ⟨tb,0,none⟩)):=by simp[World.cell?,hb0]
 have hblt:b0<X.heap.size:=(gl hb0);clear h hT ht hb0 F hq;go_enter func91,ntmps91;go_wp2_with fail
 go_region_with (first | (go_at_call 60;refine(HT.out _ (drawnB X 1)).mono ?_;rintro e w1⟨V1,p,rfl,k1,k2,k3,k4⟩;have HK:=hide (HD.out _ (drawnB X 1) _ _ _ k1 k2 k3);have d0:=HB.out _ (drawnB X 1) _ _ k2;clear k1 k2 k3 k4) | (go_at_call 92;refine HK.out.mono ?_;rintro e w2⟨rfl,V2,fv2,q1,q2,q3⟩))
 all_goals
  go_wp2;go_end0;exact⟨rfl,V2,fv2,q1,q2,q3⟩
theorem centries [Oth]{t:T d}(h:TS w B D Gp V K pk m A fl pages)(hm:m<=40000)(hT:Tr A fl pages os t es)(ht:TB w tb Gp (numT d t))(fr ed:ByteArray)(most:Int)(back:Bool)(hes:es.length<=100000):Calls prog 49 #[(.pointer (some ⟨tb,0,none⟩)),.agg #[.string fr,.string ed,.int .i64 most,.bool back,.slice none 0 0]] w λe w'=>∃fv' V',e=.returned (.tuple #[fv',.int .i64 0])∧TS w' B D Gp V' K pk m A fl pages∧St2 w w' B V V'∧w'.ownsRow w.heap.size 116 2 fv' (scanE most back fr ed es).length (entV (scanE most back fr ed es)):=by
 have hmf:∀(fn:Fn) (first cap:Array Value) (w:World),(Instr.makeFunc fn first cap).run prog w=.ok (.func fn first cap) w:=λ_ _ _ _=>rfl
 have hen:∀args w,(callFunc 91 args).run prog w=.ok (.enter 91 args) w:=enters_of func91 (by kernel_rfl) rfl;obtain⟨W2,hW2⟩:∃W2,(w.alloc (.cells #[(.pointer (some ⟨tb,0,none⟩))] 38)).alloc (.cells #[.string fr,.string ed,.int .i64 most,.bool back,.slice none 0 0] 114)=W2:=⟨_,rfl⟩;have hb2:Below w.heap.size w W2:=by rw[<-hW2];exact((Below.refl _ _).alloc (Nat.le_refl _) _).alloc (by simp) _
 have hs2:W2.heap.size=w.heap.size+2:=by rw[<-hW2];simp
 have hb3:Below w.heap.size w (W2.alloc (.cells #[.int .i64 0] 26)):=hb2.alloc (by omega) _;have q0:W2.heap[w.heap.size]?=some (.cells #[(.pointer (some ⟨tb,0,none⟩))] 38 (0,0)):=by
  rw[<-hW2,heap_alloc_old _ _ (by simp)];exact heap_alloc_new w _
 have q1:W2.heap[w.heap.size+1]?=some (.cells #[.string fr,.string ed,.int .i64 most,.bool back,.slice none 0 0] 114 (0,0)):=by
  rw[<-hW2];have:=heap_alloc_new (w.alloc (.cells #[(.pointer (some ⟨tb,0,none⟩))] 38)) (.cells #[.string fr,.string ed,.int .i64 most,.bool back,.slice none 0 0] 114);simpa using this
 have old:∀j,j<W2.heap.size->(W2.alloc (.cells #[.int .i64 0] 26)).heap[j]?=W2.heap[j]?:=λj hj=>heap_alloc_old _ _ hj
 obtain⟨h3,s3⟩:=h.below hb3;have hq3:SeF (W2.alloc (.cells #[.int .i64 0] 26)) (w.heap.size+1) fr ed most back (.slice none 0 0) []:=⟨⟨by rw[old _ (by omega)];exact q1⟩,World.ownsRow_nil _ _ _ _⟩;have hB:=h.lo;have HC:=hide (ccaught 91 hen #[(.pointer (some ⟨w.heap.size,0,none⟩)),(.pointer (some ⟨w.heap.size+1,0,none⟩))] W2 tb Gp (numT d t) (h.stayTB (h.below hb2).2 ht) (λw'=>∃V' fv',TS w' B D Gp V' K pk m A fl pages∧SeF w' (w.heap.size+1) fr ed most back fv' (scanE most back fr ed es)∧WF (w.heap.size+1) B (W2.alloc (.cells #[.int .i64 0] 26)) w' V V') (centr1 h3 hm hT (h.stayTB s3 ht) (by rw[old _ (by omega)];exact q0) hq3 (by omega) hes) (λw' hp=>by
  obtain⟨V',fv',p1,p2,p3⟩:=hp;exact p3.blk _ _ _ (heap_alloc_new W2 _) (by decide) (by decide) (by decide)))
 have HL:=hide (λ(w1:World) (V':PV) (fv':Value) (p1:TS w1 B D Gp V' K pk m A fl pages) (p2:SeF w1 (w.heap.size+1) fr ed most back fv' (scanE most back fr ed es)) (p3:WF (w.heap.size+1) B (W2.alloc (.cells #[.int .i64 0] 26)) w1 V V')=>(show ∀Y,Y=w1.setCell ⟨W2.heap.size,0,none⟩ (.int .i64 0)->TS Y B D Gp V' K pk m A fl pages∧St2 w Y B V V'∧SeF Y (w.heap.size+1) fr ed most back fv' (scanE most back fr ed es) from by
  rintro Y rfl;have hbx:=p3.blk _ _ _ (heap_alloc_new W2 _) (by decide) (by decide) (by decide);have hg:=set_grown w1 W2.heap.size 0 (.int .i64 0);exact⟨p1.other hg ⟨_,hbx⟩ (by decide),(p3.st w V s3 (by omega) hB).other hg (by omega) hB,p2.other hg ⟨_,hbx⟩ (by decide) (by decide)⟩))
 rw[<-hW2] at HC HL;subst hW2;clear h hT ht hb2 hs2 hb3 q0 q1 old h3 s3 hen hq3;go_enter func49,ntmps49;go_wp2_with fail
 refine HC.out.mono ?_;rintro e w5⟨rfl,w4,⟨V4,fv4,p1,p2,p3⟩,hw5⟩;obtain⟨r1,r2,r3⟩:=HL.out w4 V4 fv4 p1 p2 p3 w5 hw5;obtain⟨a4,c4,rfl⟩:=own_formN r3.row;have s4:=r3.se.cells.2.2.2.2.1;have HE:=hide (And.intro r1 (And.intro r2 r3.row));clear p1 p2 p3 hw5 HC HL r1 r2 r3;go_wp2_with fail
 refine bodyPost_ret (v:=.tuple #[.slice a4 (scanE most back fr ed es).length c4,.int .i64 0]) (by simp[results,results49,go_sem, *]) rfl ?_;exact⟨_,V4,rfl,HE.out.1,HE.out.2.1,ownN_mono HE.out.2.2 (by omega)⟩
theorem cScan [Oth]{d:Nat}{t:T d}(h:TS w B D Gp V K pk m A fl pages)(hm:m<=40000)(hT:Tr A fl pages os t es)(ht:TB w tb Gp (numT d t))(fr ed:ByteArray)(most:Int)(hes:es.length<=100000):Calls prog 15 #[(.pointer (some ⟨tb,0,none⟩)),.string fr,.string ed,.int .i64 most] w λe w'=>∃fv' V',e=.returned (.tuple #[fv',.int .i64 0])∧TS w' B D Gp V' K pk m A fl pages∧St2 w w' B V V'∧w'.ownsRow w.heap.size 116 2 fv' (scanE most false fr ed es).length (entV (scanE most false fr ed es)):=by
 have HE:=hide (centries h hm hT ht fr ed most false hes);clear h hT ht;go_enter func15,ntmps15;go_wp2_with fail
 refine HE.out.mono ?_;rintro e w1⟨fv',V',rfl,q1,q2,q3⟩;obtain⟨a4,c4,rfl⟩:=own_formN q3;have HQ:=hide (And.intro q1 (And.intro q2 q3));clear q1 q2 q3 HE;go_wp2_with fail
 refine bodyPost_ret (v:=.tuple #[.slice a4 (scanE most false fr ed es).length c4,.int .i64 0]) (by simp[results,results15,go_sem, *]) rfl ?_;exact⟨_,V',rfl,HQ.out⟩
theorem cBack [Oth]{t:T d}(h:TS w B D Gp V K pk m A fl pages)(hm:m<=40000)(hT:Tr A fl pages os t es)(ht:TB w tb Gp (numT d t))(fr ed:ByteArray)(most:Int)(hes:es.length<=100000):Calls prog 46 #[(.pointer (some ⟨tb,0,none⟩)),.string fr,.string ed,.int .i64 most] w λe w'=>∃fv' V',e=.returned (.tuple #[fv',.int .i64 0])∧TS w' B D Gp V' K pk m A fl pages∧St2 w w' B V V'∧w'.ownsRow w.heap.size 116 2 fv' (scanE most true fr ed es).length (entV (scanE most true fr ed es)):=by
 have HE:=hide (centries h hm hT ht fr ed most true hes);clear h hT ht;go_enter func46,ntmps46;go_wp2_with fail
 refine HE.out.mono ?_;rintro e w1⟨fv',V',rfl,q1,q2,q3⟩;obtain⟨a4,c4,rfl⟩:=own_formN q3;have HQ:=hide (And.intro q1 (And.intro q2 q3));clear q1 q2 q3 HE;go_wp2_with fail
 refine bodyPost_ret (v:=.tuple #[.slice a4 (scanE most true fr ed es).length c4,.int .i64 0]) (by simp[results,results46,go_sem, *]) rfl ?_;exact⟨_,V',rfl,HQ.out⟩
end
theorem cmayBeN (k:ByteArray)(w:World)(hs:k.size<=9223372036854775807):Calls prog 50 #[.string k] w λe w'=>e=.returned (.bool (decide (0<k.size∧k.size<=200)))∧w'=w:=by
 by_cases h1:0<k.size
 ·have k1:(0:Int)<(k.size:Int):=by omega
  by_cases h2:k.size<=200
  ·have k2:(k.size:Int)<=200:=by omega
   rw[decide_eq_true ⟨h1,h2⟩];go_enter func50,ntmps50;go_wp2;go_ret;exact⟨rfl,rfl⟩
  ·have k2:¬(k.size:Int)<=200:=by omega
   rw[decide_eq_false (λh=>h2 h.2)];go_enter func50,ntmps50;go_wp2;go_ret;exact⟨rfl,rfl⟩
 ·have k1:¬(0:Int)<(k.size:Int):=by omega
  rw[decide_eq_false (λh=>h1 h.1)];go_enter func50,ntmps50;go_wp2;go_ret;exact⟨rfl,rfl⟩
theorem cGetN (k:ByteArray)(hk:¬okK k)(hs:k.size<=9223372036854775807):Calls prog 39 #[(.pointer (some ⟨tb,0,none⟩)),.string k] w λe w'=>e=.returned (.tuple #[.string ⟨#[]⟩,.bool false,.int .i64 1])∧Below w.heap.size w w':=by
 have HM:=hide (λ(Y:World)=>cmayBeN k Y hs);have hkd:decide (0<k.size∧k.size<=200)=false:=decide_eq_false hk;rw[hkd] at HM;have hb:Below w.heap.size w (((w.alloc (.cells #[(.pointer (some ⟨tb,0,none⟩))] 38)).alloc (.cells #[.string k] 9))):=((Below.refl _ _).alloc (Nat.le_refl _) _).alloc (by simp) _;have HB:=hide hb;clear hkd hk hb;go_enter func39,ntmps39;go_wp2_with fail
 refine(HM.out _).mono ?_;rintro e w1⟨rfl,hw⟩;rw[hw];clear hw;go_wp2_with fail
 refine bodyPost_ret (v:=.tuple #[.string ⟨#[]⟩,.bool false,.int .i64 1]) (by simp[results,results39,go_sem, *]) rfl ?_;exact⟨rfl,HB.out⟩
theorem cPutN (k v:ByteArray)(hk:¬okK k)(hs:k.size<=9223372036854775807):Calls prog 19 #[(.pointer (some ⟨tb,0,none⟩)),.string k,.string v] w λe w'=>e=.returned (.int .i64 1)∧Below w.heap.size w w':=by
 have HM:=hide (λ(Y:World)=>cmayBeN k Y hs);have hkd:decide (0<k.size∧k.size<=200)=false:=decide_eq_false hk;rw[hkd] at HM;have hb:Below w.heap.size w (((w.alloc (.cells #[(.pointer (some ⟨tb,0,none⟩))] 38)).alloc (.cells #[.string k] 9)).alloc (.cells #[.string v] 9)):=(((Below.refl _ _).alloc (Nat.le_refl _) _).alloc (by simp) _).alloc (by simp;omega) _;have HB:=hide hb;clear hkd hk hb;go_enter func19,ntmps19;go_wp2_with fail
 refine(HM.out _).mono ?_;rintro e w1⟨rfl,hw⟩;rw[hw];clear hw;go_wp2_with fail
 go_ret;exact⟨rfl,HB.out⟩
theorem cDelN (k:ByteArray)(hk:¬okK k)(hs:k.size<=9223372036854775807):Calls prog 20 #[(.pointer (some ⟨tb,0,none⟩)),.string k] w λe w'=>e=.returned (.tuple #[.bool false,.int .i64 1])∧Below w.heap.size w w':=by
 have HM:=hide (λ(Y:World)=>cmayBeN k Y hs);have hkd:decide (0<k.size∧k.size<=200)=false:=decide_eq_false hk;rw[hkd] at HM;have hb:Below w.heap.size w ((w.alloc (.cells #[(.pointer (some ⟨tb,0,none⟩))] 38)).alloc (.cells #[.string k] 9)):=((Below.refl _ _).alloc (Nat.le_refl _) _).alloc (by simp) _;have HB:=hide hb;clear hkd hk hb;go_enter func20,ntmps20;go_wp2_with fail
 refine(HM.out _).mono ?_;rintro e w1⟨rfl,hw⟩;rw[hw];clear hw;go_wp2_with fail
 refine bodyPost_ret (v:=.tuple #[.bool false,.int .i64 1]) (by simp[results,results20,go_sem, *]) rfl ?_;exact⟨rfl,HB.out⟩
def ElA (w:World)(g off:Nat)(es:List Ent):Prop:=∃cur,w.heap[g]?=some (.cells cur 116 (0,0))∧∀i (h:i<es.length),cur[off+i*2]?=some (.string es[i].1)∧cur[off+i*2+1]?=some (.string es[i].2)
def EL (w:World)(v:Value)(es:List Ent):Prop:=∃a cap,v=.slice a es.length cap∧es.length<=cap∧cap<=maxLen∧(es=[]∨∃g off,a=some ⟨g,off,none⟩∧ElA w g off es)
theorem ElA.cell (h:ElA w g off es)(i:Nat)(hi:i<es.length):w.cell? ⟨g,off+i*2,none⟩=some (.string es[i].1)∧w.cell? ⟨g,off+i*2+1,none⟩=some (.string es[i].2):=by
 obtain⟨cur,h1,h2⟩:=h;obtain⟨a,b⟩:=h2 i hi;exact⟨by simp[World.cell?,h1,a],by simp[World.cell?,h1,b]⟩
theorem ElA.keep (h:ElA w g off es)(hk:∀cs,w.heap[g]?=some (.cells cs 116 (0,0))->w'.heap[g]?=some (.cells cs 116 (0,0))):ElA w' g off es:=by
 obtain⟨cur,h1,h2⟩:=h;exact⟨cur,hk cur h1,h2⟩
structure MpV (w:World) (mb:Nat) (v:Value) (es:List Ent):Prop where
 blk:w.heap[mb]?=some (.cells #[v] 34 (0,0))
 row:w.ownsRow 0 116 2 v es.length (entV es)
theorem row_el {lo:Nat}(h:w.ownsRow lo 116 2 v es.length (entV es)):EL w v es:=by
 rcases h.2 with⟨e,h0⟩|⟨g,cap,cur,e,-,hg,hc,hm,hs,ht⟩
 ·exact⟨none,0,by rw[e,h0],by omega,Nat.zero_le _,.inl (List.length_eq_zero_iff.1 h0)⟩
 ·refine⟨_,cap,e,hc,hm,.inr ⟨g,0,rfl,cur,hg,λi hi=>?_⟩⟩;obtain⟨a,b⟩:=entV_at hi;have hget:∀j,j<es.length*2->cur[j]?=(entV es)[j]?:=λj hj=>by
   rw[<-ht,List.getElem?_take_of_lt hj,Array.getElem?_toList]
  rw[Nat.zero_add,hget _ (by omega),hget _ (by omega),Nat.mul_comm i 2];exact⟨a,b⟩
theorem MpV.below (h:MpV w mb v es)(hb:Below w.heap.size w w'):MpV w' mb v es:=⟨(hb.block mb (gl h.blk)).trans h.blk,row_keep h.row λg hg=>hb.block g (World.ownsRow.lt h.row g hg).2⟩
theorem MpV.cells (h:MpV w mb v es):w.cell? ⟨mb,0,none⟩=some v∧w.frozen? ⟨mb,0,none⟩=false∧mb<w.heap.size:=⟨by simp[World.cell?,h.blk],by simp[World.frozen?,h.blk],(gl h.blk)⟩
theorem cplace {p r:List Ent}(h:MpV w mb v (p++r))(k:ByteArray)(hp:∀e∈p,klt e.1 k=true)(hr:∀e∈r.head?,klt e.1 k=false)(hl:(p++r).length<=1000000)(bb:Bool)(hbb:bb=match r.head? with | some e=>(e.1.toList == k.toList) | none=>false):Calls prog 85 #[(.pointer (some ⟨mb,0,none⟩)),.string k] w λe w'=>e=.returned (.tuple #[.int .i64 (p.length:Int),.bool bb])∧Below w.heap.size w w':=by
 obtain⟨c0,c1,c2⟩:=h.cells;obtain⟨a,cap,rfl,-,-,hel⟩:=row_el h.row;obtain⟨ln,hln⟩:∃ln,(p++r).length=ln:=⟨_,rfl⟩;rw[hln] at c0;have hll:ln=p.length+r.length:=by rw[<-hln,List.length_append]
 clear h;go_enter func85,ntmps85;go_wp2_with fail
 go_loopw [6] (λx6 Y=>Y=w∧∃j:Nat,j<=p.length∧x6=.int .i64 (j:Int)) (λx6 _=>p.length-(intOf x6).toNat)
 case atStart=>exact⟨rfl,0,Nat.zero_le _,rfl⟩
 case round =>
  obtain⟨rfl,j,hj,rfl⟩:=hrel;by_cases hjp:j<p.length
  ·have hne:¬p++r=[]:=λe=>by
    have:=congrArg List.length e;rw[List.length_append] at this;simp at this;rw[this.1] at hjp;simp at hjp
   obtain⟨g,off,rfl,hA⟩:=hel.resolve_left hne;have hji:j<(p++r).length:=by omega
   have hc:=(hA.cell j hji).1;have e1:(p++r)[j]=p[j]:=List.getElem_append_left hjp;have hlt:=hp p[j] (List.getElem_mem hjp);rw[e1] at hc;have hlt:Op.bytesLess p[j].1.toList k.toList=true:=hlt;obtain⟨kj,hkj⟩:∃kj,p[j].1=kj:=⟨_,rfl⟩;rw[hkj] at hc hlt;have q1:(j:Int)<(ln:Int):=by omega
   have q2:(0:Int)<=(j:Int):=by omega
   have q3:j<=1000000:=by omega
   clear hA hel hne hbb hp hr hj hll hln hkj e1;go_wp2_with fail
   go_roundw
   case rel=>exact⟨trivial,j+1,hjp,by go_num⟩
   case measure=>simp[intOf];omega
  ·have hje:j=p.length:=by omega
   subst hje;cases hrr:r with
   | nil =>
    rw[hrr] at hbb hll
    replace hbb:bb=false:=hbb
    subst hbb;obtain⟨n,hn⟩:∃n,p.length=n:=⟨_,rfl⟩;rw[hn];have q1:¬(n:Int)<(ln:Int):=by simp at hll;omega
    have HN:=hide hn;clear hel hp hr hj hjp hll hln hrr hl hn
    go_upto_region 4 with fail
    go_cut [4,5] (λx4 x5 wx=>x4=.int .i64 (n:Int)∧x5=.bool false∧wx=wr.drew)
    case first =>
     refine pl4 mb n ln cap 0 0 a k k false false c0 (λh=>by cases h) (λh=>by cases h) (decide_eq_false q1) (by omega) (λh=>by cases h) (by simp) rfl rfl rfl (by kernel_rfl) (by kernel_rfl) (by kernel_rfl) (by kernel_rfl) ?_;simp only[vs,Tpl4,gd,Bool.false_and,List.map_cons,List.map_nil,sets,List.setIfInBounds_toArray,List.set_cons_zero,List.set_cons_succ];go_wp2_with fail
     go_meet
     case rel=>exact⟨rfl,rfl,rfl⟩
    obtain⟨rfl,rfl,rfl⟩:=hcut;go_wp2_with fail
    refine bodyPost_ret (v:=.tuple #[.int .i64 (n:Int),.bool false]) (by simp[results,results85,go_sem, *]) rfl ?_;exact⟨by rw[HN.out],(Below.refl _ _).drew⟩
   | cons e0 r0 =>
    rw[hrr] at hbb hll hel hr
    replace hbb:bb=(e0.1.toList == k.toList):=hbb
    have hlt:Op.bytesLess e0.1.toList k.toList=false:=hr e0 rfl;obtain⟨g,off,rfl,hA⟩:=hel.resolve_left (by simp);have hji:p.length<(p++e0::r0).length:=by simp
    have hc:=(hA.cell p.length hji).1;have e1:(p++e0::r0)[p.length]=e0:=by simp
    rw[e1] at hc;obtain⟨kj,hkj⟩:∃kj,e0.1=kj:=⟨_,rfl⟩;rw[hkj] at hc hlt hbb;obtain⟨n,hn⟩:∃n,p.length=n:=⟨_,rfl⟩;rw[hn] at hc ⊢;have q1:(n:Int)<(ln:Int):=by simp at hll;omega
    have q2:(0:Int)<=(n:Int):=by omega
    have HN:=hide hn;clear hA hel hp hr hj hjp hll hln hrr hkj e1 hji hn hl
    go_upto_region 4 with fail
    go_cut [4,5] (λx4 x5 wx=>x4=.int .i64 (n:Int)∧x5=.bool bb∧wx=wr.drew)
    case first =>
     refine pl4 mb n ln cap g off _ k kj true bb c0 (λ_=>rfl) (λ_=>hc) (decide_eq_true q1) q2 (λ_=>hbb.symm) (by simp) rfl rfl rfl (by kernel_rfl) (by kernel_rfl) (by kernel_rfl) (by kernel_rfl) ?_;simp only[vs,Tpl4,gd,Bool.true_and,List.map_cons,List.map_nil,sets,List.setIfInBounds_toArray,List.set_cons_zero,List.set_cons_succ];go_wp2_with fail
     go_meet
     case rel=>exact⟨rfl,rfl,rfl⟩
    obtain⟨rfl,rfl,rfl⟩:=hcut;go_wp2_with fail
    refine bodyPost_ret (v:=.tuple #[.int .i64 (n:Int),.bool bb]) (by simp[results,results85,go_sem, *]) rfl ?_;exact⟨by rw[HN.out],(Below.refl _ _).drew⟩
theorem klt_neq {a b:ByteArray}(h:klt a b=true):(b.toList == a.toList)=false:=by
 cases e:b.toList == a.toList with
 | false=>rfl
 | true =>
  have e:=eq_of_beq e;have:=toList_inj e;rw[this,klt_irr] at h;cases h
theorem head_not {s:List Ent}(h:∀e∈s,klt k e.1=true):(∀e∈s.head?,klt e.1 k=false)∧(match s.head? with | some e=>(e.1.toList == k.toList) | none=>false)=false:=by
 cases s with
 | nil=>exact⟨(λe he=>by cases he),rfl⟩
 | cons e r =>
  have:=h e (List.mem_cons_self ..);exact⟨λe' he=>by injection he with he;rw[<-he];exact klt_asy this,klt_neq this⟩
theorem cMapGet (h:MpV w mb v es)(k val:ByteArray)(is:Bool)(hR:GetR es k val is)(hl:es.length<=1000000):Calls prog 40 #[(.pointer (some ⟨mb,0,none⟩)),.string k] w λe w'=>e=.returned (.tuple #[.string val,.bool is])∧Below w.heap.size w w':=by
 obtain⟨p,s,(⟨rfl,rfl,rfl⟩|⟨rfl,rfl⟩),hp,hs⟩:=hR
 ·obtain⟨g1,g2⟩:=head_not hs;have HP:=hide (cplace h k hp g1 hl false g2.symm);clear h hp hs g1 g2;go_enter func40,ntmps40;go_wp2_with fail
  refine HP.out.mono ?_;rintro e w1⟨rfl,hb⟩;have HB:=hide hb;clear hb HP;go_wp2_with fail
  refine bodyPost_ret (v:=.tuple #[.string ⟨#[]⟩,.bool false]) (by simp[results,results40,go_sem, *]) rfl ?_;exact⟨rfl,HB.out⟩
 ·have HP:=hide (cplace (p:=p) (r:=(k,val)::s) h k hp (λe he=>by injection he with he;rw[<-he];exact klt_irr k) hl true (by simp));have HM:=hide (λ(Y:World) (hY:Below w.heap.size w Y)=>h.below hY);obtain⟨n,hn⟩:∃n,p.length=n:=⟨_,rfl⟩;obtain⟨ln,hln⟩:∃ln,(p++(k,val)::s).length=ln:=⟨_,rfl⟩;have hll:n<ln:=by rw[<-hln,<-hn];simp
  rw[hn] at HP;have HN:=hide (And.intro hn hln);have i0:(0:Int)<=(n:Int):=by omega
  have i2:(n:Int)<(ln:Int):=by omega
  clear h hp hs hl hn hln;go_enter func40,ntmps40;go_wp2_with fail
  refine HP.out.mono ?_;rintro e w1⟨rfl,hb⟩;have hM:=HM.out w1 hb;obtain⟨c0,c1,c2⟩:=hM.cells;obtain⟨a,cap,rfl,-,-,hel⟩:=row_el hM.row;obtain⟨g,off,rfl,hA⟩:=hel.resolve_left (by simp);have hc:=(hA.cell n (by rw[HN.out.2];exact hll)).2;have e1:(p++(k,val)::s)[n]'(by rw[HN.out.2];exact hll)=(k,val):=by
   have:=HN.out.1;subst this;simp
  rw[e1] at hc;rw[HN.out.2] at c0;have HB:=hide hb;clear hb HP HM hM hel hA e1 c1;go_wp2_with fail
  refine bodyPost_ret (v:=.tuple #[.string val,.bool true]) (by simp[results,results40,go_sem, *]) rfl ?_;exact⟨rfl,HB.out⟩
theorem below_grown {w2 w3:World}{o:Option Nat}(h:Below B w w2)(hg:w2.grownBy w3 o)(ho:∀g,o=some g->B<=g)(hB:B<=w2.heap.size):Below B w w3:=
 ⟨hg.os.trans h.os,hg.tape.trans h.tape,hg.output.trans h.output,Nat.le_trans h.size hg.size,λc hc=>(hg.block c (Nat.lt_of_lt_of_le hc hB) (λe=>by have:=ho c e.symm;omega)).trans (h.block c hc)⟩
theorem row_news {lo cap:Nat}(h:w.ownsRow lo 116 2 (.slice (some ⟨g,0,none⟩) n cap) n (entV es))(k m:Nat)(he:n=es.length):∀j u,(entV ((es.drop k).take m))[j]?=some u->w.cell? ((⟨g,k*2,none⟩:Addr).add j)=some u:=by
 intro j u hj;rcases h.2 with⟨e,_⟩ | ⟨g',cap',cur,e,-,hg,hc,hm,hs,ht⟩
 ·cases e
 ·injection e with e1 e2 e3;injection e1 with e1;injection e1 with e1 _ _;subst e1;have hjl:j<((es.drop k).take m).length*2:=by
   have:=(List.getElem?_eq_some_iff.1 hj).1
   rwa [entV_len] at this
  rw[List.length_take,List.length_drop] at hjl;have hadd:(⟨g,k*2,none⟩:Addr).add j=⟨g,k*2+j,none⟩:=by
   unfold Addr.add;by_cases q:j=0<;>simp[q]
  have hcell:cur[k*2+j]?=(entV es)[k*2+j]?:=by rw[<-ht,List.getElem?_take_of_lt (by omega),Array.getElem?_toList]
  have hmap:(entV es)[k*2+j]?=(entV ((es.drop k).take m))[j]?:=by
   have e1:es=es.take k++((es.drop k).take m++(es.drop k).drop m):=by rw[List.take_append_drop,List.take_append_drop]
   conv=>lhs;rw[e1]
   rw[entV_app,entV_app,List.getElem?_append_right (by rw[entV_len,List.length_take];omega),List.getElem?_append_left (by rw[entV_len,entV_len,List.length_take,List.length_take,List.length_drop];omega)]
   congr 1
   rw[entV_len,List.length_take];omega
  rw[hadd];simp only[World.cell?,hg];rw[hcell,hmap,hj];rfl
theorem MpV.set {w4:World}{v4:Value}(h:MpV w mb v es)(hb:Below w.heap.size w w4)(ho:w4.ownsRow w.heap.size 116 2 v4 n xs)(hn:n=es'.length)(hx:xs=entV es'):MpV (w4.setCell ⟨mb,0,none⟩ v4) mb v4 es'∧w.grownBy (w4.setCell ⟨mb,0,none⟩ v4) (some mb):=by
 have hlt:=h.cells.2.2;have h4:w4.heap[mb]?=some (.cells #[v] 34 (0,0)):=(hb.block mb hlt).trans h.blk;have hg:=set_grown w4 mb 0 v4;subst hn hx;refine⟨⟨set_blk h4,?_⟩,hg.os.trans hb.os,hg.tape.trans hb.tape,hg.output.trans hb.output,Nat.le_trans hb.size hg.size,λc hc hne=>(hg.block c (Nat.lt_of_lt_of_le hc hb.size) hne).trans (hb.block c hc)⟩;exact ownN_mono (row_keep ho λg hgg=>hg.block g (World.ownsRow.lt ho g hgg).2 (λe=>by
  injection e with e;have:=(World.ownsRow.lt ho g hgg).1;omega)) (Nat.zero_le _)
theorem cMapPut (h:MpV w mb v es)(k val:ByteArray)(hR:PutR es k val es')(hl:es.length<=100000):Calls prog 42 #[(.pointer (some ⟨mb,0,none⟩)),.string k,.string val] w λe w'=>e=.returned (.tuple #[])∧∃v',MpV w' mb v' es'∧w.grownBy w' (some mb):=by
 obtain⟨p,s,hes,rfl,hp,hs⟩:=hR;obtain⟨bb,r,rfl,hbb,hr1,hr2⟩:∃(bb:Bool) (r:List Ent),es=p++r∧((bb=false∧r=s)∨(bb=true∧∃v0,r=(k,v0)::s))∧(∀e∈r.head?,klt e.1 k=false)∧bb=(match r.head? with | some e=>(e.1.toList == k.toList) | none=>false):=by
  rcases hes with rfl|⟨v0,rfl⟩
  ·obtain⟨g1,g2⟩:=head_not hs;exact⟨false,s,rfl,.inl ⟨rfl,rfl⟩,g1,g2.symm⟩
  ·exact⟨true,_,rfl,.inr ⟨rfl,v0,rfl⟩,(λe he=>by injection he with he;rw[<-he];exact klt_irr k),by simp⟩
 have HP:=hide (cplace h k hp hr1 (by omega) bb hr2);have HM:=hide (λ(Y:World) (hY:Below w.heap.size w Y)=>h.below hY);have H:=hide h;obtain⟨i0,hif,hz0,hz1,hz2⟩:=info_parts infoE;have hlp:(p++r).length=p.length+r.length:=List.length_append;rcases h.row.2 with⟨hv,h0⟩ | ⟨g,cap,cur,hv,-,-,hcap,hmx,-⟩
 ·subst hv;have hp0:p=[]:=List.length_eq_zero_iff.1 (by omega);have hr0:r=[]:=List.length_eq_zero_iff.1 (by omega);subst hp0 hr0;have hs0:s=[]∧bb=false:=by
   rcases hbb with⟨h1,h2⟩|⟨h1,v0,h2⟩
   ·exact⟨h2.symm,h1⟩
   ·cases h2
  obtain⟨rfl,rfl⟩:=hs0;clear h hes hp hs hbb hr1 hr2 h0 hlp hl;go_enter func42,ntmps42;go_wp2_with fail
  refine HP.out.mono ?_;rintro e w1⟨rfl,hb⟩;obtain⟨c0,c1,c2⟩:=(HM.out w1 hb).cells;have HB:=hide hb;have hsz:=hb.size;clear hb HP HM;go_wp2_with (at_builtin;first | (refine wpList_append_own_none rfl (.tmp 15) (.tmp 21) 32 rfl w.heap.size 116 i0 2 underlying32 hif (.slice none 0 0) 0 [] rfl (World.ownsRow_nil _ _ _ _) rfl ?_) | (refine wpList_append_own_at _ rfl (.tmp 23) (.tmp 27) 32 rfl w.heap.size 116 i0 (.agg #[.string ⟨#[]⟩,.string ⟨#[]⟩]) 2 32 underlying32 hif hz0 hz1 hz2 rfl (by decide) (.slice none 0 0) 0 [] rfl (World.ownsRow_nil _ _ _ _) ⟨w1.heap.size,0,none⟩ 1 1 [.string k,.string val] rfl rfl (newsE _ _ _) (entV_one [(k,val)]) (by decide) (by decide) (by simp;omega) ?_))
  intro v3 w3 ho3 hg3 _ hn3;obtain⟨a3,c3,rfl⟩:=own_formN ho3;have hb3:Below w.heap.size w w3:=below_grown ((HB.out).alloc hsz _) hg3 (λg e=>by cases e) (by simp;omega);obtain⟨d0,d1,d2⟩:=(H.out.below hb3).cells;have HS:=hide (H.out.set (es':=[(k,val)]) hb3 ho3 rfl rfl);have HO:=hide ho3;clear hb3 hg3 hn3 ho3 c0 c1 c2;go_wp2_with (at_builtin;refine wpList_append_own_none rfl (.tmp 33) (.tmp 39) 32 rfl w.heap.size 116 i0 2 underlying32 hif (.slice a3 (0+1) c3) (0+1) _ rfl HO.out rfl ?_)
  go_end0;exact⟨rfl,_,HS.out.1,HS.out.2⟩
 ·subst hv;obtain⟨n,hn⟩:∃n,p.length=n:=⟨_,rfl⟩;obtain⟨ln,hln⟩:∃ln,(p++r).length=ln:=⟨_,rfl⟩;obtain⟨nx,hnx⟩:∃nx,(if bb=true then n+1 else n)=nx:=⟨_,rfl⟩;have hs':(p++r).drop nx=s∧nx<=ln:=by
   rcases hbb with⟨rfl,rfl⟩|⟨rfl,v0,rfl⟩
   ·rw[if_neg (by decide)] at hnx;subst hnx hn;exact⟨by simp,by omega⟩
   ·rw[if_pos rfl] at hnx;subst hnx hn;refine⟨?_,by rw[<-hln];simp⟩;have e:p++(k,v0)::s=(p++[(k,v0)])++s:=by simp
    rw[e,List.drop_append_of_le_length (by simp)];simp
  have hnl:n<=ln:=by omega
  rw[hln] at hcap;have hlnb:ln<=100000:=by omega
  have hsl:s.length=ln-nx:=by rw[<-hs'.1,List.length_drop,hln]
  rw[hn] at HP;have HN:=hide (show p=((p++r).drop 0).take n∧s=((p++r).drop nx).take (ln-nx)∧(p++r).length=ln∧p.length=n∧s.length=ln-nx from⟨by rw[<-hn];simp,by rw[hs'.1,<-hsl,List.take_length],hln,hn,hsl⟩);have j0:(0:Int)<=(n:Int):=by omega
  have j1:(n:Int)<=(cap:Int):=by omega
  have j2:(0:Int)<=(nx:Int):=by omega
  have j3:(nx:Int)<=(ln:Int):=by omega
  have j4:(ln:Int)<=(cap:Int):=by omega
  have j5:IntKind.i64.wrap ((n:Int)+1)=((n+1:Nat):Int):=by rw[IntKind.wrap_i64];omega
  have hnxl:=hs'.2;clear h hes hp hs hr1 hr2 hlp hl hs' hn hsl hmx;go_enter func42,ntmps42;go_wp2_with fail
  refine HP.out.mono ?_;rintro e w1⟨rfl,hb⟩;have hM1:=HM.out w1 hb;obtain⟨c0,c1,c2⟩:=hM1.cells;have hnw:=row_news hM1.row 0 n rfl;rw[<-HN.out.1] at hnw;rw[hln] at c0;have HB:=hide hb;have hsz:=hb.size;clear hb HP hM1;go_wp2_with (at_builtin;refine wpList_append_own_at _ rfl (.tmp 15) (.tmp 21) 32 rfl w.heap.size 116 i0 (.agg #[.string ⟨#[]⟩,.string ⟨#[]⟩]) 2 32 underlying32 hif hz0 hz1 hz2 rfl (by decide) (.slice none 0 0) 0 [] rfl (World.ownsRow_nil _ _ _ _) ⟨g,0,none⟩ n cap (entV p) rfl (by rw[entV_len,HN.out.2.2.2.1]) (by simpa using hnw) (entV_one p) (by unfold maxLen;omega) (by omega) hsz ?_)
  intro v2 w2 ho2 hg2 _ hn2
  replace ho2:w2.ownsRow w.heap.size 116 2 v2 n (entV p):=by simpa using ho2
  obtain⟨a2,cp2,rfl⟩:=own_formN ho2;have hb2:Below w.heap.size w w2:=below_grown HB.out hg2 (λg e=>by cases e) hsz;have HO2:=hide ho2;have HB2:=hide hb2;have hsz2:=hb2.size;clear hb2 hg2 hn2 ho2 c0 c1 c2 hnw;go_wp2_with (at_builtin;refine wpList_append_own_at _ rfl (.tmp 23) (.tmp 27) 32 rfl w.heap.size 116 i0 (.agg #[.string ⟨#[]⟩,.string ⟨#[]⟩]) 2 32 underlying32 hif hz0 hz1 hz2 rfl (by decide) (.slice a2 n cp2) n (entV p) rfl (World.ownsRow.alloc HO2.out _) ⟨w2.heap.size,0,none⟩ 1 1 [.string k,.string val] rfl rfl (newsE _ _ _) (entV_one [(k,val)]) (by unfold maxLen;omega) (by omega) (by simp;omega) ?_)
  intro v3 w3 ho3 hg3 _ hn3;obtain⟨a3,cp3,rfl⟩:=own_formN ho3;have hb3:Below w.heap.size w w3:=below_grown (HB2.out.alloc hsz2 _) hg3 (λg e=>(World.ownsRow.lt HO2.out g e).1) (by simp;omega);have hM3:=H.out.below hb3;obtain⟨d0,d1,d2⟩:=hM3.cells;have hnw:=row_news hM3.row nx (ln-nx) rfl;rw[<-HN.out.2.1] at hnw;rw[hln] at d0;have HO3:=hide ho3;have HB3:=hide hb3;have hsz3:=hb3.size;clear hb3 hg3 hn3 ho3 hM3;have hbb':(bb=false∧nx=n)∨(bb=true∧IntKind.i64.wrap ((n:Int)+1)=(nx:Int)):=by
   rcases hbb with⟨h1,_⟩|⟨h1,_⟩
   ·left;rw[h1,if_neg (by decide)] at hnx;exact⟨h1,hnx.symm⟩
   ·right;rw[h1,if_pos rfl] at hnx;exact⟨h1,by rw[j5,hnx]⟩
  clear hbb hnx j5;by_cases hcx:cap=nx
  ·have hlc:ln=nx:=by omega
   have hs0:s=[]:=List.length_eq_zero_iff.1 (by have:=HN.out.2.2.2.2;omega);subst hcx hlc;have hcc:ln-ln=0:=by omega
   rcases hbb' with⟨rfl,rfl⟩|⟨rfl,hj5⟩
   ·go_wp2_with (at_builtin;refine wpList_append_own_at _ rfl (.tmp 33) (.tmp 39) 32 rfl w.heap.size 116 i0 (.agg #[.string ⟨#[]⟩,.string ⟨#[]⟩]) 2 32 underlying32 hif hz0 hz1 hz2 rfl (by decide) (.slice a3 (ln+1) cp3) (ln+1) (entV p++[.string k,.string val]) rfl HO3.out ⟨g,0,none⟩ 0 0 [] rfl rfl (λj u hj=>by simp at hj) (λu hu=>by cases hu) (by unfold maxLen;omega) (by omega) hsz3 ?_)
    intro v4 w4 ho4 hg4 _ hn4;obtain⟨a4,cp4,rfl⟩:=own_formN ho4;have hb4:Below w.heap.size w w4:=below_grown HB3.out hg4 (λg e=>(World.ownsRow.lt HO3.out g e).1) hsz3;obtain⟨f0,f1,f2⟩:=(H.out.below hb4).cells;have HS:=hide (H.out.set (es':=p++(k,val)::s) hb4 ho4 (by have:=HN.out;simp;omega) (by subst hs0;rw[entV_app];simp[entV]));clear hb4 hg4 hn4 ho4 d0 d1 d2 hnw;go_wp2_with fail
    go_end0;exact⟨rfl,_,HS.out.1,HS.out.2⟩
   ·go_wp2_with (at_builtin;refine wpList_append_own_at _ rfl (.tmp 33) (.tmp 39) 32 rfl w.heap.size 116 i0 (.agg #[.string ⟨#[]⟩,.string ⟨#[]⟩]) 2 32 underlying32 hif hz0 hz1 hz2 rfl (by decide) (.slice a3 (n+1) cp3) (n+1) (entV p++[.string k,.string val]) rfl HO3.out ⟨g,0,none⟩ 0 0 [] rfl rfl (λj u hj=>by simp at hj) (λu hu=>by cases hu) (by unfold maxLen;omega) (by omega) hsz3 ?_)
    intro v4 w4 ho4 hg4 _ hn4;obtain⟨a4,cp4,rfl⟩:=own_formN ho4;have hb4:Below w.heap.size w w4:=below_grown HB3.out hg4 (λg e=>(World.ownsRow.lt HO3.out g e).1) hsz3;obtain⟨f0,f1,f2⟩:=(H.out.below hb4).cells;have HS:=hide (H.out.set (es':=p++(k,val)::s) hb4 ho4 (by have:=HN.out;simp;omega) (by subst hs0;rw[entV_app];simp[entV]));clear hb4 hg4 hn4 ho4 d0 d1 d2 hnw;go_wp2_with fail
    go_end0;exact⟨rfl,_,HS.out.1,HS.out.2⟩
  ·have hcx1:¬cap-nx=0:=by omega
   have hcx2:¬(cap:Int)=(nx:Int):=by omega
   rcases hbb' with⟨rfl,rfl⟩|⟨rfl,hj5⟩
   ·go_wp2_with (at_builtin;refine wpList_append_own_at _ rfl (.tmp 33) (.tmp 39) 32 rfl w.heap.size 116 i0 (.agg #[.string ⟨#[]⟩,.string ⟨#[]⟩]) 2 32 underlying32 hif hz0 hz1 hz2 rfl (by decide) (.slice a3 (nx+1) cp3) (nx+1) (entV p++[.string k,.string val]) rfl HO3.out ⟨g,nx*2,none⟩ (ln-nx) (cap-nx) (entV s) rfl (by rw[entV_len,HN.out.2.2.2.2]) hnw (entV_one _) (by unfold maxLen;omega) (by omega) hsz3 ?_)
    intro v4 w4 ho4 hg4 _ hn4;obtain⟨a4,cp4,rfl⟩:=own_formN ho4;have hb4:Below w.heap.size w w4:=below_grown HB3.out hg4 (λg e=>(World.ownsRow.lt HO3.out g e).1) hsz3;obtain⟨f0,f1,f2⟩:=(H.out.below hb4).cells;have HS:=hide (H.out.set (es':=p++(k,val)::s) hb4 ho4 (by have:=HN.out;simp;omega) (by rw[entV_app];simp[entV]));clear hb4 hg4 hn4 ho4 d0 d1 d2 hnw;go_wp2_with fail
    go_end0;exact⟨rfl,_,HS.out.1,HS.out.2⟩
   ·go_wp2_with (at_builtin;refine wpList_append_own_at _ rfl (.tmp 33) (.tmp 39) 32 rfl w.heap.size 116 i0 (.agg #[.string ⟨#[]⟩,.string ⟨#[]⟩]) 2 32 underlying32 hif hz0 hz1 hz2 rfl (by decide) (.slice a3 (n+1) cp3) (n+1) (entV p++[.string k,.string val]) rfl HO3.out ⟨g,nx*2,none⟩ (ln-nx) (cap-nx) (entV s) rfl (by rw[entV_len,HN.out.2.2.2.2]) hnw (entV_one _) (by unfold maxLen;omega) (by omega) hsz3 ?_)
    intro v4 w4 ho4 hg4 _ hn4;obtain⟨a4,cp4,rfl⟩:=own_formN ho4;have hb4:Below w.heap.size w w4:=below_grown HB3.out hg4 (λg e=>(World.ownsRow.lt HO3.out g e).1) hsz3;obtain⟨f0,f1,f2⟩:=(H.out.below hb4).cells;have HS:=hide (H.out.set (es':=p++(k,val)::s) hb4 ho4 (by have:=HN.out;simp;omega) (by rw[entV_app];simp[entV]));clear hb4 hg4 hn4 ho4 d0 d1 d2 hnw;go_wp2_with fail
    go_end0;exact⟨rfl,_,HS.out.1,HS.out.2⟩
theorem below_but (h:Below w.heap.size w w')(o:Option Nat):w.grownBy w' o:=⟨h.os,h.tape,h.output,h.size,λc hc _=>h.block c hc⟩
theorem cMapDel (h:MpV w mb v es)(k:ByteArray)(is:Bool)(hR:DelR es k is es')(hl:es.length<=100000):Calls prog 43 #[(.pointer (some ⟨mb,0,none⟩)),.string k] w λe w'=>e=.returned (.bool is)∧∃v',MpV w' mb v' es'∧w.grownBy w' (some mb):=by
 obtain⟨p,s,hes,rfl,hp,hs⟩:=hR;rcases hes with⟨rfl,rfl⟩|⟨v0,rfl,rfl⟩
 ·obtain⟨g1,g2⟩:=head_not hs;have HP:=hide (cplace h k hp g1 (by omega) false g2.symm);have H:=hide h;clear h hp hs g1 g2;go_enter func43,ntmps43;go_wp2_with fail
  refine HP.out.mono ?_;rintro e w1⟨rfl,hb⟩;have HB:=hide hb;clear hb HP;go_wp2_with fail
  refine bodyPost_ret (v:=.bool false) (by simp[results,results43,go_sem, *]) rfl ?_;exact⟨rfl,_,H.out.below HB.out,below_but HB.out _⟩
 ·have HP:=hide (cplace (p:=p) (r:=(k,v0)::s) h k hp (λe he=>by injection he with he;rw[<-he];exact klt_irr k) (by omega) true (by simp));have HM:=hide (λ(Y:World) (hY:Below w.heap.size w Y)=>h.below hY);have H:=hide h;obtain⟨i0,hif,hz0,hz1,hz2⟩:=info_parts infoE;rcases h.row.2 with⟨hv,h0⟩ | ⟨g,cap,cur,hv,-,-,hcap,hmx,-⟩
  ·simp at h0
  subst hv;obtain⟨n,hn⟩:∃n,p.length=n:=⟨_,rfl⟩;obtain⟨ln,hln⟩:∃ln,(p++(k,v0)::s).length=ln:=⟨_,rfl⟩;have hll:n+1+s.length=ln:=by rw[<-hln,<-hn];simp;omega
  obtain⟨nx,hnx⟩:∃nx,n+1=nx:=⟨_,rfl⟩;rw[hln] at hcap;have hlnb:ln<=100000:=by omega
  rw[hn] at HP;have HN:=hide (show p=((p++(k,v0)::s).drop 0).take n∧s=((p++(k,v0)::s).drop nx).take (ln-nx)∧(p++(k,v0)::s).length=ln∧p.length=n∧s.length=ln-nx from⟨by rw[<-hn];simp,by
   have e:p++(k,v0)::s=(p++[(k,v0)])++s:=by simp
   have e2:(p++(k,v0)::s).drop nx=s:=by
    rw[e,<-hnx,<-hn,List.drop_append_of_le_length (by simp)];simp
   rw[e2,List.take_of_length_le (by omega)],hln,hn,by omega⟩)
  have j0:(0:Int)<=(n:Int):=by omega
  have j1:(n:Int)<=(cap:Int):=by omega
  have j2:(0:Int)<=(nx:Int):=by omega
  have j3:(nx:Int)<=(ln:Int):=by omega
  have j4:(ln:Int)<=(cap:Int):=by omega
  have j5:IntKind.i64.wrap ((n:Int)+1)=(nx:Int):=by rw[IntKind.wrap_i64];omega
  have hnxl:nx<=ln:=by omega
  have hsl:=HN.out.2.2.2.2;have hs0:ln=nx->s=[]:=λe=>List.length_eq_zero_iff.1 (by omega)
  have hnb:n<=100000:=by omega
  clear h hp hs hl hn hmx hll hnx;go_enter func43,ntmps43;go_wp2_with fail
  refine HP.out.mono ?_;rintro e w1⟨rfl,hb⟩;have hM1:=HM.out w1 hb;obtain⟨c0,c1,c2⟩:=hM1.cells;have hnw:=row_news hM1.row 0 n rfl;rw[<-HN.out.1] at hnw;rw[hln] at c0;have HB:=hide hb;have hsz:=hb.size;clear hb HP hM1;go_wp2_with (at_builtin;refine wpList_append_own_at _ rfl (.tmp 15) (.tmp 21) 32 rfl w.heap.size 116 i0 (.agg #[.string ⟨#[]⟩,.string ⟨#[]⟩]) 2 32 underlying32 hif hz0 hz1 hz2 rfl (by decide) (.slice none 0 0) 0 [] rfl (World.ownsRow_nil _ _ _ _) ⟨g,0,none⟩ n cap (entV p) rfl (by rw[entV_len,HN.out.2.2.2.1]) (by simpa using hnw) (entV_one p) (by unfold maxLen;omega) (by omega) hsz ?_)
  intro v2 w2 ho2 hg2 _ hn2
  replace ho2:w2.ownsRow w.heap.size 116 2 v2 n (entV p):=by simpa using ho2
  obtain⟨a2,cp2,rfl⟩:=own_formN ho2;have hb2:Below w.heap.size w w2:=below_grown HB.out hg2 (λg e=>by cases e) hsz;have hM2:=H.out.below hb2;obtain⟨d0,d1,d2⟩:=hM2.cells;have hnw:=row_news hM2.row nx (ln-nx) rfl;rw[<-HN.out.2.1] at hnw;rw[hln] at d0;have HO2:=hide ho2;have HB2:=hide hb2;have hsz2:=hb2.size;clear hb2 hg2 hn2 ho2 c0 c1 c2 hM2;by_cases hcx:cap=nx
  ·have hlc:ln=nx:=by omega
   have hs1:=hs0 hlc;subst hcx hlc;have hcc:ln-ln=0:=by omega
   clear hs0 hsl;go_wp2_with (at_builtin;refine wpList_append_own_at _ rfl (.tmp 24) (.tmp 31) 32 rfl w.heap.size 116 i0 (.agg #[.string ⟨#[]⟩,.string ⟨#[]⟩]) 2 32 underlying32 hif hz0 hz1 hz2 rfl (by decide) (.slice a2 n cp2) n (entV p) rfl HO2.out ⟨g,0,none⟩ 0 0 [] rfl rfl (λj u hj=>by simp at hj) (λu hu=>by cases hu) (by unfold maxLen;omega) (by omega) hsz2 ?_)
   intro v4 w4 ho4 hg4 _ hn4;obtain⟨a4,cp4,rfl⟩:=own_formN ho4;have hb4:Below w.heap.size w w4:=below_grown HB2.out hg4 (λg e=>(World.ownsRow.lt HO2.out g e).1) hsz2;obtain⟨f0,f1,f2⟩:=(H.out.below hb4).cells;have HS:=hide (H.out.set (es':=p++s) hb4 ho4 (by have:=HN.out;simp;omega) (by subst hs1;rw[entV_app];simp[entV]));clear hb4 hg4 hn4 ho4 d0 d1 d2 hnw;go_wp2_with fail
   refine bodyPost_ret (v:=.bool true) (by simp[results,results43,go_sem, *]) rfl ?_;exact⟨rfl,_,HS.out.1,HS.out.2⟩
  ·have hcx1:¬cap-nx=0:=by omega
   have hcx2:¬(cap:Int)=(nx:Int):=by omega
   clear hs0 hsl;go_wp2_with (at_builtin;refine wpList_append_own_at _ rfl (.tmp 24) (.tmp 31) 32 rfl w.heap.size 116 i0 (.agg #[.string ⟨#[]⟩,.string ⟨#[]⟩]) 2 32 underlying32 hif hz0 hz1 hz2 rfl (by decide) (.slice a2 n cp2) n (entV p) rfl HO2.out ⟨g,nx*2,none⟩ (ln-nx) (cap-nx) (entV s) rfl (by rw[entV_len,HN.out.2.2.2.2]) hnw (entV_one _) (by unfold maxLen;omega) (by omega) hsz2 ?_)
   intro v4 w4 ho4 hg4 _ hn4;obtain⟨a4,cp4,rfl⟩:=own_formN ho4;have hb4:Below w.heap.size w w4:=below_grown HB2.out hg4 (λg e=>(World.ownsRow.lt HO2.out g e).1) hsz2;obtain⟨f0,f1,f2⟩:=(H.out.below hb4).cells;have HS:=hide (H.out.set (es':=p++s) hb4 ho4 (by have:=HN.out;simp;omega) (by rw[entV_app]));clear hb4 hg4 hn4 ho4 d0 d1 d2 hnw;go_wp2_with fail
   refine bodyPost_ret (v:=.bool true) (by simp[results,results43,go_sem, *]) rfl ?_;exact⟨rfl,_,HS.out.1,HS.out.2⟩
end Go.Proofs.YtiaibgfhigdgdaaGreat
