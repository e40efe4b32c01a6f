/- a part -/
import Derived.Test.YtiaibgfhigdgdaaGreatS17
import Derived.Test.YtiaibgfhigdgdaaGreatS16
set_option maxRecDepth 100000
set_option maxHeartbeats 8000000
namespace Go.Proofs.YtiaibgfhigdgdaaGreat
open Go.RowKit Go.Lib Go.Maps Go.Sort
variable {w w':World}{B D Gp c n b m pages base g j tb root b0 b1 p0 pn d num pages' rt:Nat}{L:LS}{S:DS}{V V':PV}{K:Pgs}{A A':Nat→PgV}{fl X fl' os:List Nat}{v:Value}{xs:List Value}{bs:List UInt8}{i:It}{v0 vn vs:NV}{hi k kb ka kr:ByteArray}{es:List Ent}{l0:List PN}{y z:PN}
def loose (w:World)(B:Nat)(vo:Value)(c:Nat):Prop:=(∃cs t,w.heap[c]?=some (.cells cs t (0,0))∧tyQ t=false)∨(isU w c∧¬ownB w B c)∨((∃cs,w.heap[c]?=some (.cells cs 3 (0,0)))∧¬vo.ownBlock=some c)
structure Kpt (w w':World) (B:Nat) (vo:Value):Prop where
 size:w.heap.size≤w'.heap.size
 keep:∀c,c<w.heap.size→¬loose w B vo c→w'.heap[c]?=w.heap[c]?
section
variable {vo:Value}
theorem cells_tight {cs:Array Value}{t:TypeId}{fz:Nat×Nat}(h:w.heap[c]?=some (.cells cs t fz))(ht:tyQ t=true)(hu:¬t=5)(hi:t=3→vo.ownBlock=some c):¬loose w B vo c:=by
 rintro(⟨cs',t',k,q⟩|⟨⟨cs',f,k⟩,_⟩|⟨⟨cs',k⟩,q⟩)
 ·rw[h] at k;injection k with k;injection k with _ k _;rw[k,q] at ht;cases ht
 ·rw[h] at k;injection k with k;injection k with _ k _;exact hu k
 ·rw[h] at k;injection k with k;injection k with _ k _;exact q (hi k)
theorem map_tight (h:isM w c):¬loose w B vo c:=by
 obtain⟨es,k,h⟩:=h;rintro(⟨cs',t',k,q⟩|⟨⟨cs',f,k⟩,_⟩|⟨⟨cs',k⟩,q⟩)<;>(rw[h] at k;cases k)
theorem PD.kept {vb:Nat→Value}{vw:Value}{lb:Nat→List UInt8}{ws:List Chg}{left count:Int}{down:Bool}(h:PD w B D vb vw lb ws left count down)(k:Kpt w w' B vo):PD w' B D vb vw lb ws left count down:=by
 refine⟨(k.keep D h.lt (cells_tight h.blk (by decide) (by decide) (fun e=>absurd e (by decide)))).trans h.blk,h.low,fun i hi=>row_keep (h.rows i hi) fun g hg=>k.keep g (World.ownsRow.lt (h.rows i hi) g hg).2 ?_,row_keep h.wrow fun g hg=>?_,h.dif,h.size,h.oks⟩
 ·have ho:=h.ownB hi hg;rcases(h.rows i hi).2 with⟨e,_⟩ | ⟨g',cap,cur,e,_,hgg,_⟩
  ·rw[e] at hg;cases hg
  ·rw[e] at hg;injection hg with hg;have hg:g'=g:=hg;subst hg;rintro(⟨cs',t',q,r⟩ | ⟨_,q⟩ | ⟨⟨cs',q⟩,_⟩)
   ·rw[hgg] at q;injection q with q;injection q with _ q _;rw[←q] at r;exact absurd r (by decide)
   ·exact q ho
   ·rw[hgg] at q;injection q with q;injection q with _ q _;exact absurd q (by decide)
 ·rcases h.wrow.2 with⟨e,_⟩|⟨g',cap,cur,e,_,hgg,_⟩
  ·rw[e] at hg;cases hg
  ·rw[e] at hg;injection hg with hg;have hg:g'=g:=hg;subst hg;exact k.keep g' (Array.getElem?_eq_some_iff.1 hgg).1 (cells_tight hgg (by decide) (by decide) (fun e=>absurd e (by decide)))
theorem PL.keptN {G bp bf:Nat}(h:PL w B D G bp bf n L S)(k:Kpt w w' B vo):PL w' B D G bp bf n L S:=by
 obtain⟨vb,vw,hd⟩:=h.dsk;exact⟨(k.keep G h.lt (cells_tight h.blk (by decide) (by decide) (fun e=>absurd e (by decide)))).trans h.blk,h.low,h.dif,h.mp.keep (k.keep _ h.mp.lt (map_tight h.mp.isMap)),h.mf.keep (k.keep _ h.mf.lt (map_tight h.mf.isMap)),⟨vb,vw,hd.kept k⟩⟩
theorem PP.keptN {b:Bk}{P:PS}(h:PP w B D Gp b P L S)(k:Kpt w w' B b.vo):PP w' B D Gp b P L S:=by
 refine⟨(k.keep Gp h.lt (cells_tight h.blk (by decide) (by decide) (fun e=>absurd e (by decide)))).trans h.blk,h.log.keptN k,h.fmap.keep (k.keep _ h.fmap.lt (map_tight h.fmap.isMap)),h.chm.keep (k.keep _ h.chm.lt (map_tight h.chm.isMap)),fun n f hf=>⟨(k.keep _ (h.fcells hf).2.2.2.2.2 (cells_tight (h.frs n f hf).1 (by decide) (by decide) (fun e=>absurd e (by decide)))).trans (h.frs n f hf).1,(h.frs n f hf).2⟩,h.inj,row_keep h.ord fun g hg=>?_,h.low,h.dif⟩;obtain⟨⟨cur,hc⟩,-,hl⟩:=h.rowblk hg;exact k.keep g hl (cells_tight hc (by decide) (by decide) (fun _=>hg))
theorem TS.keptN {pk:Nat}(h:TS w B D Gp V K pk m A fl pages)(k:Kpt w w' B V.b.vo):TS w' B D Gp V K pk m A fl pages:=by
 obtain⟨C,h1,h2⟩:=h.po;exact⟨⟨C,⟨h1.pp.keptN k,h1.pi,Nat.le_trans h1.lo k.size⟩,h2⟩,h.pg,h.fr,h.zero,h.fls,h.flin,h.nf,h.fnd⟩
theorem TS.isD {pk:Nat}(h:TS w B D Gp V K pk m A fl pages):isD w B:=by
 obtain⟨C,h1,h2⟩:=h.po;obtain⟨vb,vw,hd⟩:=h1.pp.log.dsk;exact hd.isD
theorem TS.stayU {pk:Nat}(h:TS w B D Gp V K pk m A fl pages)(hs:St2 w w' B V V')(hr:w.ownsRow base 5 1 v n xs)(hn:∀g,v.ownBlock=some g→¬ownB w B g):w'.ownsRow base 5 1 v n xs∧∀g,v.ownBlock=some g→¬ownB w' B g:=by
 have hc:∀g,v.ownBlock=some g→isU w g:=fun g hg=>by
  rcases hr.2 with⟨e,_⟩|⟨g',cap,cur,e,_,hgg,_⟩
  ·rw[e] at hg;cases hg
  ·rw[e] at hg;injection hg with hg;have hg:g'=g:=hg;subst hg;exact⟨_,_,hgg⟩
 exact⟨row_keep hr fun g hg=>hs.bel.u.stay h.isD g (World.ownsRow.lt hr g hg).2 (hc g hg) (hn g hg),fun g hg ho=>hn g hg (hs.bel.u.rows h.isD g (World.ownsRow.lt hr g hg).2 (hc g hg) ho)⟩
theorem TS.stayI {pk:Nat}(h:TS w B D Gp V K pk m A fl pages)(hs:St2 w w' B V V')(hr:w.ownsRow base 3 1 v n xs)(hn:∀g,v.ownBlock=some g→¬V.b.vo.ownBlock=some g):w'.ownsRow base 3 1 v n xs∧∀g,v.ownBlock=some g→¬V'.b.vo.ownBlock=some g:=by
 obtain⟨C,h1,h2⟩:=h.po;rcases hr.2 with⟨e,h0⟩|⟨g',cap,cur,e,hb,hgg,hrest⟩
 ·exact⟨⟨hr.1,.inl ⟨e,h0⟩⟩,fun g hg=>by rw[e] at hg;cases hg⟩
 ·have:=h1.stayI hs hgg (hn g' (by rw[e];rfl));exact⟨⟨hr.1,.inr ⟨g',cap,cur,e,hb,this.1,hrest⟩⟩,fun g hg=>by
   rw[e] at hg;injection hg with hg;have hg:g'=g:=hg;subst hg;exact this.2⟩
theorem TS.newU {pk:Nat}(h:TS w B D Gp V K pk m A fl pages)(k:Kpt w w' B V.b.vo)(hg:w.heap.size≤g):¬ownB w' B g:=by
 obtain⟨C,h1,h2⟩:=h.po;obtain⟨vb,vw,hd⟩:=h1.pp.log.dsk;have hd':=hd.kept k;rintro⟨cur,fz,v,q,hm,hv⟩;rw[hd.low,hd'.blk] at q;injection q with q;injection q with q _ _;subst q;simp only[List.mem_toArray,List.mem_cons,List.not_mem_nil,or_false] at hm;have k1:∀i,i<4→v=vb i→False:=fun i hi e=>by
  rw[e] at hv;have:=(World.ownsRow.lt (hd.rows i hi) g hv).2;omega
 rcases hm with e|e|e|e|e|e|e|e
 ·exact k1 0 (by decide) e
 ·exact k1 1 (by decide) e
 ·exact k1 2 (by decide) e
 ·exact k1 3 (by decide) e
 ·rw[e] at hv;have:=(World.ownsRow.lt hd.wrow g hv).2;omega
 ·rw[e] at hv;cases hv
 ·rw[e] at hv;cases hv
 ·rw[e] at hv;cases hv
theorem TS.newI {pk:Nat}(h:TS w B D Gp V K pk m A fl pages)(hg:w.heap.size≤g):¬V.b.vo.ownBlock=some g:=fun e=>by
 obtain⟨C,h1,h2⟩:=h.po;have:=(h1.pp.rowblk e).2.2;omega
theorem St2.keep2 {w0:World}{o o':Option Nat}(h:St2 w0 w B V V')(hg:But2 w w' o o')(h1:∀c,o=some c→w0.heap.size≤c)(h2:∀c,o'=some c→w0.heap.size≤c)(hB:B≤w0.heap.size):St2 w0 w' B V V':=by
 have st:∀b,b<w0.heap.size→w'.heap[b]?=w.heap[b]?:=fun b hb=>hg.block b (Nat.lt_of_lt_of_le hb h.bel.size) (fun e=>by have:=h1 b e.symm;omega) (fun e=>by have:=h2 b e.symm;omega)
 exact⟨⟨⟨hg.os.trans h.bel.os,hg.tape.trans h.bel.tape,hg.output.trans h.bel.output,Nat.le_trans h.bel.size hg.size,fun b hb=>(st b (Nat.lt_of_lt_of_le hb hB)).trans (h.bel.block b hb)⟩,fun b hb hf hm=>(st b hb).trans (h.bel.far b hb hf hm),h.bel.maps,⟨fun d=>(h.bel.u.disk d).of (st B d.lt),fun d b hb hu hn=>(st b hb).trans (h.bel.u.stay d b hb hu hn),fun d b hb hu ho=>h.bel.u.rows d b hb hu (ho.of (st B d.lt))⟩⟩,h.nf⟩
end
theorem valN_at:∀(ps:List Nat) (cs:List ByteArray),ps.length=cs.length→∀j (h:j<ps.length) (h':j<cs.length),(ps[j],(⟨5,(ps.drop (j+1)).headD 0,[cs[j]]⟩:PgV))∈valN ps cs
 | p::ps,c::cs,_,0,_,_=>by simp[valN]
 | p :: ps, c :: cs, h, j + 1, h1, h2 => by
  simp only[valN,List.getElem_cons_succ,List.drop_succ_cons,List.mem_cons];exact .inr (valN_at ps cs (by simpa using h) j (by simpa using h1) (by simpa using h2))
theorem piece_at (v:ByteArray)(h:j<(piecesV v).length):(piecesV v)[j]=v.extract (1008*j) (min (1008*j+1008) v.size):=by
 have:=piece_drop v (i:=j) (by rw[←piece_len];exact h);rw[List.drop_eq_getElem_cons h] at this;injection this
def bsV (v:ByteArray)(j:Nat):List UInt8:=v.data.toList.take (1008*j)
theorem bsV_len (v:ByteArray)(j:Nat):(bsV v j).length=min (1008*j) v.size:=by unfold bsV;rw[List.length_take];rfl
theorem bsV_next (v:ByteArray)(j:Nat):bsV v j++(v.extract (1008*j) (min (1008*j+1008) v.size)).data.toList=bsV v (j+1):=by
 unfold bsV;rw[ByteArray.data_extract,Array.toList_extract,List.extract_eq_take_drop];have hl:v.data.toList.length=v.size:=rfl;have e:1008*(j+1)=1008*j+1008:=by omega
 rw[e,List.take_add]
 congr 1
 apply List.ext_getElem?;intro i;simp only[List.getElem?_take,List.getElem?_drop];split
 ·rename_i h1
  rw[if_pos (by omega)]
 ·rename_i h1
  split
  ·rename_i h2
   rw[List.getElem?_eq_none (by rw[hl];omega)]
  ·rfl
theorem bsV_all (v:ByteArray)(h:v.size≤1008*j):(⟨(bsV v j).toArray⟩:ByteArray)=v:=by
 unfold bsV;rw[List.take_of_length_le (by show v.size≤_;exact h)]
attribute [local go_sem ↓] Go.wp_at_zero Go.wp_at_succ
theorem infoI8:(Tryz.prog.info? 3).map (fun i=>(i.zero,i.size,i.bytes))=some (some (.int .i64 0),1,8):=by kernel_rfl
def intsN (l:List Nat):List Value:=l.map fun(n:Nat)=>Value.int .i64 (n:Int)
structure FoS (w X:World) (B D Gp:Nat) (V0 V:PV) (K:Pgs) (pk m:Nat) (A:Nat→PgV) (fl:List Nat) (pages:Nat) (v pv:Value) (bs:List UInt8) (ps:List Nat):Prop where
 ts:TS X B D Gp V K pk m A fl pages
 st:St2 w X B V0 V
 bd:BdV X w.heap.size w.heap.size v bs
 bu:∀g,v.ownBlock=some g→¬ownB X B g
 pr:X.ownsRow w.heap.size 3 1 pv ps.length (intsN ps)
 pi:∀g,pv.ownBlock=some g→¬V.b.vo.ownBlock=some g
section
variable {X Y:World}{V0:PV}{pk:Nat}{pv:Value}{ps:List Nat}
theorem BdV.stay {B0:Nat}(h:BdV X B0 b v bs)(hs:∀(c:Nat) (cs:Array Value) (t:TypeId),X.heap[c]?=some (.cells cs t (0,0))→tyQ t=false→Y.heap[c]?=some (.cells cs t (0,0)))(hr:Y.ownsRow B0 5 1 v bs.length (Go.Lib.byteCells bs)):BdV Y B0 b v bs:=by
 obtain⟨p,hp,hb⟩:=h.blk;exact⟨⟨p,hp,hs _ _ _ hb (by decide)⟩,hr⟩
theorem FoS.step (h:FoS w X B D Gp V0 V K pk m A fl pages v pv bs ps)(ht:TS Y B D Gp V' K pk m A fl pages)(hs:St2 X Y B V V'):FoS w Y B D Gp V0 V' K pk m A fl pages v pv bs ps:=by
 obtain⟨u1,u2⟩:=h.ts.stayU hs h.bd.row h.bu;obtain⟨i1,i2⟩:=h.ts.stayI hs h.pr h.pi;exact⟨ht,h.st.trans hs,h.bd.stay (fun c cs t hc htt=>h.ts.stay hs hc htt) u1,u2,i1,i2⟩
theorem FoS.below (h:FoS w X B D Gp V0 V K pk m A fl pages v pv bs ps)(hb:Below X.heap.size X Y):FoS w Y B D Gp V0 V K pk m A fl pages v pv bs ps:=h.step (h.ts.below hb).1 (h.ts.below hb).2
theorem row_isC {e:TypeId}(h:X.ownsRow base e 1 v n xs)(hg:v.ownBlock=some g):isC X g e:=by
 rcases h.2 with⟨q,_⟩|⟨g',cap,cur,q,_,hgg,_⟩
 ·rw[q] at hg;cases hg
 ·rw[q] at hg;injection hg with hg;have hg:g'=g:=hg;subst hg;exact⟨_,hgg⟩
theorem FoS.bpos (h:FoS w X B D Gp V0 V K pk m A fl pages v pv bs ps):w.heap.size<X.heap.size:=by
 obtain⟨p,hp,hb⟩:=h.bd.blk;exact(Array.getElem?_eq_some_iff.1 hb).1
theorem FoS.write (h:FoS w X B D Gp V0 V K pk m A fl pages v pv bs ps){v':Value}{bs':List UInt8}(hb:BdV Y w.heap.size w.heap.size v' bs')(hg:But2 X Y (some w.heap.size) v.ownBlock)(hn:newB X v v')(hB:B≤w.heap.size):FoS w Y B D Gp V0 V K pk m A fl pages v' pv bs' ps:=by
 obtain⟨p,hp,hbb⟩:=h.bd.blk;have hk:Kpt X Y B V.b.vo:=⟨hg.size,fun c hc hl=>hg.block c hc (fun e=>hl (by injection e with e;subst e;exact .inl ⟨_,_,hbb,by decide⟩)) (fun e=>hl (by
  obtain⟨cs,hcs⟩:=row_isC h.bd.row e.symm;exact .inr (.inl ⟨⟨cs,_,hcs⟩,h.bu c e.symm⟩)))⟩
 have hd:=h.ts.isD;have hBlt:=hd.lt;have hBk:Y.heap[B]?=X.heap[B]?:=by
  refine hk.keep B hBlt ?_;obtain⟨cu,f,hd⟩:=hd;exact cells_tight hd (by decide) (by decide) (fun e=>absurd e (by decide))
 refine⟨h.ts.keptN hk,h.st.keep2 hg (fun c e=>by injection e with e;omega) (fun c e=>(World.ownsRow.lt h.bd.row c e).1) hB,hb,fun g hg' ho=>?_,row_keep h.pr fun g hg'=>?_,h.pi⟩
 ·rcases hn with e|⟨g',e,hle⟩
  ·rw[e] at hg';exact h.bu g hg' (ho.of hBk)
  ·rw[e] at hg';injection hg' with hg';subst hg';exact h.ts.newU hk hle ho
 ·obtain⟨cs,hcs⟩:=row_isC h.pr hg';refine hg.block g (World.ownsRow.lt h.pr g hg').2 (fun e=>?_) (fun e=>?_)
  ·injection e with e;subst e;rw[hcs] at hbb;injection hbb with hbb;injection hbb with _ hbb _;exact absurd hbb (by decide)
  ·obtain⟨cu,hcu⟩:=row_isC h.bd.row e.symm;rw[hcs] at hcu;injection hcu with hcu;injection hcu with _ hcu _;exact absurd hcu (by decide)
theorem FoS.app (h:FoS w X B D Gp V0 V K pk m A fl pages v pv bs ps){pv':Value}(hg:X.grownBy Y pv.ownBlock)(ho:Y.ownsRow w.heap.size 3 1 pv' (ps.length+1) (intsN ps++[.int .i64 (n:Int)]))(hn:pv'.ownBlock=pv.ownBlock∨pv'.ownBlock=some X.heap.size)(hB:B≤w.heap.size):FoS w Y B D Gp V0 V K pk m A fl pages v pv' bs (ps++[n]):=by
 obtain⟨p,hp,hbb⟩:=h.bd.blk;have hk:Kpt X Y B V.b.vo:=⟨hg.size,fun c hc hl=>hg.block c hc (fun e=>hl (by
  obtain⟨cs,hcs⟩:=row_isC h.pr e.symm;exact .inr (.inr ⟨⟨cs,hcs⟩,h.pi c e.symm⟩)))⟩
 have hd:=h.ts.isD;have hBk:Y.heap[B]?=X.heap[B]?:=by
  refine hk.keep B hd.lt ?_;obtain⟨cu,f,hd⟩:=hd;exact cells_tight hd (by decide) (by decide) (fun e=>absurd e (by decide))
 have hne:∀(c:Nat) (t:TypeId) (cs:Array Value),X.heap[c]?=some (.cells cs t (0,0))→¬t=3→Y.heap[c]?=some (.cells cs t (0,0)):=fun c t cs hc ht=>(hg.block c (Array.getElem?_eq_some_iff.1 hc).1 (fun e=>by
  obtain⟨cu,hcu⟩:=row_isC h.pr e.symm;rw[hc] at hcu;injection hcu with hcu;injection hcu with _ hcu _;exact ht hcu)).trans hc
 refine⟨h.ts.keptN hk,?_,⟨⟨p,hp,hne _ _ _ hbb (by decide)⟩,row_keep h.bd.row fun g hg'=>?_⟩,fun g hg' ho'=>h.bu g hg' (ho'.of hBk),?_,fun g hg'=>?_⟩
 ·exact h.st.keep2 (o':=none) ⟨hg.os,hg.tape,hg.output,hg.size,fun c hc h1 _=>hg.block c hc h1⟩ (fun c e=>(World.ownsRow.lt h.pr c e).1) (fun c e=>by cases e) hB
 ·obtain⟨cs,hcs⟩:=row_isC h.bd.row hg';rw[hne _ _ _ hcs (by decide),hcs]
 ·rw[List.length_append];simp only[intsN,List.map_append,List.map_cons,List.map_nil,List.length_cons,List.length_nil];exact ho
 ·rcases hn with e|e
  ·rw[e] at hg';exact h.pi g hg'
  ·rw[e] at hg';injection hg' with hg';subst hg';exact h.ts.newI (Nat.le_refl _)
end
theorem long_cell (h:okI i)(hp:¬i.pgs=[])(hs:∀p∈i.pgs,p<60000):(kS (cellI i)≤(cellI i).size∧(cellI i).size≤240∧4≤(cellI i).size)∧(restB (cellI i)).size=7∧bytS (restB (cellI i)) 0=1∧bytS (restB (cellI i)) 1*256+bytS (restB (cellI i)) 2=i.val.size∧numB (cellI i) ((cellI i).size-4)=i.pgs.headD 0∧i.pgs.length=cutsN i.val∧0<i.val.size:=by
 obtain⟨k1,k2,k3,k4⟩:=cellI_key h;have hsz:=cellI_sz h;have hl:=h.pgs;have hk:=h.key;have hv:=h.val;cases hq:i.pgs with
 | nil=>exact absurd hq hp
 | cons p r =>
  have hr:restI i=⟨#[1,(i.val.size/256).toUInt8,i.val.size.toUInt8]⟩++fourB p:=by unfold restI;rw[hq]
  have hc:cellI i=longB i.key i.val.size p:=by unfold cellI;rw[hq]
  have h7:(restI i).size=7:=by rw[hr,ByteArray.size_append,fourB_sz];rfl
  have hne:¬2+i.key.size+i.val.size≤240:=fun e=>by rw[if_pos e,hq] at hl;simp at hl
  rw[if_neg hne] at hl;have b0:bytS (restI i) 0=1:=by rw[hr,byt_left (by show 0<3;decide)];rfl
  have b1:bytS (restI i) 1=i.val.size/256%256:=by rw[hr,byt_left (by show 1<3;decide)];rfl
  have b2:bytS (restI i) 2=i.val.size%256:=by rw[hr,byt_left (by show 2<3;decide)];rfl
  refine⟨⟨k2,hsz,?_⟩,by rw[k4,h7],by rw[k4,b0],by rw[k4,b1,b2];omega,?_,by rw[←hq,hl];rfl,by have:=hk.2;omega⟩
  ·rw[cellI_eq,ByteArray.size_append,h7];omega
  ·rw[hc];exact num_long _ _ (by have:=hs p (by rw[hq];simp);omega)
theorem nodI_at (hA:∀q∈nodI i,A q.1=q.2)(hl:i.pgs.length=cutsN i.val)(hj:j<i.pgs.length):A i.pgs[j]=⟨5,(i.pgs.drop (j+1)).headD 0,[i.val.extract (1008*j) (min (1008*j+1008) i.val.size)]⟩:=by
 have hj':j<(piecesV i.val).length:=by rw[piece_len,←hl];exact hj
 have:=hA _ (valN_at i.pgs (piecesV i.val) (by rw[piece_len];exact hl) j hj hj');rw[piece_at _ hj'] at this;exact this
theorem headD_drop {l:List Nat}(h:j<l.length):(l.drop j).headD 0=l[j]:=by rw[List.drop_eq_getElem_cons h];rfl
theorem clenB (h:BdV w B b v bs):Calls Tryz.prog 187 #[(.pointer (some ⟨b,0,none⟩))] w fun e w'=>e=.returned (.int .i64 (bs.length:Int))∧w'=w:=by
 obtain⟨p,_,hb⟩:=h.blk;obtain⟨a,c,rfl⟩:∃a c,v=.slice a bs.length c:=by
  rcases h.row.2 with⟨e,h0⟩|⟨g,cap,cur,e,_⟩
  ·exact⟨none,0,by rw[e,h0]⟩
  ·exact⟨_,_,e⟩
 have c1:w.cell? ⟨b,1,none⟩=some (.slice a bs.length c):=by simp[World.cell?,hb]
 clear h hb;go_enter Tryz.func187,Tryz.ntmps187;go_wp2;go_ret;exact⟨rfl,rfl⟩
def lenS:Value→Nat
 | .slice _ n _=>n
 | _=>0
def foPost (w:World)(B D Gp:Nat)(V:PV)(K:Pgs)(pk m:Nat)(A:Nat→PgV)(fl:List Nat)(pages:Nat)(ps:List Nat)(s:Value)(w':World):Prop:=
 ∃V',TS w' B D Gp V' K pk m A fl pages∧St2 w w' B V V'∧w'.ownsRow w.heap.size 3 1 s ps.length (intsN ps)∧∀g,s.ownBlock=some g→¬V'.b.vo.ownBlock=some g
section
variable {pk:Nat}
theorem cfollow (h:TS w B D Gp V K pk m A fl pages)(hm:m≤40000)(ht:TB w tb Gp root)(i:It)(hi:okI i)(hp:¬i.pgs=[])(hs:∀p∈i.pgs,p<pages)(hA:∀q∈nodI i,A q.1=q.2):Calls Tryz.prog 160 #[(.pointer (some ⟨tb,0,none⟩)),.string (cellI i)] w fun e w'=>∃s,e=.returned (.tuple #[.string i.val,s])∧foPost w B D Gp V K pk m A fl pages i.pgs s w':=by
 have hpg:=h.flsmall.2;obtain⟨⟨f1,f2,f3⟩,f4,f5,f6,f7,f8,f9⟩:=long_cell hi hp (fun p hp=>by have:=hs p hp;omega);have HP:=hide (fun(Y:World)=>cpageOf (cellI i) Y f3 (by omega));have HL:=hide (fun(Y:World)=>clongSize (cellI i) Y f1 (by omega) (by omega));rw[f7] at HP;rw[f6] at HL;have HA:=hide (fun(j:Nat) (hj:j<i.pgs.length)=>nodI_at hA f8 hj);have hb:Below w.heap.size w (w.alloc (.cells #[.pointer none,.slice none 0 0] 218)):=((Below.refl _ _).alloc (Nat.le_refl _) _);have H0:Hid (FoS w (w.alloc (.cells #[.pointer none,.slice none 0 0] 218)) B D Gp V V K pk m A fl pages (.slice none 0 0) (.slice none 0 0) [] []):=⟨(h.below hb).1,(h.below hb).2,⟨⟨_,.inl rfl,World.alloc_heap_new w _⟩,World.ownsRow_nil _ _ _ _⟩,(fun g hg=>by cases hg),World.ownsRow_nil _ _ _ _,(fun g hg=>by cases hg)⟩;have HB:=hide (show B≤w.heap.size from h.lo);have HT:=hide (show TS w B D Gp V K pk m A fl pages∧TB w tb Gp root from⟨h,ht⟩);obtain⟨c,hc⟩:∃c,cellI i=c:=⟨_,rfl⟩;rw[hc] at HP HL ⊢;have HI:=hide (show okI i∧i.pgs.length=cutsN i.val∧0<i.val.size∧(∀p∈i.pgs,p<pages)∧pages≤59000 from⟨hi,f8,f9,hs,hpg⟩);have hsz:=hi.val;obtain⟨p0,hp0⟩:∃p0,i.pgs.headD 0=p0:=⟨_,rfl⟩;rw[hp0] at HP;have HP0:=hide (hp0);clear hp0;obtain⟨z,hz⟩:∃z,i.val.size=z:=⟨_,rfl⟩;rw[hz] at HL hsz;have HZ:=hide (hz);clear h ht hi hp hs hA f1 f2 f3 f4 f5 f6 f7 f8 f9 hb hpg hc hz;go_enter Tryz.func160,Tryz.ntmps160;go_wp2_with fail
 refine(HP.out _).mono ?_;rintro e w1⟨rfl,hw⟩;rw[hw];clear hw;go_wp2_with fail
 go_loopw [7,8] (fun x7 x8 X=>∃(j:Nat) (Vi:PV) (v:Value),x8=.int .i64 ((i.pgs.drop j).headD 0:Int)∧j≤i.pgs.length∧Hid (FoS w X B D Gp V Vi K pk m A fl pages v x7 (bsV i.val j) (i.pgs.take j))) (fun x7 _ _=>i.pgs.length-lenS x7)
 case atStart=>exact⟨0,V,.slice none 0 0,(by rw[←HP0.out];rfl),Nat.zero_le _,(by show FoS _ _ _ _ _ _ _ _ _ _ _ _ _ _ _ (bsV i.val 0) (i.pgs.take 0);have:=H0.out;simpa[bsV] using this)⟩
 case round =>
  obtain⟨j,Vi,v,rfl,hj,HF⟩:=hrel;have HLB:=hide (clenB HF.out.bd);rw[bsV_len,HZ.out] at HLB;have hcut:i.pgs.length=(z+1007)/1008:=by rw[HI.out.2.1];unfold cutsN;rw[HZ.out]
  obtain⟨nx,hnx⟩:∃nx,(i.pgs.drop j).headD 0=nx:=⟨_,rfl⟩;rw[hnx];have HNX:=hide (hnx);clear hnx;by_cases hjc:j<i.pgs.length
  ·have hlt:((min (1008*j) z:Nat):Int)<(z:Int):=by omega
   have HJ:=hide (show j<i.pgs.length∧i.pgs.length=(z+1007)/1008 from⟨hjc,hcut⟩);have hnp:nx<pages:=by rw[←HNX.out,headD_drop hjc];exact HI.out.2.2.2.1 _ (List.getElem_mem hjc)
   generalize (min (1008 * j) z:Nat)=lb at *;clear hj hcut hjc;go_wp2_with fail
   refine HLB.out.mono ?_;rintro e w1⟨rfl,hw⟩;rw[hw];clear hw;go_wp2_with fail
   refine(HL.out _).mono ?_;rintro e w2⟨rfl,q,hw2⟩;have HF2:Hid (FoS w w2 B D Gp V Vi K pk m A fl pages v u7 (bsV i.val j) (i.pgs.take j)):=by
    rw[hw2];exact HF.out.below (drawnB wr q)
   have HRD:=hide (ctread HF2.out.ts (by omega) (HT.out.1.stayTB HF2.out.st HT.out.2) nx hnp);clear hw2;go_wp2_with fail
   refine HRD.out.mono ?_;rintro e w3⟨V3,v3,rfl,k1,k2,k3⟩;have hAn:=HA.out j HJ.out.1;rw[←headD_drop HJ.out.1,HNX.out] at hAn;rw[hAn] at k3 ⊢;obtain⟨pc,hpc⟩:∃pc,i.val.extract (1008*j) (min (1008*j+1008) i.val.size)=pc:=⟨_,rfl⟩;rw[hpc] at k3 ⊢;have hpz:pc.size=min (1008*j+1008) z-1008*j:=by rw[←hpc,ByteArray.size_extract,HZ.out];have:=HJ.out;omega
   have hpne:0<pc.size:=by have:=HJ.out;omega
   have HPC:=hide (show bsV i.val j++pc.data.toList=bsV i.val (j+1) from by rw[←hpc];exact bsV_next _ _);obtain⟨nn,hnn⟩:∃nn,(i.pgs.drop (j+1)).headD 0=nn:=⟨_,rfl⟩;simp only[hnn];have HNN:=hide (hnn);obtain⟨g,cap,cur,rfl,hbg,hg,hc1,hc2,hc3,-,hc5⟩:=own_cur (l:=[pc]) (n:=1) k3 (by decide);have hcell:w3.cell? ⟨g,0,none⟩=some (.string pc):=by
    have:=hc5 0 (by decide);simp only[World.cell?,hg];simpa using this
   have HF3:=hide (HF2.out.step k1 k2);have hglt:g<w3.heap.size:=(Array.getElem?_eq_some_iff.1 hg).1;have hw3:=HF3.out.bpos;have hpe:pc.toList.isEmpty=false:=by
    cases he:pc.toList.isEmpty with
    | false=>rfl
    | true =>
     rw[List.isEmpty_iff,ByteArray.toList_eq] at he;have h1:=congrArg List.length he;rw[Array.length_toList] at h1;have h0:pc.size=pc.data.size:=rfl;rw[←h0,List.length_nil] at h1;omega
   have hpl:pc.size≤1008:=by omega
   have hbl:(bsV i.val j).length≤3000:=by rw[bsV_len,HZ.out];omega
   have HF4:=hide (HF3.out.below (show Below w3.heap.size w3 (w3.alloc (.cells #[.int .i64 5,.int .i64 (nn:Int),.slice (some ⟨g,0,none⟩) 1 cap] 82)) from((Below.refl _ _).alloc (Nat.le_refl _) _)));have HWB:=hide (cwriteB HF4.out.bd pc (by omega) (by simp;omega));have hv3:∀b,v.ownBlock=some b→b<w3.heap.size:=fun b hb=>(World.ownsRow.lt HF3.out.bd.row b hb).2
   have HV3:=hide (hv3);have hu3:∀b,u7.ownBlock=some b→b<w3.heap.size:=fun b hb=>(World.ownsRow.lt HF3.out.pr b hb).2
   have HU3:=hide (hu3);clear hAn hpc hpz hnn k1 k2 k3 hg hc5 HRD HF2 hc1 hc3 hc2 hpne hpl hbl hv3 hu3;go_wp2_with fail
   refine HWB.out.mono ?_;rintro e w4⟨rfl,v4,y1,y2,y3⟩;rw[HPC.out] at y1;have HF5:=hide (HF4.out.write y1 y2 y3 HB.out);have x9:w4.cell? ⟨w3.heap.size,1,none⟩=some (.int .i64 (nn:Int)):=by
    have e1:w4.heap[w3.heap.size]?=some (.cells #[.int .i64 5,.int .i64 (nn:Int),.slice (some ⟨g,0,none⟩) 1 cap] 82 (0,0)):=by
     rw[y2.block _ (by simp) (fun e=>by injection e with e;omega) (fun e=>by have:=HV3.out _ e.symm;omega)];exact World.alloc_heap_new w3 _
    simp[World.cell?,e1]
   have hs4:w3.heap.size<w4.heap.size:=by have:=y2.size;simp at this;omega
   clear y1 y2 y3 HWB HF4 HF3;obtain⟨i0,hi,hz0,hz1,hz2⟩:=info_parts infoI8;go_wp2_with (at_builtin;refine wpList_append_own_at _ rfl (.tmp 41) (.tmp 43) 42 rfl w.heap.size 3 i0 (.int .i64 0) 1 8 Tryz.underlying42 hi hz0 hz1 hz2 rfl (by decide) _ (i.pgs.take j).length (intsN (i.pgs.take j)) rfl (World.ownsRow.alloc HF5.out.pr _) ⟨w4.heap.size,0,none⟩ 1 1 [.int .i64 (nx:Int)] rfl rfl (newsI _ _) (fun x hx=>by simp at hx;subst hx;rfl) ?c2 ?c3 ?c4 ?_)
   case c2=>rw[List.length_take];unfold maxLen;have:=HJ.out;omega
   case c3=>rw[List.length_take];have:=HJ.out;omega
   case c4=>simp;omega
   intro v5 w5 ho5 hg5 _ hn5;rw[←List.length_take (i:=j) (l:=i.pgs)] at ho5;have HF6:=hide ((HF5.out.below (show Below w4.heap.size w4 (w4.alloc (.cells #[.int .i64 (nx:Int)] 3)) from((Below.refl _ _).alloc (Nat.le_refl _) _))).app (n:=nx) hg5 ho5 (by simpa using hn5) HB.out);have x10:w5.cell? ⟨w3.heap.size,1,none⟩=some (.int .i64 (nn:Int)):=by
    have e1:w5.heap[w3.heap.size]?=w4.heap[w3.heap.size]?:=(hg5.block w3.heap.size (by simp;omega) (fun e=>by have:=HU3.out _ e.symm;omega)).trans (heap_alloc_old w4 _ hs4);exact(World.cell?_of_block (a:=⟨w3.heap.size,1,none⟩) e1).trans x9
   obtain⟨a5,c5,rfl⟩:∃a5 c5,v5=.slice a5 ((i.pgs.take j).length+1) c5:=by
    rcases ho5.2 with⟨_,e⟩|⟨g',cap',_,e,_⟩
    ·simp at e
    ·exact⟨_,_,e⟩
   clear ho5 hg5 hn5 HF5 x9;go_wp2_with fail
   go_roundw
   case rel =>
    refine⟨j+1,V3,v4,by rw[HNN.out],HJ.out.1,?_⟩;have e1:i.pgs.take (j+1)=i.pgs.take j++[nx]:=by rw[take_snoc HJ.out.1,←HNX.out,headD_drop HJ.out.1]
    show FoS _ _ _ _ _ _ _ _ _ _ _ _ _ _ _ (bsV i.val (j+1)) (i.pgs.take (j+1));rw[e1];exact HF6.out
   case measure =>
    obtain⟨a7,c7,e7⟩:∃a7 c7,u7=.slice a7 (i.pgs.take j).length c7:=by
     rcases HF.out.pr.2 with⟨e,h0⟩|⟨g',cap',_,e,_⟩
     ·exact⟨none,0,by rw[e,h0]⟩
     ·exact⟨_,_,e⟩
    rw[e7];simp only[lenS,List.length_take];have:=HJ.out;omega
  ·have hje:j=i.pgs.length:=by omega
   have hlb:(min (1008*j) z:Nat)=z:=by omega
   have hall:(⟨(bsV i.val j).toArray⟩:ByteArray)=i.val:=bsV_all _ (by rw[HZ.out];omega);rw[hlb] at HLB;have hnx0:nx=0:=by rw[←HNX.out,hje];simp
   have hz0:0<z:=by have:=HI.out.2.2.1;rw[HZ.out] at this;exact this
   have hbne:bsV i.val j≠[]:=fun e=>by
    have:=congrArg List.length e;rw[bsV_len,HZ.out,hlb] at this;simp at this;omega
   have htk:i.pgs.take j=i.pgs:=by rw[hje];exact List.take_length
   have HE:=hide (show i.pgs.take j=i.pgs∧bsV i.val j≠[]∧(⟨(bsV i.val j).toArray⟩:ByteArray)=i.val from⟨htk,hbne,hall⟩);have HJ2:=hide (show(min (1008*j) z:Nat)=z from hlb);subst hnx0;clear hj hcut hjc hje hlb hall hz0 hbne htk;go_wp2_with fail
   refine HLB.out.mono ?_;rintro e w1⟨rfl,hw⟩;rw[hw];clear hw;go_wp2_with fail
   refine(HL.out _).mono ?_;rintro e w2⟨rfl,q,hw2⟩;have HF2:Hid (FoS w w2 B D Gp V Vi K pk m A fl pages v u7 (bsV i.val j) (i.pgs.take j)):=by
    rw[hw2];exact HF.out.below (drawnB wr q)
   have HLB2:=hide (clenB HF2.out.bd);have hbz:(bsV i.val j).length=z:=by rw[bsV_len,HZ.out];have:=HJ2.out;omega
   rw[hbz] at HLB2;clear hw2 hbz;go_wp2_with fail
   refine HLB2.out.mono ?_;rintro e w3⟨rfl,hw⟩;rw[hw];clear hw;go_wp2_with fail
   refine(HL.out _).mono ?_;rintro e w4⟨rfl,q4,hw4⟩;have HF4:Hid (FoS w w4 B D Gp V Vi K pk m A fl pages v u7 (bsV i.val j) (i.pgs.take j)):=by
    rw[hw4];exact HF2.out.below (drawnB _ q4)
   have HSB:=hide (cstringB HF4.out.bd HE.out.2.1);rw[HE.out.2.2] at HSB;clear hw4;go_wp2_with fail
   refine HSB.out.mono ?_;rintro e w5⟨rfl,hg5⟩;have HFF:=HF4.out;have hk:Kpt w4 w5 B Vi.b.vo:=⟨hg5.size,fun c hc hl=>hg5.block c hc (fun e=>hl (by
    obtain⟨cs,hcs⟩:=row_isC HFF.bd.row e.symm;exact .inr (.inl ⟨⟨cs,_,hcs⟩,HFF.bu c e.symm⟩)))⟩
   have hrow:w5.ownsRow w.heap.size 3 1 u7 i.pgs.length (intsN i.pgs):=by
    have hp:=HFF.pr;rw[HE.out.1] at hp;refine row_keep hp fun g hg=>hg5.block g (World.ownsRow.lt hp g hg).2 (fun e=>?_)
    obtain⟨cs,hcs⟩:=row_isC HFF.bd.row e.symm;obtain⟨cu,hcu⟩:=row_isC hp hg;rw[hcs] at hcu;injection hcu with hcu;injection hcu with _ hcu _;exact absurd hcu (by decide)
   have HPO:Hid (foPost w B D Gp V K pk m A fl pages i.pgs u7 w5):=⟨Vi,HFF.ts.keptN hk,HFF.st.keep2 (o':=none) ⟨hg5.os,hg5.tape,hg5.output,hg5.size,fun c hc h1 _=>hg5.block c hc h1⟩ (fun c e=>(World.ownsRow.lt HFF.bd.row c e).1) (fun c e=>by cases e) HB.out,hrow,HFF.pi⟩;clear HFF hk hrow hg5;go_wp2
   go_ret2
   exact⟨u7,rfl,HPO.out⟩
end
theorem inline_cell (h:okI i)(hp:i.pgs=[]):(kS (cellI i)≤(cellI i).size∧(cellI i).size≤240)∧0<(restB (cellI i)).size∧bytS (restB (cellI i)) 0=0:=by
 obtain⟨k1,k2,k3,k4⟩:=cellI_key h;have hr:restI i=⟨#[0]⟩++i.val:=by unfold restI;rw[hp]
 refine⟨⟨k2,cellI_sz h⟩,?_,?_⟩
 ·rw[k4,hr,ByteArray.size_append];show 0<1+_;omega
 ·rw[k4,hr,bytS_one];rfl
theorem Hold.toFree (h:Hold fl pages (n::X)):Hold (n::fl) pages X:=(List.Perm.cons _ (List.perm_middle (l₁:=fl)).symm).trans h
def frvPost (w:World)(B D Gp:Nat)(V:PV)(K:Pgs)(pk m:Nat)(A:Nat→PgV)(pages:Nat)(ps X:List Nat)(w':World):Prop:=
 ∃(V':PV) (A':Nat→PgV) (fl':List Nat),TS w' B D Gp V' K pk (m+2*ps.length) A' fl' pages∧St2 w w' B V V'∧Hold fl' pages X∧∀x,¬x=0→¬x∈ps→A' x=A x
section
variable {pk:Nat}
theorem cfreeValue (h:TS w B D Gp V K pk m A fl pages)(hm:m≤39000)(ht:TB w tb Gp root)(i:It)(hi:okI i)(hA:∀q∈nodI i,A q.1=q.2)(hX:Hold fl pages (i.pgs++X)):Calls Tryz.prog 101 #[(.pointer (some ⟨tb,0,none⟩)),.string (cellI i)] w fun e w'=>e=.returned (.tuple #[])∧frvPost w B D Gp V K pk m A pages i.pgs X w':=by
 by_cases hp:i.pgs=[]
 ·obtain⟨⟨f1,f2⟩,f3,f4⟩:=inline_cell hi hp;have HI:=hide (fun(Y:World)=>cisInPages (cellI i) Y f1 (by omega) f3);rw[f4] at HI;have HP:Hid (frvPost w B D Gp V K pk m A pages i.pgs X w):=⟨V,A,fl,by rw[hp];exact h,St2.refl _ _ _,by rw[hp] at hX;exact hX,fun _ _ _=>rfl⟩;generalize cellI i=c at *;clear h ht hi hA hX hp f1 f2 f3 f4;go_enter Tryz.func101,Tryz.ntmps101;go_wp2_with fail
  refine(HI.out _).mono ?_;rintro e w1⟨rfl,hw⟩;rw[hw];clear hw;go_wp2_with fail
  refine bodyPost_ret (results_none rfl _ _ _) rfl ?_;exact⟨rfl,HP.out⟩
 ·have hpg:=h.flsmall.2;have hs:∀p∈i.pgs,p<pages:=fun p hp=>(hX.mem (n:=p) (by simp[hp])).2.1
  obtain⟨⟨f1,f2,f3⟩,f4,f5,f6,f7,f8,f9⟩:=long_cell hi hp (fun p hp=>by have:=hs p hp;omega);have HI:=hide (fun(Y:World)=>cisInPages (cellI i) Y f1 (by omega) (by omega));rw[f5] at HI;have HFO:=hide (cfollow h (by omega) ht i hi hp hs hA);have hlen:i.pgs.length≤3:=by rw[f8];unfold cutsN;have:=hi.val;omega
  have HT:=hide (show TS w B D Gp V K pk m A fl pages∧TB w tb Gp root∧Hold fl pages (i.pgs++X) from⟨h,ht,hX⟩);have HM:=hide (show m≤39000∧i.pgs.length≤3 from⟨hm,hlen⟩);obtain⟨c,hc⟩:∃c,cellI i=c:=⟨_,rfl⟩;rw[hc] at HI HFO ⊢;clear h ht hi hA hX hp hs f1 f2 f3 f4 f5 f6 f7 f8 f9 hpg hc hm;generalize i.pgs=ps at *;go_enter Tryz.func101,Tryz.ntmps101;go_wp2_with fail
  refine(HI.out _).mono ?_;rintro e w1⟨rfl,hw⟩;rw[hw];clear hw;go_wp2_with fail
  refine HFO.out.mono ?_;rintro e w2⟨s,rfl,V2,k1,k2,k3,k4⟩;obtain⟨a,cap,rfl⟩:∃a cap,s=.slice a ps.length cap:=by
   rcases k3.2 with⟨e,h0⟩|⟨g',cap',_,e,_⟩
   ·exact⟨none,0,by rw[e,h0]⟩
   ·exact⟨_,_,e⟩
  have H2:=hide (show TS w2 B D Gp V2 K pk m A fl pages∧St2 w w2 B V V2∧w2.ownsRow w.heap.size 3 1 (.slice a ps.length cap) ps.length (intsN ps)∧∀g,(Value.slice a ps.length cap).ownBlock=some g→¬V2.b.vo.ownBlock=some g from⟨k1,k2,k3,k4⟩);clear k1 k2 k3 k4 HFO HI;go_wp2_with fail
  go_loopw [19] (fun x19 Y=>∃(j:Nat) (Vj:PV) (Aj:Nat→PgV) (flj:List Nat),x19=.int .i64 (j:Int)∧j≤ps.length∧Hid (TS Y B D Gp Vj K pk (m+2*j) Aj flj pages∧St2 w Y B V Vj∧Y.ownsRow w.heap.size 3 1 (.slice a ps.length cap) ps.length (intsN ps)∧(∀g,(Value.slice a ps.length cap).ownBlock=some g→¬Vj.b.vo.ownBlock=some g)∧Hold flj pages (ps.drop j++X)∧∀x,¬x=0→¬x∈ps→Aj x=A x)) (fun x19 _=>ps.length-(intOf x19).toNat)
  case atStart=>exact⟨0,V2,A,fl,rfl,Nat.zero_le _,⟨H2.out.1,H2.out.2.1,H2.out.2.2.1,H2.out.2.2.2,HT.out.2.2,fun _ _ _=>rfl⟩⟩
  case round =>
   obtain⟨j,Vj,Aj,flj,rfl,hj,HJ⟩:=hrel;by_cases hjc:j<ps.length
   ·have hlt:(j:Int)<(ps.length:Int):=by omega
    have h0:(0:Int)≤(j:Int):=by omega
    have hmem:=HJ.out.2.2.2.2.1.mem (n:=ps[j]) (List.mem_append_left _ (by rw[List.drop_eq_getElem_cons hjc];exact List.mem_cons_self ..));obtain⟨pj,hpj⟩:∃pj,ps[j]=pj:=⟨_,rfl⟩;rw[hpj] at hmem;obtain⟨g,cap',ee,_,_⟩:=World.ownsRow.form HJ.out.2.2.1 (by omega);injection ee with ee1 ee2 ee3;subst ee1 ee3;have hc:=HJ.out.2.2.1.cellAt j (by omega);have hci:(intsN ps)[j]?=some (.int .i64 (pj:Int)):=by simp[intsN,hjc,hpj]
    rw[hci] at hc;have HFR:=hide (ctfree HJ.out.1 (by have:=HM.out;omega) (HT.out.1.stayTB HJ.out.2.1 HT.out.2.1) pj hmem.1 hmem.2.1 hmem.2.2);have HPJ:=hide (show j<ps.length∧ps.drop j=pj::ps.drop (j+1)∧pj∈ps∧0<pj from⟨hjc,by rw[List.drop_eq_getElem_cons hjc,hpj],by rw[←hpj];exact List.getElem_mem hjc,hmem.1⟩);clear hmem hpj hci hj;go_wp2_with fail
    refine HFR.out.mono ?_;rintro e w3⟨rfl,V3,k1,k2⟩;obtain⟨q1,q2,q3,q4,q5,q6⟩:=HJ.out;obtain⟨r1,r2⟩:=q1.stayI k2 q3 q4;have HN:Hid (TS w3 B D Gp V3 K pk (m+2*(j+1)) (updA (updA Aj pj ⟨3,flj.headD 0,[]⟩) 0 ⟨4,pj,[]⟩) (pj::flj) pages∧St2 w w3 B V V3∧w3.ownsRow w.heap.size 3 1 (.slice (some ⟨g,0,none⟩) ps.length cap) ps.length (intsN ps)∧(∀g',(Value.slice (some ⟨g,0,none⟩) ps.length cap).ownBlock=some g'→¬V3.b.vo.ownBlock=some g')∧Hold (pj::flj) pages (ps.drop (j+1)++X)∧∀x,¬x=0→¬x∈ps→updA (updA Aj pj ⟨3,flj.headD 0,[]⟩) 0 ⟨4,pj,[]⟩ x=A x):=by
     refine⟨k1,q2.trans k2,r1,r2,?_,fun x h0 hx=>?_⟩
     ·have:=q5;rw[HPJ.out.2.1] at this;exact Hold.toFree this
     ·rw[updA_ne _ _ h0,updA_ne _ _ (fun e=>hx (by rw[e];exact HPJ.out.2.2.1))];exact q6 x h0 hx
    clear k1 k2 q1 q2 q3 q4 q5 q6 r1 r2 HFR hc;go_wp2_with fail
    go_roundw
    case rel=>exact⟨j+1,V3,_,_,by go_num,HPJ.out.1,HN⟩
    case measure=>simp[intOf];have:=HPJ.out.1;omega
   ·have hje:j=ps.length:=by omega
    have hlt:¬(j:Int)<(ps.length:Int):=by omega
    have HE:Hid (frvPost w B D Gp V K pk m A pages ps X wr):=by
     obtain⟨q1,q2,q3,q4,q5,q6⟩:=HJ.out;subst hje;rw[List.drop_length] at q5;exact⟨Vj,Aj,flj,q1,q2,q5,q6⟩
    clear hj hjc hje;go_wp2;go_end0;exact⟨rfl,HE.out⟩
def entPost (w:World)(B D Gp:Nat)(V:PV)(K:Pgs)(pk m:Nat)(A:Nat→PgV)(pages:Nat)(k v:ByteArray)(X:List Nat)(c:ByteArray)(w':World):Prop:=
 ∃(i:It) (V':PV) (A':Nat→PgV) (fl':List Nat) (pages':Nat),i.key=k∧i.val=v∧okI i∧c=cellI i∧TS w' B D Gp V' K pk (m+9) A' fl' pages'∧St2 w w' B V V'∧Hold fl' pages' (i.pgs++X)∧(∀q∈nodI i,A' q.1=q.2)∧(∀x,¬x=0→¬x∈i.pgs→A' x=A x)∧pages'≤pages+3
theorem centry (h:TS w B D Gp V K pk m A fl pages)(hm:m≤39000)(hp:pages≤57000)(ht:TB w tb Gp root)(k v:ByteArray)(hk:okK k)(hv:v.size≤3000)(hX:Hold fl pages X):Calls Tryz.prog 98 #[(.pointer (some ⟨tb,0,none⟩)),.string k,.string v] w fun e w'=>∃c,e=.returned (.string c)∧entPost w B D Gp V K pk m A pages k v X c w':=by
 have HF:=hide (fun(Y:World)=>cfits k v.size Y (by have:=hk.2;omega) (by omega));by_cases hf:2+k.size+v.size≤240
 ·have HC:=hide (fun(Y:World)=>cinline k v Y hk.2 hv);have hf':decide (2+k.size+v.size≤240)=true:=decide_eq_true hf;rw[hf'] at HF;have HP:=hide (fun(Y:World) (hY:Below w.heap.size w Y)=>(show entPost w B D Gp V K pk m A pages k v X (inlineB k v) Y from⟨⟨k,v,[]⟩,V,A,fl,pages,rfl,rfl,⟨hk,hv,by show([]:List Nat).length=_;rw[if_pos hf];rfl⟩,rfl,(h.below hY).1.mono (by omega),(h.below hY).2,hX,fun q hq=>by simp[nodI,valN] at hq,fun _ _ _=>rfl,by omega⟩));clear h ht hX hk hf hf';go_enter Tryz.func98,Tryz.ntmps98;go_wp2_with fail
  refine(HF.out _).mono ?_;rintro e w1⟨rfl,hw⟩;rw[hw];clear hw;go_wp2_with fail
  refine(HC.out _).mono ?_;rintro e w2⟨rfl,hb2⟩;go_wp2;go_ret;exact⟨_,rfl,HP.out _ hb2⟩
 ·have hf':decide (2+k.size+v.size≤240)=false:=decide_eq_false hf;rw[hf'] at HF;have hv0:0<v.size:=by have:=hk.2;omega
  have HS:=hide (cstore h hm hp ht v hv0 hv hX);have HC:=hide (fun(n:Nat) (Y:World)=>clong k v.size n Y hk.2);have HK:=hide (show okK k∧¬2+k.size+v.size≤240∧v.size≤3000 from⟨hk,hf,hv⟩);clear h ht hX hk hf hf';go_enter Tryz.func98,Tryz.ntmps98;go_wp2_with fail
  refine(HF.out _).mono ?_;rintro e w1⟨rfl,hw⟩;rw[hw];clear hw;go_wp2_with fail
  refine HS.out.mono ?_;rintro e w2⟨n,rfl,V2,ps,A2,fl2,pg2,y1,y2,y3,y4,y5,y6⟩;have HY:=hide (show ps.headD 0=n∧TS w2 B D Gp V2 K pk (m+9) A2 fl2 pg2∧St2 w w2 B V V2∧StoR A ps (piecesV v) A2∧Hold fl2 pg2 (ps++X)∧pg2≤pages+3 from⟨y1,y2,y3,y4,y5,y6⟩);clear y1 y2 y3 y4 y5 y6 HS;go_wp2_with fail
  refine(HC.out _ _).mono ?_;rintro e w3⟨rfl,hb3⟩;have HP:Hid (entPost w B D Gp V K pk m A pages k v X (longB k v.size n) w3):=by
   obtain⟨y1,y2,y3,y4,y5,y6⟩:=HY.out;have hpl:ps.length=cutsN v:=by rw[y4.len,piece_len]
   have hps:¬ps=[]:=fun e=>by rw[e] at hpl;unfold cutsN at hpl;simp at hpl;have:=HK.out;omega
   refine⟨⟨k,v,ps⟩,V2,A2,fl2,pg2,rfl,rfl,⟨HK.out.1,HK.out.2.2,?_⟩,?_,(y2.below hb3).1,y3.trans (y2.below hb3).2,y5,y4.rep,y4.same,y6⟩
   ·show ps.length=_;rw[if_neg HK.out.2.1,hpl];rfl
   ·unfold cellI;cases ps with
    | nil=>exact absurd rfl hps
    | cons p r=>rw[←y1];rfl
  clear HY hb3;go_wp2;go_ret;exact⟨_,rfl,HP.out⟩
end
section
variable {pk:Nat}
theorem cjoinRM (h:TS w B D Gp V K pk m A fl pages)(hm:m≤36000)(ht:TB w tb Gp root)(l:List ByteArray)(kd:Nat)(hkd:kd=1∨kd=2)(hp:NDb w b0 b1 p0 v0)(htk:v0.taken=0)(hl0:0<v0.cells.length∧v0.cells.length≤1000)(hc0:kS (tx v0.cells 0)≤(tx v0.cells 0).size∧(tx v0.cells 0).size≤240)(hkz:(keyB (tx v0.cells 0)).size≤200)(hn:NRs w pn vn)(hbn:b1≤pn)(hch:∀Y:World,TS Y B D Gp V K pk m A fl pages→TB Y tb Gp root→NDb Y b0 b1 p0 v0→Calls Tryz.prog 103 #[(.pointer (some ⟨tb,0,none⟩)),(.pointer (some ⟨p0,0,none⟩)),.int .i64 1] Y fun e w'=>∃(V':PV) (q:Nat),e=.returned (.pointer (some ⟨q,0,none⟩))∧TS w' B D Gp V' K pk m A fl pages∧St2 Y w' B V V'∧ND w' Y.heap.size q vs∧Y.heap.size≤q)(hkn:vn.kind=kd)(hks:vs.kind=kd)(hn0:vn.cells.length≤400)(hs0:0<vs.cells.length∧vs.cells.length≤400)(hl:withL kd vn.cells (keyB (tx v0.cells 0)) vs.link vs.cells=l)(hu:usedC l≤1012)(hok:okP ⟨kd,(if kd=1 then vs.link else vn.link),l⟩)(hn1:0<vn.num∧vn.num<pages∧¬vn.num∈fl)(hn2:0<vs.num∧vs.num<pages∧¬vs.num∈fl):Calls Tryz.prog 157 #[(.pointer (some ⟨tb,0,none⟩)),(.pointer (some ⟨p0,0,none⟩)),(.pointer (some ⟨pn,0,none⟩))] w fun e w'=>e=.returned (.tuple #[])∧∃V',TS w' B D Gp V' K pk (m+3) (updA (updA (updA A vn.num ⟨kd,(if kd=1 then vs.link else vn.link),l⟩) vs.num ⟨3,fl.headD 0,[]⟩) 0 ⟨4,vs.num,[]⟩) (vs.num::fl) pages∧TF b0 B w w' V V'∧NDb w' b0 w'.heap.size p0 { v0 with cells:=v0.cells.eraseIdx 0 }∧NRs w' p0 { v0 with cells:=v0.cells.eraseIdx 0 }:=by
 rcases hkd with rfl|rfl
 ·exact cjoinR1M h hm ht l hp htk hl0 hc0 hkz hn hbn hch hkn hks hn0 hs0 hl hu hok hn1 hn2
 ·exact cjoinR2M h hm ht l hp htk hl0 hc0 hkz hn hbn hch hkn hks hn0 hs0 hl hu hok hn1 hn2
theorem cjoinRS (h:TS w B D Gp V K pk m A fl pages)(hm:m≤36000)(ht:TB w tb Gp root)(l:List ByteArray)(kd:Nat)(hkd:kd=1∨kd=2)(hp:NDb w b0 b1 p0 v0)(htk:v0.taken=0)(hl0:0<v0.cells.length∧v0.cells.length≤1000)(hc0:kS (tx v0.cells 0)≤(tx v0.cells 0).size∧(tx v0.cells 0).size≤240)(hkz:(keyB (tx v0.cells 0)).size≤200)(hn:NRs w pn vn)(hbn:b1≤pn)(hch:∀Y:World,TS Y B D Gp V K pk m A fl pages→TB Y tb Gp root→NDb Y b0 b1 p0 v0→Calls Tryz.prog 103 #[(.pointer (some ⟨tb,0,none⟩)),(.pointer (some ⟨p0,0,none⟩)),.int .i64 1] Y fun e w'=>∃(V':PV) (q:Nat),e=.returned (.pointer (some ⟨q,0,none⟩))∧TS w' B D Gp V' K pk m A fl pages∧St2 Y w' B V V'∧ND w' Y.heap.size q vs∧Y.heap.size≤q)(hkn:vn.kind=kd)(hks:vs.kind=kd)(hn0:vn.cells.length≤400)(hs0:0<vs.cells.length∧vs.cells.length≤400)(hl:withL kd vn.cells (keyB (tx v0.cells 0)) vs.link vs.cells=l)(hu:1012<usedC l)(hu2:usedC l≤100000)(hok:okP (shrL kd vn.link l)∧okP (shrR kd vs.link l)∧ShrOk kd l)(hkm:(keyB (tx l (midC l))).size≤200)(hn1:0<vn.num∧vn.num<pages∧¬vn.num∈fl)(hn2:0<vs.num∧vs.num<pages∧¬vs.num∈fl):Calls Tryz.prog 157 #[(.pointer (some ⟨tb,0,none⟩)),(.pointer (some ⟨p0,0,none⟩)),(.pointer (some ⟨pn,0,none⟩))] w fun e w'=>e=.returned (.tuple #[])∧∃V',TS w' B D Gp V' K pk (m+2) (updA (updA A vn.num (shrL kd vn.link l)) vs.num (shrR kd vs.link l)) fl pages∧TF b0 B w w' V V'∧NDb w' b0 w'.heap.size p0 { v0 with cells:=v0.cells.set 0 (childB (keyB (tx l (midC l))) vs.num)}:=by
 rcases hkd with rfl|rfl
 ·exact cjoinR1S h hm ht l hp htk hl0 hc0 hkz hn hbn hch hkn hks hn0 hs0 hl hu hu2 hok hkm hn1 hn2
 ·exact cjoinR2S h hm ht l hp htk hl0 hc0 hkz hn hbn hch hkn hks hn0 hs0 hl hu hu2 hok hkm hn1 hn2
theorem cjoinLM (h:TS w B D Gp V K pk m A fl pages)(hm:m≤36000)(ht:TB w tb Gp root)(l:List ByteArray)(t:Nat)(kd:Nat)(hkd:kd=1∨kd=2)(hp:NDb w b0 b1 p0 v0)(htk:v0.taken=(t+1))(hl0:t<v0.cells.length∧v0.cells.length≤1000)(hc0:kS (tx v0.cells t)≤(tx v0.cells t).size∧(tx v0.cells t).size≤240)(hkz:(keyB (tx v0.cells t)).size≤200)(hn:NRs w pn vn)(hbn:b1≤pn)(hch:∀Y:World,TS Y B D Gp V K pk m A fl pages→TB Y tb Gp root→NDb Y b0 b1 p0 v0→Calls Tryz.prog 103 #[(.pointer (some ⟨tb,0,none⟩)),(.pointer (some ⟨p0,0,none⟩)),.int .i64 (t:Int)] Y fun e w'=>∃(V':PV) (q:Nat),e=.returned (.pointer (some ⟨q,0,none⟩))∧TS w' B D Gp V' K pk m A fl pages∧St2 Y w' B V V'∧ND w' Y.heap.size q vs∧Y.heap.size≤q)(hkn:vn.kind=kd)(hks:vs.kind=kd)(hn0:vn.cells.length≤400)(hs0:0<vs.cells.length∧vs.cells.length≤400)(hl:withL kd vs.cells (keyB (tx v0.cells t)) vn.link vn.cells=l)(hu:usedC l≤1012)(hok:okP ⟨kd,(if kd=1 then vn.link else vs.link),l⟩)(hn1:0<vs.num∧vs.num<pages∧¬vs.num∈fl)(hn2:0<vn.num∧vn.num<pages∧¬vn.num∈fl):Calls Tryz.prog 157 #[(.pointer (some ⟨tb,0,none⟩)),(.pointer (some ⟨p0,0,none⟩)),(.pointer (some ⟨pn,0,none⟩))] w fun e w'=>e=.returned (.tuple #[])∧∃V',TS w' B D Gp V' K pk (m+3) (updA (updA (updA A vs.num ⟨kd,(if kd=1 then vn.link else vs.link),l⟩) vn.num ⟨3,fl.headD 0,[]⟩) 0 ⟨4,vn.num,[]⟩) (vn.num::fl) pages∧TF b0 B w w' V V'∧NDb w' b0 w'.heap.size p0 { v0 with cells:=v0.cells.eraseIdx t }∧NRs w' p0 { v0 with cells:=v0.cells.eraseIdx t }:=by
 rcases hkd with rfl|rfl
 ·exact cjoinL1M h hm ht l t hp htk hl0 hc0 hkz hn hbn hch hkn hks hn0 hs0 hl hu hok hn1 hn2
 ·exact cjoinL2M h hm ht l t hp htk hl0 hc0 hkz hn hbn hch hkn hks hn0 hs0 hl hu hok hn1 hn2
theorem cjoinLS (h:TS w B D Gp V K pk m A fl pages)(hm:m≤36000)(ht:TB w tb Gp root)(l:List ByteArray)(t:Nat)(kd:Nat)(hkd:kd=1∨kd=2)(hp:NDb w b0 b1 p0 v0)(htk:v0.taken=(t+1))(hl0:t<v0.cells.length∧v0.cells.length≤1000)(hc0:kS (tx v0.cells t)≤(tx v0.cells t).size∧(tx v0.cells t).size≤240)(hkz:(keyB (tx v0.cells t)).size≤200)(hn:NRs w pn vn)(hbn:b1≤pn)(hch:∀Y:World,TS Y B D Gp V K pk m A fl pages→TB Y tb Gp root→NDb Y b0 b1 p0 v0→Calls Tryz.prog 103 #[(.pointer (some ⟨tb,0,none⟩)),(.pointer (some ⟨p0,0,none⟩)),.int .i64 (t:Int)] Y fun e w'=>∃(V':PV) (q:Nat),e=.returned (.pointer (some ⟨q,0,none⟩))∧TS w' B D Gp V' K pk m A fl pages∧St2 Y w' B V V'∧ND w' Y.heap.size q vs∧Y.heap.size≤q)(hkn:vn.kind=kd)(hks:vs.kind=kd)(hn0:vn.cells.length≤400)(hs0:0<vs.cells.length∧vs.cells.length≤400)(hl:withL kd vs.cells (keyB (tx v0.cells t)) vn.link vn.cells=l)(hu:1012<usedC l)(hu2:usedC l≤100000)(hok:okP (shrL kd vs.link l)∧okP (shrR kd vn.link l)∧ShrOk kd l)(hkm:(keyB (tx l (midC l))).size≤200)(hn1:0<vs.num∧vs.num<pages∧¬vs.num∈fl)(hn2:0<vn.num∧vn.num<pages∧¬vn.num∈fl):Calls Tryz.prog 157 #[(.pointer (some ⟨tb,0,none⟩)),(.pointer (some ⟨p0,0,none⟩)),(.pointer (some ⟨pn,0,none⟩))] w fun e w'=>e=.returned (.tuple #[])∧∃V',TS w' B D Gp V' K pk (m+2) (updA (updA A vs.num (shrL kd vs.link l)) vn.num (shrR kd vn.link l)) fl pages∧TF b0 B w w' V V'∧NDb w' b0 w'.heap.size p0 { v0 with cells:=v0.cells.set t (childB (keyB (tx l (midC l))) vn.num)}:=by
 rcases hkd with rfl|rfl
 ·exact cjoinL1S h hm ht l t hp htk hl0 hc0 hkz hn hbn hch hkn hks hn0 hs0 hl hu hu2 hok hkm hn1 hn2
 ·exact cjoinL2S h hm ht l t hp htk hl0 hc0 hkz hn hbn hch hkn hks hn0 hs0 hl hu hu2 hok hkm hn1 hn2
end
theorem tx_map {α:Type}(f:α→ByteArray){l:List α}{i:Nat}(h:i<l.length):tx (l.map f) i=f l[i]:=by
 rw[tx_get (by simpa using h),List.getElem_map]
def smallK:(d:Nat)→T d→Prop
 | 0,_=>True
 | d+1,x=>∀p∈x.kids,numT d p.2<60000
theorem small_of {x:T d}(h:∀q∈(nodT d x).tail,q.1<60000):smallK d x:=by
 cases d with
 | zero=>trivial
 | succ d =>
  intro p hp;refine h (numT d p.2,pgT d p.2) ?_;rw[nodT_s];simp only[nodS,List.mem_flatMap];exact⟨p,hp,by rw[nodT_eq];simp⟩
theorem kind_cases (d:Nat):(d=0∧kindT d=1)∨(0<d∧kindT d=2):=by
 cases d with
 | zero=>exact .inl ⟨rfl,rfl⟩
 | succ d=>exact .inr ⟨by omega,rfl⟩
theorem kdn (d:Nat):¬kindT (d+1)=1:=by show ¬2=1;decide
theorem spl_pg (d m r:Nat)(x:T d){lo:ByteArray}(hb:Bnd d lo hi x)(hm:m<(cellsT d x).length)(hn:smallK d x):pgT d (splT d m r x).1=⟨kindT d,if kindT d=1 then r else linkT d x,(cellsT d x).take m⟩∧pgT d (splT d m r x).2.2=(if kindT d=1 then⟨1,linkT d x,(cellsT d x).drop m⟩ else⟨2,numB (tx (cellsT d x) m) ((tx (cellsT d x) m).size-4),(cellsT d x).drop (m+1)⟩)∧(splT d m r x).2.1=keyB (tx (cellsT d x) m)∧okK (keyB (tx (cellsT d x) m))∧kS (tx (cellsT d x) m)≤(tx (cellsT d x) m).size∧(kindT d=2→4≤(tx (cellsT d x) m).size):=by
 obtain⟨c1,c2⟩:=cells_spl d m r x;have kd0:kindT 0=1:=rfl;cases d with
 | zero =>
  have hl:m<x.its.length:=by simpa[cellsT] using hm
  have hi':=(BI_mem hb x.its[m] (List.getElem_mem hl)).1;have ht:tx (cellsT 0 x) m=cellI x.its[m]:=tx_map cellI hl;obtain⟨k1,k2,-,-⟩:=cellI_key hi';rw[ht];refine⟨?_,?_,?_,by rw[k1];exact hi'.key,k2,fun h=>by cases h⟩
  ·show(⟨1,r,cellsT 0 (splT 0 m r x).1⟩:PgV)=_;rw[c1,kd0,if_pos rfl]
  ·show(⟨1,x.link,cellsT 0 (splT 0 m r x).2.2⟩:PgV)=_;rw[c2,kd0,if_pos rfl];rfl
  ·rw[k1];show(((x.its.drop m).head?).map (·.key)).getD _=_;rw[List.drop_eq_getElem_cons hl];rfl
 | succ d =>
  obtain⟨⟨p,s,e,hp⟩,hbs⟩:=hb;have hl:m<s.length:=by simpa[cellsT,e] using hm
  have hcx:cellsT (d+1) x=s.map fun p=>childB p.1 (numT d p.2):=by simp[cellsT,e]
  have ht:tx (cellsT (d+1) x) m=childB s[m].1 (numT d s[m].2):=by rw[hcx];exact tx_map (fun p:ByteArray×T d=>childB p.1 (numT d p.2)) hl
  rw[e] at hbs;have hok:okK s[m].1:=hbs.2.2.1 s[m] (List.getElem_mem hl);have hnum:numT d s[m].2<4294967296:=by have:=hn s[m] (by rw[e];exact List.mem_cons_of_mem _ (List.getElem_mem hl));omega
  obtain⟨k1,k2,-,-⟩:=childB_key hok (numT d s[m].2);have hd:x.kids.drop (m+1)=s[m]::s.drop (m+1):=by rw[e,List.drop_succ_cons,List.drop_eq_getElem_cons hl]
  rw[ht];refine⟨?_,?_,?_,by rw[k1];exact hok,k2,fun _=>by rw[childB_sz];omega⟩
  ·show(⟨2,linkT (d+1) (splT (d+1) m r x).1,cellsT (d+1) (splT (d+1) m r x).1⟩:PgV)=_;rw[c1,if_neg (show ¬kindT (d+1)=1 from kdn d)];simp only[linkT,splT,e,List.take_succ_cons];rfl
  ·show(⟨2,linkT (d+1) (splT (d+1) m r x).2.2,cellsT (d+1) (splT (d+1) m r x).2.2⟩:PgV)=_;rw[c2,if_neg (show ¬kindT (d+1)=1 from kdn d),num_child _ hnum];simp only[linkT,splT,hd];rfl
  ·rw[k1];show(((x.kids.drop (m+1)).head?).map (·.1)).getD _=_;rw[hd];rfl
section
variable {s1 s2:List (ByteArray×T d)}{x:T d}
def cellK (p:ByteArray×T d):ByteArray:=childB p.1 (numT d p.2)
theorem cells_kids (n:Nat)(l:List (ByteArray×T d)):cellsT (d+1) (⟨n,l⟩:Inn (T d))=l.tail.map cellK:=rfl
theorem cells_frm:cellsT (d+1) (frm num s1 k x s2)=(s1++(k,x)::s2).tail.map cellK:=rfl
theorem link_frm {a:T d}{m:List (ByteArray×T d)}(ha:numT d a=numT d x):linkT (d+1) (⟨num,s1++(k,a)::m⟩:Inn (T d))=linkT (d+1) (frm num s1 k x s2):=by
 cases s1 with
 | nil=>exact ha
 | cons p r=>rfl
theorem insL_mid (a b:List ByteArray)(x c:ByteArray):insL (a++x::b) (a.length+1) c=a++x::c::b:=by
 unfold insL;rw[show a++x::b=(a++[x])++b by simp,List.take_left' (by simp),List.drop_left' (by simp)];simp
theorem cells_ins {a b:T d}(ha:numT d a=numT d x):cellsT (d+1) (⟨num,s1++[(k,a),(kb,b)]++s2⟩:Inn (T d))=insL (cellsT (d+1) (frm num s1 k x s2)) s1.length (childB kb (numT d b)):=by
 rw[cells_kids,cells_frm];cases s1 with
 | nil=>simp[insL,cellK]
 | cons p r =>
  have:=insL_mid (r.map cellK) (s2.map cellK) (childB k (numT d x)) (childB kb (numT d b));rw[List.length_map] at this;simp only[List.cons_append,List.append_assoc,List.tail_cons,List.map_append,List.map_cons,List.nil_append,List.length_cons];show _=insL (List.map cellK r++childB k (numT d x)::List.map cellK s2) (r.length+1) _;rw[this];show _++childB k (numT d a)::_=_;rw[ha];rfl
theorem cells_delL {a c:T d}{t1:List (ByteArray×T d)}(hc:numT d c=numT d a):cellsT (d+1) (⟨num,t1++[(ka,c)]++s2⟩:Inn (T d))=(cellsT (d+1) (frm num (t1++[(ka,a)]) k x s2)).eraseIdx t1.length:=by
 rw[cells_kids,cells_frm];cases t1 with
 | nil=>simp
 | cons p r =>
  simp only[List.cons_append,List.append_assoc,List.tail_cons,List.map_append,List.map_cons,List.nil_append,List.length_cons];rw[List.eraseIdx_append_of_length_le (by simp)];simp[cellK,hc]
theorem cells_delR {b c:T d}{t2:List (ByteArray×T d)}:cellsT (d+1) (⟨num,[]++[(k,c)]++t2⟩:Inn (T d))=(cellsT (d+1) (frm num [] k x ((kb,b)::t2))).eraseIdx 0:=by
 rw[cells_kids,cells_frm];simp
theorem cells_setL {a l r:T d}{t1:List (ByteArray×T d)}(hl:numT d l=numT d a)(hr:numT d r=numT d x):cellsT (d+1) (⟨num,t1++[(ka,l),(kr,r)]++s2⟩:Inn (T d))=(cellsT (d+1) (frm num (t1++[(ka,a)]) k x s2)).set t1.length (childB kr (numT d x)):=by
 rw[cells_kids,cells_frm];cases t1 with
 | nil=>simp[cellK,hr]
 | cons p q =>
  simp only[List.cons_append,List.append_assoc,List.tail_cons,List.map_append,List.map_cons,List.nil_append,List.length_cons];rw[List.set_append_right _ _ (by simp)];simp[cellK,hl,hr]
theorem cells_setR {b l r:T d}{t2:List (ByteArray×T d)}(hr:numT d r=numT d b):cellsT (d+1) (⟨num,[]++[(k,l),(kr,r)]++t2⟩:Inn (T d))=(cellsT (d+1) (frm num [] k x ((kb,b)::t2))).set 0 (childB kr (numT d b)):=by
 rw[cells_kids,cells_frm];simp[cellK,hr]
end
theorem with_eq (d:Nat)(a b:T d)(hb:BS (Bnd d) [(ka,a),(kb,b)] hi):withL (kindT d) (cellsT d a) kb (linkT d b) (cellsT d b)=cellsT d (mrgT d a b):=by
 cases d with
 | zero=>rw[cells_mrg0];rfl
 | succ d =>
  obtain⟨-,⟨⟨p,r,e,-⟩,-⟩,-,-,⟨⟨q,t,e',hq⟩,-⟩,-⟩:=hb;rw[cells_mrg1 a b (by rw[e];simp) ⟨q,t,e',hq⟩];rfl
theorem link_mrg (d:Nat)(a b:T d)(hb:BS (Bnd d) [(ka,a),(kb,b)] hi):linkT d (mrgT d a b)=if kindT d=1 then linkT d b else linkT d a:=by
 cases d with
 | zero=>rfl
 | succ d =>
  obtain⟨-,⟨⟨p,r,e,-⟩,-⟩,-⟩:=hb;rw[if_neg (kdn d)];simp only[linkT,mrgT];have e:a.kids=p::r:=e;rw[e];rfl
theorem used_mrg (d:Nat)(a b:T d)(hb:BS (Bnd d) [(ka,a),(kb,b)] hi):usedC (cellsT d a)+usedC (cellsT d b)≤usedC (cellsT d (mrgT d a b))∧usedC (cellsT d (mrgT d a b))≤usedC (cellsT d a)+usedC (cellsT d b)+209:=by
 rw[←with_eq d a b hb];obtain⟨-,-,hok,-⟩:=hb;have hk:=(hok (kb,b) (by simp)).2;unfold withL;split
 ·rw[usedC_app];omega
 ·rw[usedC_app,usedC_cons,childB_sz];have:kb.size≤200:=hk;omega
theorem small_mrg (d:Nat)(a b:T d)(ha:smallK d a)(hb:smallK d b):smallK d (mrgT d a b):=by
 cases d with
 | zero=>trivial
 | succ d=>exact fun p hp=>(List.mem_append.1 hp).elim (ha p) (hb p)
theorem Sx.alloc {c:Cx d}{x:T d}(h:Sx A fl pages os c x es)(k:AllR A fl pages n A' fl' pages'):Sx A' fl' pages' (n::os) c x es:=by
 have hp:=k.perm _ h.perm;refine⟨h.wf,fun p hp'=>?_,?_⟩
 ·have hne:=h.ne hp';have hn:¬p.1=n:=fun e=>by
   have hnd:(0::(fl'++(n::(numT d x::((restN c x).map (·.1)++os))))).Nodup:=hp.nodup_iff.2 List.nodup_range;simp only[List.nodup_cons,List.nodup_append] at hnd;exact hnd.2.2.1.1 (by rw[←e];simp only[List.mem_cons,List.mem_append];exact .inr (.inl (List.mem_map_of_mem hp')))
  rw[k.same _ hne.2.1 hn];exact h.rep p hp'
 ·refine List.Perm.trans (List.Perm.cons _ (List.Perm.append_left _ ?_)) hp;refine(List.Perm.trans ?_ (List.Perm.swap _ _ _));exact List.Perm.cons _ List.perm_middle
theorem Sx.free {c:Cx d}{x:T d}{v u:PgV}(h:Sx A fl pages (n::os) c x es):Sx (updA (updA A n v) 0 u) (n::fl) pages os c x es:=by
 refine⟨h.wf,fun p hp'=>?_,?_⟩
 ·have hne:=h.ne hp';rw[updA_ne _ _ hne.2.1,updA_ne _ _ (hne.2.2.1 n (by simp))];exact h.rep p hp'
 ·refine List.Perm.trans (List.Perm.cons _ ?_) h.perm;show(n::(fl++(numT d x::((restN c x).map (·.1)++os)))).Perm (fl++(numT d x::((restN c x).map (·.1)++n::os)));refine List.Perm.trans List.perm_middle.symm (List.Perm.append_left _ ?_);refine List.Perm.trans (List.Perm.swap _ _ _) (List.Perm.cons _ List.perm_middle.symm)
theorem Sx.small {c:Cx d}{x:T d}(h:Sx A fl pages os c x es)(hp:pages≤59000):smallK d x:=small_of fun q hq=>by
 have:=(h.ne (p:=q) (by unfold restN;exact List.mem_append_left _ hq)).2.2.2.2;omega
theorem Sx.ownX {c:Cx d}{x:T d}(h:Sx A fl pages os c x es):0<numT d x∧numT d x<pages∧¬numT d x∈fl:=by
 refine⟨h.own.2,h.own.1,fun e=>?_⟩;have:=h.nd;simp only[List.nodup_cons,List.nodup_append] at this;exact this.2.2.2 _ e _ (by simp) rfl
theorem used_len4 {l:List ByteArray}:4*l.length≤usedC l:=by
 induction l with
 | nil=>simp
 | cons a l ih=>rw[usedC_cons,List.length_cons];omega
theorem link_small {y:T (d+1)}(h:smallK (d+1) y):linkT (d+1) y≤2147483647:=by
 simp only[linkT];split
 ·exact Nat.zero_le _
 ·rename_i p r hq
  have:=h p (by rw[hq];simp);omega
structure Stl (w:World) (A:Nat→PgV) (fl:List Nat) (pages:Nat) (os:List Nat) (es:List Ent) (root:Nat) {d:Nat} (c:Cx d) (x:T d) (l:List PN):Prop where
 sx:Sx A fl pages os c x es
 fk:FilK d x
 us:usedC (cellsT d x)≤1300
 two:c.two
 rt:c.root (numT d x)=root
 lks:linkT d x≤2147483647
 pm:PM w l w.heap.size
 vs:∃tk,l.map (·.v)=c.nvs (numT d x)++[nvT d x c.lo c.hi tk]
 nn:∀z∈l.getLast?,NRs w z.p z.v
section
variable {pk:Nat}
theorem nvs_up {s1 s2:List (ByteArray×T d)}{c:Cx (d+1)}{x:T d}:(Cx.up num s1 k s2 c).nvs (numT d x)=c.nvs num++[nvT (d+1) (frm num s1 k x s2) c.lo c.hi s1.length]:=by
 show c.nvs num++[_]=_;unfold nvT;rw[frP_eq num];rfl
theorem Stl.lastTwo {s1 s2:List (ByteArray×T d)}{c:Cx (d+1)}{x:T d}{l:List PN}(h:Stl w A fl pages os es rt (.up num s1 k s2 c) x l):∃l0 y z tk,l=l0++[y,z]∧y.v=nvT (d+1) (frm num s1 k x s2) c.lo c.hi s1.length∧z.v=nvT d x k (nxt s2 c.hi) tk∧l0.map (·.v)=c.nvs num∧PM w l0 y.b∧NDb w y.b z.b y.p y.v∧NDb w z.b w.heap.size z.p z.v∧NRs w z.p z.v:=by
 obtain⟨tk,hv⟩:=h.vs;rw[nvs_up] at hv;rw[List.append_assoc] at hv;obtain⟨l0,l1,e,h0,h1⟩:=List.map_eq_append_iff.1 hv;obtain⟨y,l2,e2,hy,h2⟩:=List.map_eq_cons_iff.1 h1;obtain⟨z,l3,e3,hz,h3⟩:=List.map_eq_cons_iff.1 h2;have h3:l3=[]:=by simpa using h3
 subst h3 e3 e2 e;have hpm:=PM.app.1 h.pm;exact⟨l0,y,z,tk,rfl,hy,hz,h0,hpm.1,hpm.2.1,hpm.2.2.1,h.nn z (by simp)⟩
theorem Stl.split {s1 s2:List (ByteArray×T d)}{c:Cx (d+1)}{x:T d}(h:TS w B D Gp V K pk m A fl pages)(hm:m≤36000)(hpg:pages<58000)(ht:TB w tb Gp root)(hS:Stl w A fl pages os es rt (.up num s1 k s2 c) x (l0++[y,z]))(hu:1012<usedC (cellsT d x)):Calls Tryz.prog 156 #[(.pointer (some ⟨tb,0,none⟩)),(.pointer (some ⟨y.p,0,none⟩)),(.pointer (some ⟨z.p,0,none⟩))] w fun e w'=>e=.returned (.tuple #[])∧∃(V':PV) (A':Nat→PgV) (fl':List Nat) (pages':Nat) (x':T (d+1)) (y':PN),TS w' B D Gp V' K pk (m+4) A' fl' pages'∧TF y.b B w w' V V'∧Stl w' A' fl' pages' os es rt c x' (l0++[y'])∧y'.p=y.p∧y'.b=y.b∧pages'≤pages+1:=by
 obtain⟨l0',y',z',tk,e,hy,hz,hl0,hpm,hny,hnz,hrs⟩:=hS.lastTwo;have e':=List.append_inj' e rfl;obtain⟨rfl,e2⟩:=e';injection e2 with e2 e3;injection e3 with e3 _;subst e2 e3;have hsx:=hS.sx;have hsm:=h.flsmall.2;have hwf:=hsx.wf;have hsz:=hwf.sz;have hbx:Bnd d k (nxt s2 c.hi) x:=hwf.at;have hsml:smallK d x:=hsx.small hsm;obtain⟨a1,a2,a3,a4,a5⟩:=mid_ok hsz hu (by have:=hS.us;omega);have hfs:=fun r=>fil_spl d r x hsz hS.fk hu (by have:=hS.us;omega)
 have hsp:=fun r=>spl_pg d (midC (cellsT d x)) r x hbx a2 hsml
 have hlen:(cellsT d x).length≤400:=by have:=used_len4 (l:=cellsT d x);have:=hS.us;omega
 have hmid:midC (cellsT d x)+(kindT d-1)<(cellsT d x).length:=by
  rcases kind_cases d with⟨_,e⟩|⟨_,e⟩
  ·rw[e];exact a2
  ·rw[e];rcases Nat.lt_or_ge (midC (cellsT d x)+1) (cellsT d x).length with q | q
   ·exact q
   ·rw[List.drop_eq_nil_of_le q] at a5;simp[usedC] at a5
 have hnum:(cellsT (d+1) (frm num s1 k x s2)).length≤1000:=used_few (by rw[←fr_used (num:=num) x];exact hwf.fil.2.2.1.2);obtain⟨s,nb,ho,hzb,hzt,hzg⟩:=hnz;rw[hz] at nb ho;obtain⟨g,cap,cur,rfl,hbg,hg,hc1,hc2,hc3,hc4,hc5⟩:=own_cur (n:=(cellsT d x).length) ho (by omega);have hst:StB w (some ⟨g,0,none⟩) (cellsT d x):=by
  obtain⟨a,c',e,st,-⟩:=StB.own (l:=cellsT d x) ho;injection e with e _ _;rw[e];exact st
 have hown:=hsx.ownX;have hlk:∀n,n≤60000→okP (shrL (kindT d) (if kindT d=1 then n else linkT d x) (cellsT d x)):=fun n hn=>by
  refine⟨?_,?_,a3.2⟩
  ·show 1≤kindT d∧kindT d≤5;rcases kind_cases d with⟨_,e⟩ | ⟨_,e⟩<;>rw[e]<;>omega
  ·show(if kindT d=1 then n else linkT d x)≤_;have:=hS.lks;split<;>omega
 have hpr:=hsp 0;have hrp:okP (shrR (kindT d) (linkT d x) (cellsT d x)):=by
  unfold shrR;split
  ·exact⟨by show 1≤1∧1≤5;omega,hS.lks,a4.2⟩
  ·refine⟨by show 1≤2∧2≤5;omega,?_,a5.2⟩;have q:=hpr.2.1
   rename_i hk1
   rw[if_neg hk1] at q;have q2:linkT d (splT d (midC (cellsT d x)) 0 x).2.2=numB (tx (cellsT d x) (midC (cellsT d x))) ((tx (cellsT d x) (midC (cellsT d x))).size-4):=congrArg PgV.link q;show numB _ _≤_;rw[←q2];rcases kind_cases d with⟨_,e⟩ | ⟨hd,_⟩
   ·exact absurd e hk1
   ·obtain⟨d',rfl⟩:∃d',d=d'+1:=⟨d-1,by omega⟩;show linkT (d'+1) (splT (d'+1) _ 0 x).2.2≤_;simp only[linkT,splT];split
    ·exact Nat.zero_le _
    ·rename_i p r hq
     have hmem:p∈x.kids:=List.mem_of_mem_drop (i:=midC (cellsT (d'+1) x)+1) (by rw[hq];simp);have:=hsml p hmem;omega
 have hXp:(0::(fl++(numT d x::((restN (.up num s1 k s2 c) x).map (·.1)++os)))).Perm (List.range pages):=hsx.perm;rw[hy] at hny;have hC:=csplit h hm hpg ht hny (by show s1.length≤(cellsT (d+1) (frm num s1 k x s2)).length;rw[frm_len];omega) hnum nb hzb hst hc1 (kindT d) (by rcases kind_cases d with⟨_,e⟩ | ⟨_,e⟩<;>rw[e]<;>simp) rfl
  ⟨by omega,by have:=hS.us;omega,hmid,hpr.2.2.2.2.2,hpr.2.2.2.2.1,hsz _ (by rw[tx_get a2];exact List.getElem_mem a2)⟩ hlk hrp hXp (by show numT d x∈_;simp) hpr.2.2.2.1.2
 refine hC.mono ?_;rintro e w'⟨rfl,V',n,A1,fl1,pages1,k1,k2,k3,k4⟩;have hn60:n≤60000:=by have:=k1.pos;have:=k1.pgs;omega
 obtain⟨q1,q2,q3,q4,-⟩:=hsp n;have hs1:=(hsx.alloc k1).split (midC (cellsT d x)) ⟨a1,a2⟩;have hnums:=spl_num d (midC (cellsT d x)) n x;have e1:pgT d (splT d (midC (cellsT d x)) n x).1=shrL (kindT d) (if kindT d=1 then n else linkT d x) (cellsT d x):=q1;have e2:pgT d (splT d (midC (cellsT d x)) n x).2.2=shrR (kindT d) (linkT d x) (cellsT d x):=by
  rw[q2];unfold shrR;rfl
 rw[e1,e2] at hs1;refine⟨rfl,V',_,fl1,pages1,(⟨num,s1++[(k,(splT d (midC (cellsT d x)) n x).1),((splT d (midC (cellsT d x)) n x).2.1,(splT d (midC (cellsT d x)) n x).2.2)]++s2⟩:Inn (T d)),⟨y.b,y.p,nvT (d+1) (⟨num,s1++[(k,(splT d (midC (cellsT d x)) n x).1),((splT d (midC (cellsT d x)) n x).2.1,(splT d (midC (cellsT d x)) n x).2.2)]++s2⟩:Inn (T d)) c.lo c.hi s1.length⟩,k2,k3,?_,rfl,rfl,k1.pgs.2⟩;have hcells:=cells_ins (num:=num) (s1:=s1) (s2:=s2) (k:=k) (kb:=(splT d (midC (cellsT d x)) n x).2.1) (b:=(splT d (midC (cellsT d x)) n x).2.2) hnums.1;rw[hnums.2,q3] at hcells;have hlink:linkT (d+1) (⟨num,s1++[(k,(splT d (midC (cellsT d x)) n x).1),((splT d (midC (cellsT d x)) n x).2.1,(splT d (midC (cellsT d x)) n x).2.2)]++s2⟩:Inn (T d))=linkT (d+1) (frm num s1 k x s2):=by
  have:=link_frm (num:=num) (s1:=s1) (s2:=s2) (k:=k) (a:=(splT d (midC (cellsT d x)) n x).1) (m:=((splT d (midC (cellsT d x)) n x).2.1,(splT d (midC (cellsT d x)) n x).2.2)::s2) hnums.1;simpa using this
 have hnv:nvT (d+1) (⟨num,s1++[(k,(splT d (midC (cellsT d x)) n x).1),((splT d (midC (cellsT d x)) n x).2.1,(splT d (midC (cellsT d x)) n x).2.2)]++s2⟩:Inn (T d)) c.lo c.hi s1.length={ nvT (d+1) (frm num s1 k x s2) c.lo c.hi s1.length with cells:=insL (cellsT (d+1) (frm num s1 k x s2)) s1.length (childB (keyB (tx (cellsT d x) (midC (cellsT d x)))) n)}:=by
  unfold nvT;rw[q3] at hlink ⊢;rw[hcells,hlink];rfl
 have k4:NDb w' y.b w'.heap.size y.p (nvT (d+1) (⟨num,s1++[(k,(splT d (midC (cellsT d x)) n x).1),((splT d (midC (cellsT d x)) n x).2.1,(splT d (midC (cellsT d x)) n x).2.2)]++s2⟩:Inn (T d)) c.lo c.hi s1.length):=by rw[hnv];exact k4
 have hfil:=fil2.1 hwf.fil;have hus:usedC (cellsT (d+1) (frm num s1 k x s2))≤1012:=by rw[←fr_used (num:=num) x];exact hfil.2.2.1.2
 have hks:=q4.2;refine⟨hs1,fun p hp=>?_,?_,hS.two.2,hS.rt,?_,PM.snoc (x:=⟨y.b,y.p,_⟩) (k3.pm l0 y.b (Nat.le_refl _) hpm) k4,⟨s1.length,by simp[hl0,numT]⟩,fun z hz=>?_⟩
 ·have hp:p∈s1++[(k,(splT d (midC (cellsT d x)) n x).1),((splT d (midC (cellsT d x)) n x).2.1,(splT d (midC (cellsT d x)) n x).2.2)]++s2:=hp;simp only[List.mem_append,List.mem_cons,List.not_mem_nil,or_false] at hp;rcases hp with(hp | rfl | rfl) | hp
  ·exact hfil.1 p hp
  ·exact(hfs n).1
  ·exact(hfs n).2
  ·exact hfil.2.1 p hp
 ·rw[q3];rw[hcells];unfold insL;rw[usedC_app,usedC_cons,childB_sz];have:usedC ((cellsT (d+1) (frm num s1 k x s2)).take s1.length)+usedC ((cellsT (d+1) (frm num s1 k x s2)).drop s1.length)=usedC (cellsT (d+1) (frm num s1 k x s2)):=by rw[←usedC_app,List.take_append_drop]
  omega
 ·exact link_small (hs1.small (by have:=k1.pgs;omega))
 ·rw[List.getLast?_concat] at hz;cases hz;exact(NDb.nr k4).s (by rw[hnv];show 0<(insL _ _ _).length;rw[insL_len (by rw[frm_len];omega)];omega)
end
theorem used_erase (l:List ByteArray)(i:Nat):usedC (l.eraseIdx i)≤usedC l:=by
 induction l generalizing i with
 | nil=>simp[List.eraseIdx]
 | cons a l ih =>
  cases i with
  | zero=>rw[List.eraseIdx_cons_zero,usedC_cons];omega
  | succ i=>rw[List.eraseIdx_cons_succ,usedC_cons,usedC_cons];have:=ih i;omega
theorem used_set (l:List ByteArray)(i:Nat)(c:ByteArray)(hc:c.size≤205):usedC (l.set i c)≤usedC l+209:=by
 induction l generalizing i with
 | nil=>simp
 | cons a l ih =>
  cases i with
  | zero=>rw[List.set_cons_zero,usedC_cons,usedC_cons];omega
  | succ i=>rw[List.set_cons_succ,usedC_cons,usedC_cons];have:=ih i;omega
section
variable {s1 s2 t1 t2:List (ByteArray×T d)}{c:Cx (d+1)}{x a b:T d}
theorem pair_bs (hw:WfB c (⟨num,t1++[(ka,a),(kb,b)]++t2⟩:Inn (T d)) es):∃hi,BS (Bnd d) [(ka,a),(kb,b)] hi:=by
 obtain⟨lo,hi,h1,⟨p,r,e,hp⟩,h2⟩:=hw.bnd;have h2:BS (Bnd d) (t1++[(ka,a),(kb,b)]++t2) hi:=h2;rw[List.append_assoc] at h2;have h3:=(BS_app _ _ _).1 h2;exact⟨_,((BS_app _ _ _).1 h3.2.1).1⟩
theorem join_merge (hsx:Sx A fl pages os (.up num s1 k s2 c) x es)(hp:(nodT d x++(nodS s1++nodS s2)).Perm (nodS t1++(nodT d a++nodT d b)++nodS t2))(hx:x=a∨x=b)(hw:WfB c (⟨num,t1++[(ka,a),(kb,b)]++t2⟩:Inn (T d)) es)(hk1:∀p∈t1,FilN d p.2)(hk2:∀p∈t2,FilN d p.2)(hfa:FilK d a)(hfb:FilK d b)(hlow:180≤usedC (cellsT d a)∨180≤usedC (cellsT d b))(hu:usedC (cellsT d (mrgT d a b))≤1012)(v u:PgV):Sx (updA (updA (updA A (numT d a) (pgT d (mrgT d a b))) (numT d b) v) 0 u) (numT d b::fl) pages os c (⟨num,t1++[(ka,mrgT d a b)]++t2⟩:Inn (T d)) es∧FilK (d+1) (⟨num,t1++[(ka,mrgT d a b)]++t2⟩:Inn (T d)):=by
 obtain⟨hi,hbs⟩:=pair_bs hw;have hum:=used_mrg d a b hbs;refine⟨(hsx.merge hp hx hw).free,fun p hp'=>?_⟩;have hp':p∈t1++[(ka,mrgT d a b)]++t2:=hp';simp only[List.mem_append,List.mem_cons,List.not_mem_nil,or_false] at hp';rcases hp' with(hp'|rfl)|hp'
 ·exact hk1 p hp'
 ·exact(FilN_iff d _).2 ⟨⟨by show 180≤usedC (cellsT d (mrgT d a b));omega,hu⟩,filK_mrg d a b hfa hfb⟩
 ·exact hk2 p hp'
theorem join_share (hsx:Sx A fl pages os (.up num s1 k s2 c) x es)(hp:(nodT d x++(nodS s1++nodS s2)).Perm (nodS t1++(nodT d a++nodT d b)++nodS t2))(hx:x=a∨x=b)(hw:WfB c (⟨num,t1++[(ka,a),(kb,b)]++t2⟩:Inn (T d)) es)(hk1:∀p∈t1,FilN d p.2)(hk2:∀p∈t2,FilN d p.2)(hfa:FilK d a)(hfb:FilK d b)(hu:1012<usedC (cellsT d (mrgT d a b)))(hu2:usedC (cellsT d (mrgT d a b))≤1500)(q:T d×ByteArray×T d)(hq:splT d (midC (cellsT d (mrgT d a b))) (numT d b) (mrgT d a b)=q):Sx (updA (updA A (numT d a) (pgT d q.1)) (numT d b) (pgT d q.2.2)) fl pages os c (⟨num,t1++[(ka,q.1),(q.2.1,q.2.2)]++t2⟩:Inn (T d)) es∧FilK (d+1) (⟨num,t1++[(ka,q.1),(q.2.1,q.2.2)]++t2⟩:Inn (T d)):=by
 subst hq;obtain⟨hi,hbs⟩:=pair_bs hw;have hsz:∀y∈cellsT d (mrgT d a b),y.size≤240:=cells_sz d (mrg_bnd d a b hbs).2.1;obtain⟨a1,a2,-⟩:=mid_ok hsz hu hu2;obtain⟨f1,f2⟩:=fil_spl d (numT d b) (mrgT d a b) hsz (filK_mrg d a b hfa hfb) hu hu2;refine⟨hsx.share hp hx hw _ ⟨a1,a2⟩,fun p hp'=>?_⟩;have hp':p∈t1++[(ka,(splT d (midC (cellsT d (mrgT d a b))) (numT d b) (mrgT d a b)).1),((splT d (midC (cellsT d (mrgT d a b))) (numT d b) (mrgT d a b)).2.1,(splT d (midC (cellsT d (mrgT d a b))) (numT d b) (mrgT d a b)).2.2)]++t2:=hp';simp only[List.mem_append,List.mem_cons,List.not_mem_nil,or_false] at hp';rcases hp' with(hp' | rfl | rfl) | hp'
 ·exact hk1 p hp'
 ·exact f1
 ·exact f2
 ·exact hk2 p hp'
end
section
variable {t1 t2:List (ByteArray×T d)}{c:Cx (d+1)}{a b:T d}
theorem pair_link (hw:WfB c (⟨num,t1++[(ka,a),(kb,b)]++t2⟩:Inn (T d)) es)(hd:d=0):linkT d a=numT d b:=by
 subst hd;have h:=hw.lks;rw[lvsT_s] at h;have h:lk (c.lpre++lvsS (t1++[(ka,a),(kb,b)]++t2)++c.lsuf) 0:=h;rw[lvsS_app,lvsS_app] at h;have h1:=((lk_app _ _ _).1 ((lk_app _ _ _).1 h).1).2;have h2:=((lk_app _ _ _).1 ((lk_app _ _ _).1 h1).1).2;rw[lvsS_cons,lvsS_cons,←List.append_assoc] at h2;have h3:=((lk_app _ _ _).1 h2).1;exact lvs_link h3
theorem pairP (hw:WfB c (⟨num,t1++[(ka,a),(kb,b)]++t2⟩:Inn (T d)) es)(hsa:smallK d a)(hsb:smallK d b)(hla:linkT d a≤2147483647)(hlb:linkT d b≤2147483647)(l:List ByteArray)(hl:cellsT d (mrgT d a b)=l):withL (kindT d) (cellsT d a) kb (linkT d b) (cellsT d b)=l∧pgT d (mrgT d a b)=⟨kindT d,if kindT d=1 then linkT d b else linkT d a,l⟩∧okK kb∧(usedC l≤1012→okP ⟨kindT d,if kindT d=1 then linkT d b else linkT d a,l⟩)∧(1012<usedC l→usedC l≤1500→pgT d (splT d (midC l) (numT d b) (mrgT d a b)).1=shrL (kindT d) (linkT d a) l∧pgT d (splT d (midC l) (numT d b) (mrgT d a b)).2.2=shrR (kindT d) (linkT d b) l∧(splT d (midC l) (numT d b) (mrgT d a b)).2.1=keyB (tx l (midC l))∧(okP (shrL (kindT d) (linkT d a) l)∧okP (shrR (kindT d) (linkT d b) l)∧ShrOk (kindT d) l)∧(keyB (tx l (midC l))).size≤200):=by
 subst hl;obtain⟨hi,hbs⟩:=pair_bs hw;have hkb:okK kb:=hbs.2.2.1 (kb,b) (by simp);have hlm:=link_mrg d a b hbs;have hpm:pgT d (mrgT d a b)=⟨kindT d,if kindT d=1 then linkT d b else linkT d a,cellsT d (mrgT d a b)⟩:=by
  show(⟨kindT d,linkT d (mrgT d a b),cellsT d (mrgT d a b)⟩:PgV)=_;rw[hlm]
 have hk5:1≤kindT d∧kindT d≤5:=by rcases kind_cases d with⟨_,e⟩ | ⟨_,e⟩<;>rw[e]<;>omega
 refine⟨with_eq d a b hbs,hpm,hkb,fun hu=>⟨hk5,?_,hu⟩,fun h1 h2=>?_⟩
 ·show(if kindT d=1 then linkT d b else linkT d a)≤_;split<;>assumption
 ·have hbm:=(mrg_bnd d a b hbs).2.1;have hsz:=cells_sz d hbm;obtain⟨a1,a2,a3,a4,a5⟩:=mid_ok hsz h1 h2;obtain⟨q1,q2,q3,q4,q5,q6⟩:=spl_pg d (midC (cellsT d (mrgT d a b))) (numT d b) (mrgT d a b) hbm a2 (small_mrg d a b hsa hsb);have e1:pgT d (splT d (midC (cellsT d (mrgT d a b))) (numT d b) (mrgT d a b)).1=shrL (kindT d) (linkT d a) (cellsT d (mrgT d a b)):=by
   rw[q1];unfold shrL
   congr 1
   rw[hlm];rcases kind_cases d with⟨hd,e⟩ | ⟨_,e⟩
   ·rw[e,if_pos rfl];exact(pair_link hw hd).symm
   ·rw[e,if_neg (by decide),if_neg (by decide)]
  have e2:pgT d (splT d (midC (cellsT d (mrgT d a b))) (numT d b) (mrgT d a b)).2.2=shrR (kindT d) (linkT d b) (cellsT d (mrgT d a b)):=by
   rw[q2];unfold shrR;rw[hlm];rcases kind_cases d with⟨_,e⟩ | ⟨_,e⟩
   ·rw[e,if_pos rfl,if_pos rfl,if_pos rfl]
   ·rw[e,if_neg (by decide),if_neg (by decide)]
  have hmid:midC (cellsT d (mrgT d a b))+(kindT d-1)<(cellsT d (mrgT d a b)).length:=by
   rcases kind_cases d with⟨_,e⟩|⟨_,e⟩
   ·rw[e];exact a2
   ·rw[e];rcases Nat.lt_or_ge (midC (cellsT d (mrgT d a b))+1) (cellsT d (mrgT d a b)).length with q | q
    ·exact q
    ·rw[List.drop_eq_nil_of_le q] at a5;simp[usedC] at a5
  have hlen:(cellsT d (mrgT d a b)).length≤1000:=by have:=used_len4 (l:=cellsT d (mrgT d a b));omega
  refine⟨e1,e2,q3,⟨⟨hk5,hla,a3.2⟩,?_,⟨hlen,h2,hmid,q6,q5,hsz _ (by rw[tx_get a2];exact List.getElem_mem a2)⟩⟩,q4.2⟩;unfold shrR;split
  ·exact⟨by show 1≤1∧1≤5;omega,hlb,a4.2⟩
  ·rename_i hk1
   refine⟨by show 1≤2∧2≤5;omega,?_,a5.2⟩;rcases kind_cases d with⟨_,e⟩ | ⟨hd,_⟩
   ·exact absurd e hk1
   ·obtain⟨d',rfl⟩:∃d',d=d'+1:=⟨d-1,by omega⟩;rw[if_neg hk1] at q2;have q2':linkT (d'+1) (splT (d'+1) (midC (cellsT (d'+1) (mrgT (d'+1) a b))) (numT (d'+1) b) (mrgT (d'+1) a b)).2.2=numB (tx (cellsT (d'+1) (mrgT (d'+1) a b)) (midC (cellsT (d'+1) (mrgT (d'+1) a b)))) ((tx (cellsT (d'+1) (mrgT (d'+1) a b)) (midC (cellsT (d'+1) (mrgT (d'+1) a b)))).size-4):=congrArg PgV.link q2;show numB _ _≤_;rw[←q2'];refine link_small fun p hp=>?_
    exact small_mrg (d'+1) a b hsa hsb p (List.mem_of_mem_drop hp)
end
theorem frm_shift {t1 s2:List (ByteArray×T d)}{a x:T d}:frm num (t1++[(ka,a)]) k x s2=frm num t1 ka a ((k,x)::s2):=by simp[frm]
section
variable {pk:Nat}
theorem TS.okA (h:TS w B D Gp V K pk m A fl pages)(hn:n<pages):okP (A n):=by
 obtain⟨C,h1,h2⟩:=h.po;exact(h2 n hn).2
theorem Sx.kid {s1 s2:List (ByteArray×T d)}{c:Cx (d+1)}{x:T d}(h:Sx A fl pages os (.up num s1 k s2 c) x es){p:ByteArray×T d}(hp:p∈s1++s2):A (numT d p.2)=pgT d p.2∧(0<numT d p.2∧numT d p.2<pages∧¬numT d p.2∈fl)∧(pages≤59000→smallK d p.2)∧FilN d p.2:=by
 have hin:∀q∈nodT d p.2,q∈restN (.up num s1 k s2 c) x:=fun q hq=>by
  rw[restN_up];have:q∈nodS s1++nodS s2:=by
   simp only[nodS,List.mem_append,List.mem_flatMap];rcases List.mem_append.1 hp with hp | hp
   ·exact .inl ⟨p,hp,hq⟩
   ·exact .inr ⟨p,hp,hq⟩
  simp only[List.mem_append,List.mem_cons] at this ⊢;rcases this with h | h<;>simp[h]
 have h0:=hin (numT d p.2,pgT d p.2) (by rw[nodT_eq];simp);obtain⟨e1,e2,e3,e4,e5⟩:=h.ne h0;refine⟨h.rep _ h0,⟨Nat.pos_of_ne_zero e2,e5,fun e=>e4 _ e rfl⟩,fun hpg=>small_of fun q hq=>?_,?_⟩
 ·have:=(h.ne (hin q (List.mem_of_mem_tail hq))).2.2.2.2;omega
 ·rcases List.mem_append.1 hp with hp|hp
  ·exact h.wf.fil.1 p hp
  ·exact h.wf.fil.2.1 p hp
theorem fil_some {b:T d}(h:FilN d b):(180≤usedC (cellsT d b)∧usedC (cellsT d b)≤1012)∧FilK d b∧(0<(cellsT d b).length∧(cellsT d b).length≤400):=by
 have h:=(FilN_iff d b).1 h;refine⟨h.1,h.2,?_,by have:=used_len4 (l:=cellsT d b);omega⟩;rcases Nat.eq_zero_or_pos (cellsT d b).length with e | e
 ·rw[List.length_eq_zero_iff.1 e] at h;simp[usedC] at h
 ·exact e
end
section
variable {pk:Nat}
theorem Stl.up {p tk:Nat}{c:Cx (d+1)}{x':T (d+1)}(hsx:Sx A' fl' pages' os c x' es)(hfk:FilK (d+1) x')(hus:usedC (cellsT (d+1) x')≤1300)(htwo:c.two)(hrt:c.root (numT (d+1) x')=rt)(hpg:pages'≤59000)(hl0:l0.map (·.v)=c.nvs (numT (d+1) x'))(hpm:PM w l0 b)(hnd:NDb w b w.heap.size p (nvT (d+1) x' c.lo c.hi tk))(hnn:NRs w p (nvT (d+1) x' c.lo c.hi tk)):Stl w A' fl' pages' os es rt c x' (l0++[⟨b,p,nvT (d+1) x' c.lo c.hi tk⟩]):=
 ⟨hsx,hfk,hus,htwo,hrt,link_small (hsx.small hpg),PM.snoc (x:=⟨b,p,_⟩) hpm hnd,⟨tk,by simp[hl0]⟩,fun z hz=>by
  rw[List.getLast?_concat] at hz;cases hz;exact hnn⟩
def joinPost (w:World)(B D Gp:Nat)(V:PV)(K:Pgs)(pk m pages:Nat)(os:List Nat)(es:List Ent)(rt:Nat)(c:Cx (d+1))(l0:List PN)(y:PN)(w':World):Prop:=
 ∃(V':PV) (A':Nat→PgV) (fl':List Nat) (x':T (d+1)) (y':PN),TS w' B D Gp V' K pk (m+3) A' fl' pages∧TF y.b B w w' V V'∧Stl w' A' fl' pages os es rt c x' (l0++[y'])∧y'.p=y.p∧y'.b=y.b
theorem Stl.joinR {t2:List (ByteArray×T d)}{c:Cx (d+1)}{x b:T d}(h:TS w B D Gp V K pk m A fl pages)(hm:m≤36000)(ht:TB w tb Gp root)(hS:Stl w A fl pages os es rt (.up num [] k ((kb,b)::t2) c) x (l0++[y,z]))(hu:usedC (cellsT d x)<180):Calls Tryz.prog 157 #[(.pointer (some ⟨tb,0,none⟩)),(.pointer (some ⟨y.p,0,none⟩)),(.pointer (some ⟨z.p,0,none⟩))] w fun e w'=>e=.returned (.tuple #[])∧joinPost w B D Gp V K pk m pages os es rt c l0 y w':=by
 obtain⟨l0',y',z',tk,e,hy,hz,hl0,hpm,hny,hnz,hrs⟩:=hS.lastTwo;have e':=List.append_inj' e rfl;obtain⟨rfl,e2⟩:=e';injection e2 with e2 e3;injection e3 with e3 _;subst e2 e3;have hsx:=hS.sx;have hsm:=h.flsmall.2;have hwf:=hsx.wf;have hfil:=fil2.1 hwf.fil;obtain⟨n1,n2,n3,n4⟩:=hsx.kid (p:=(kb,b)) (by simp);obtain⟨f1,f2,f3⟩:=fil_some n4;have f1:180≤usedC (cellsT d b)∧usedC (cellsT d b)≤1012:=f1;have f2:FilK d b:=f2;have f3:0<(cellsT d b).length∧(cellsT d b).length≤400:=f3;have n1:A (numT d b)=pgT d b:=n1;have n2:0<numT d b∧numT d b<pages∧¬numT d b∈fl:=n2;have hls:linkT d b≤2147483647:=by have:=(h.okA n2.2.1).link;rw[n1] at this;exact this
 have hsml:smallK d x:=hsx.small hsm;have hw:=hwf.right;have hsb:smallK d b:=n3 hsm;obtain⟨g1,g2,g3,g4,g5⟩:=pairP hw hsml hsb hS.lks hls _ rfl;obtain⟨hi',hbs⟩:=pair_bs hw;have hum:=used_mrg d x b hbs;have hbF:Bnd (d+1) c.lo c.hi (frm num [] k x ((kb,b)::t2)):=hwf.up.at;have hus:usedC (cellsT (d+1) (frm num [] k x ((kb,b)::t2)))≤1012:=by rw[←fr_used (num:=num) x];exact hfil.2.2.1.2
 have hlen0:(cellsT (d+1) (frm num [] k x ((kb,b)::t2))).length≤1000:=used_few hus;have hat:0<(cellsT (d+1) (frm num [] k x ((kb,b)::t2))).length:=by rw[frm_len];simp
 have htx:tx (cellsT (d+1) (frm num [] k x ((kb,b)::t2))) 0=childB kb (numT d b):=frm_next (s1:=[]);obtain⟨c1,c2,-,-⟩:=childB_key g3 (numT d b);rw[hy] at hny;have hxl:(cellsT d x).length≤400:=by have:=used_len4 (l:=cellsT d x);omega
 have hkd:kindT d=1∨kindT d=2:=by rcases kind_cases d with⟨_,e⟩ | ⟨_,e⟩<;>rw[e]<;>simp
 have hch:∀Y:World,TS Y B D Gp V K pk m A fl pages→TB Y tb Gp root→NDb Y y.b z.b y.p (nvT (d+1) (frm num [] k x ((kb,b)::t2)) c.lo c.hi 0)→Calls Tryz.prog 103 #[(.pointer (some ⟨tb,0,none⟩)),(.pointer (some ⟨y.p,0,none⟩)),.int .i64 1] Y fun e w'=>∃(V':PV) (q:Nat),e=.returned (.pointer (some ⟨q,0,none⟩))∧TS w' B D Gp V' K pk m A fl pages∧St2 Y w' B V V'∧ND w' Y.heap.size q (nvT d b kb (nxt t2 c.hi) 0)∧Y.heap.size≤q:=fun Y y1 y2 y3 =>
  cchildN (s1:=[(k,x)]) (k:=kb) (x:=b) (s2:=t2) (num:=num) y1 (by omega) y2 y3.nr hbF hlen0 n2.2.1 n1 (.inr (fun e=>by rw[e] at f3;simp at f3))
 have hrs':NRs w z.p (nvT d x k (nxt ((kb,b)::t2) c.hi) tk):=by rw[←hz];exact hrs
 have hown:=hsx.ownX;have hzb:z.b≤z.p:=by obtain⟨_,_,_,q,_⟩:=hnz;exact q
 have hkz:(keyB (tx (cellsT (d+1) (frm num [] k x ((kb,b)::t2))) 0)).size≤200:=by rw[htx,c1];exact g3.2
 have hwl:withL (kindT d) (cellsT d x) (keyB (tx (cellsT (d+1) (frm num [] k x ((kb,b)::t2))) 0)) (linkT d b) (cellsT d b)=cellsT d (mrgT d x b):=by rw[htx,c1];exact g1
 have hc0:kS (tx (cellsT (d+1) (frm num [] k x ((kb,b)::t2))) 0)≤(tx (cellsT (d+1) (frm num [] k x ((kb,b)::t2))) 0).size∧(tx (cellsT (d+1) (frm num [] k x ((kb,b)::t2))) 0).size≤240:=by
  rw[htx];exact⟨c2,by rw[childB_sz];have:=g3.2;omega⟩
 by_cases hu1:usedC (cellsT d (mrgT d x b))≤1012
 ·refine(cjoinRM h hm ht (cellsT d (mrgT d x b)) (kindT d) hkd hny rfl ⟨hat,hlen0⟩ hc0 hkz hrs' hzb hch rfl rfl hxl f3 hwl hu1 (g4 hu1) hown n2).mono ?_;rintro e w'⟨rfl,V',k1,k2,k3,k4⟩;obtain⟨j1,j2⟩:=join_merge hsx (pair_right [] t2 kb b x) (.inl rfl) hw (fun p hp=>by simp at hp) (fun p hp=>hfil.2.1 p (by simp[hp])) hS.fk f2 (.inr f1.1) hu1 ⟨3,fl.headD 0,[]⟩ ⟨4,numT d b,[]⟩;rw[g2] at j1;have hcells:=cells_delR (num:=num) (k:=k) (x:=x) (b:=b) (kb:=kb) (t2:=t2) (c:=mrgT d x b);have hlink:linkT (d+1) (⟨num,[]++[(k,mrgT d x b)]++t2⟩:Inn (T d))=linkT (d+1) (frm num [] k x ((kb,b)::t2)):=by
   have:=link_frm (num:=num) (s1:=[]) (k:=k) (x:=x) (s2:=(kb,b)::t2) (a:=mrgT d x b) (m:=t2) (mrg_num d x b);simpa using this
  have hnv:nvT (d+1) (⟨num,[]++[(k,mrgT d x b)]++t2⟩:Inn (T d)) c.lo c.hi 0={ nvT (d+1) (frm num [] k x ((kb,b)::t2)) c.lo c.hi 0 with cells:=(cellsT (d+1) (frm num [] k x ((kb,b)::t2))).eraseIdx 0 }:=by
   unfold nvT;rw[hcells,hlink];rfl
  refine⟨rfl,V',_,_,(⟨num,[]++[(k,mrgT d x b)]++t2⟩:Inn (T d)),⟨y.b,y.p,nvT (d+1) (⟨num,[]++[(k,mrgT d x b)]++t2⟩:Inn (T d)) c.lo c.hi 0⟩,k1,k2,Stl.up j1 j2 ?_ hS.two.2 hS.rt hsm hl0 (k2.pm l0 y.b (Nat.le_refl _) hpm) ?_ ?_,rfl,rfl⟩
  ·rw[hcells];have:=used_erase (cellsT (d+1) (frm num [] k x ((kb,b)::t2))) 0;omega
  ·rw[hnv];exact k3
  ·rw[hnv];exact k4
 ·have hu2:usedC (cellsT d (mrgT d x b))≤1500:=by omega
  obtain⟨p1,p2,p3,p4,p5⟩:=g5 (by omega) hu2;refine(cjoinRS h hm ht (cellsT d (mrgT d x b)) (kindT d) hkd hny rfl ⟨hat,hlen0⟩ hc0 hkz hrs' hzb hch rfl rfl hxl f3 hwl (by omega) (by omega) p4 p5 hown n2).mono ?_;rintro e w'⟨rfl,V',k1,k2,k3⟩;obtain⟨j1,j2⟩:=join_share hsx (pair_right [] t2 kb b x) (.inl rfl) hw (fun p hp=>by simp at hp) (fun p hp=>hfil.2.1 p (by simp[hp])) hS.fk f2 (by omega) hu2 _ rfl;have hnums:=spl_num d (midC (cellsT d (mrgT d x b))) (numT d b) (mrgT d x b);rw[p1,p2] at j1;generalize splT d (midC (cellsT d (mrgT d x b))) (numT d b) (mrgT d x b)=q at *;rw[mrg_num] at hnums;have hcells:=cells_setR (num:=num) (k:=k) (x:=x) (b:=b) (kb:=kb) (t2:=t2) (l:=q.1) (kr:=q.2.1) hnums.2;rw[p3] at hcells;have hlink:linkT (d+1) (⟨num,[]++[(k,q.1),(q.2.1,q.2.2)]++t2⟩:Inn (T d))=linkT (d+1) (frm num [] k x ((kb,b)::t2)):=by
   have:=link_frm (num:=num) (s1:=[]) (k:=k) (x:=x) (s2:=(kb,b)::t2) (a:=q.1) (m:=(q.2.1,q.2.2)::t2) hnums.1;simpa using this
  rw[p3] at hlink j1 j2;have hnv:nvT (d+1) (⟨num,[]++[(k,q.1),(keyB (tx (cellsT d (mrgT d x b)) (midC (cellsT d (mrgT d x b)))),q.2.2)]++t2⟩:Inn (T d)) c.lo c.hi 0={ nvT (d+1) (frm num [] k x ((kb,b)::t2)) c.lo c.hi 0 with cells:=(cellsT (d+1) (frm num [] k x ((kb,b)::t2))).set 0 (childB (keyB (tx (cellsT d (mrgT d x b)) (midC (cellsT d (mrgT d x b))))) (numT d b))}:=by
   unfold nvT;rw[hcells,hlink];rfl
  have k3:NDb w' y.b w'.heap.size y.p (nvT (d+1) (⟨num,[]++[(k,q.1),(keyB (tx (cellsT d (mrgT d x b)) (midC (cellsT d (mrgT d x b)))),q.2.2)]++t2⟩:Inn (T d)) c.lo c.hi 0):=by rw[hnv];exact k3
  refine⟨rfl,V',_,_,(⟨num,[]++[(k,q.1),(keyB (tx (cellsT d (mrgT d x b)) (midC (cellsT d (mrgT d x b)))),q.2.2)]++t2⟩:Inn (T d)),⟨y.b,y.p,nvT (d+1) (⟨num,[]++[(k,q.1),(keyB (tx (cellsT d (mrgT d x b)) (midC (cellsT d (mrgT d x b)))),q.2.2)]++t2⟩:Inn (T d)) c.lo c.hi 0⟩,k1.mono (by omega),k2,Stl.up j1 j2 ?_ hS.two.2 hS.rt hsm hl0 (k2.pm l0 y.b (Nat.le_refl _) hpm) k3 (k3.nr.s ?_),rfl,rfl⟩
  ·rw[hcells];have:=used_set (cellsT (d+1) (frm num [] k x ((kb,b)::t2))) 0 (childB (keyB (tx (cellsT d (mrgT d x b)) (midC (cellsT d (mrgT d x b))))) (numT d b)) (by rw[childB_sz];omega);omega
  ·rw[hnv];show 0<(List.set _ _ _).length;rw[List.length_set];omega
theorem Stl.joinL {t1 s2:List (ByteArray×T d)}{c:Cx (d+1)}{a x:T d}(h:TS w B D Gp V K pk m A fl pages)(hm:m≤36000)(ht:TB w tb Gp root)(hS:Stl w A fl pages os es rt (.up num (t1++[(ka,a)]) k s2 c) x (l0++[y,z]))(hu:usedC (cellsT d x)<180):Calls Tryz.prog 157 #[(.pointer (some ⟨tb,0,none⟩)),(.pointer (some ⟨y.p,0,none⟩)),(.pointer (some ⟨z.p,0,none⟩))] w fun e w'=>e=.returned (.tuple #[])∧joinPost w B D Gp V K pk m pages os es rt c l0 y w':=by
 obtain⟨l0',y',z',tk,e,hy,hz,hl0,hpm,hny,hnz,hrs⟩:=hS.lastTwo;have e':=List.append_inj' e rfl;obtain⟨rfl,e2⟩:=e';injection e2 with e2 e3;injection e3 with e3 _;subst e2 e3;have hsx:=hS.sx;have hsm:=h.flsmall.2;have hwf:=hsx.wf;have hfil:=fil2.1 hwf.fil;obtain⟨n1,n2,n3,n4⟩:=hsx.kid (p:=(ka,a)) (by simp);obtain⟨f1,f2,f3⟩:=fil_some n4;have f1:180≤usedC (cellsT d a)∧usedC (cellsT d a)≤1012:=f1;have f2:FilK d a:=f2;have f3:0<(cellsT d a).length∧(cellsT d a).length≤400:=f3;have n1:A (numT d a)=pgT d a:=n1;have n2:0<numT d a∧numT d a<pages∧¬numT d a∈fl:=n2;have hls:linkT d a≤2147483647:=by have:=(h.okA n2.2.1).link;rw[n1] at this;exact this
 have hsml:smallK d x:=hsx.small hsm;have hw:=hwf.left;have hsb:smallK d a:=n3 hsm;obtain⟨g1,g2,g3,g4,g5⟩:=pairP hw hsb hsml hls hS.lks _ rfl;obtain⟨hi',hbs⟩:=pair_bs hw;have hum:=used_mrg d a x hbs;have hbF:Bnd (d+1) c.lo c.hi (frm num t1 ka a ((k,x)::s2)):=by rw[←frm_shift];exact hwf.up.at
 have hus:usedC (cellsT (d+1) (frm num (t1++[(ka,a)]) k x s2))≤1012:=by rw[←fr_used (num:=num) x];exact hfil.2.2.1.2
 rw[frm_shift] at hus;rw[frm_shift,show(t1++[(ka,a)]).length=t1.length+1 by simp] at hy;have hlen0:(cellsT (d+1) (frm num t1 ka a ((k,x)::s2))).length≤1000:=used_few hus;have hat:t1.length<(cellsT (d+1) (frm num t1 ka a ((k,x)::s2))).length:=by rw[frm_len];simp
 have htx:tx (cellsT (d+1) (frm num t1 ka a ((k,x)::s2))) t1.length=childB k (numT d x):=frm_next;obtain⟨c1,c2,-,-⟩:=childB_key g3 (numT d x);rw[hy] at hny;have hxl:(cellsT d x).length≤400:=by have:=used_len4 (l:=cellsT d x);omega
 have hkd:kindT d=1∨kindT d=2:=by rcases kind_cases d with⟨_,e⟩ | ⟨_,e⟩<;>rw[e]<;>simp
 have hch:∀Y:World,TS Y B D Gp V K pk m A fl pages→TB Y tb Gp root→NDb Y y.b z.b y.p (nvT (d+1) (frm num t1 ka a ((k,x)::s2)) c.lo c.hi (t1.length+1))→Calls Tryz.prog 103 #[(.pointer (some ⟨tb,0,none⟩)),(.pointer (some ⟨y.p,0,none⟩)),.int .i64 (t1.length:Int)] Y fun e w'=>∃(V':PV) (q:Nat),e=.returned (.pointer (some ⟨q,0,none⟩))∧TS w' B D Gp V' K pk m A fl pages∧St2 Y w' B V V'∧ND w' Y.heap.size q (nvT d a ka (nxt ((k,x)::s2) c.hi) 0)∧Y.heap.size≤q:=fun Y y1 y2 y3 =>
  cchildN (s1:=t1) (k:=ka) (x:=a) (s2:=(k,x)::s2) (num:=num) y1 (by omega) y2 y3.nr hbF hlen0 n2.2.1 n1 (.inr (fun e=>by rw[e] at f3;simp at f3))
 have hrs':NRs w z.p (nvT d x k (nxt s2 c.hi) tk):=by rw[←hz];exact hrs
 have hown:=hsx.ownX;have hzb:z.b≤z.p:=by obtain⟨_,_,_,q,_⟩:=hnz;exact q
 have hkz:(keyB (tx (cellsT (d+1) (frm num t1 ka a ((k,x)::s2))) t1.length)).size≤200:=by rw[htx,c1];exact g3.2
 have hwl:withL (kindT d) (cellsT d a) (keyB (tx (cellsT (d+1) (frm num t1 ka a ((k,x)::s2))) t1.length)) (linkT d x) (cellsT d x)=cellsT d (mrgT d a x):=by rw[htx,c1];exact g1
 have hc0:kS (tx (cellsT (d+1) (frm num t1 ka a ((k,x)::s2))) t1.length)≤(tx (cellsT (d+1) (frm num t1 ka a ((k,x)::s2))) t1.length).size∧(tx (cellsT (d+1) (frm num t1 ka a ((k,x)::s2))) t1.length).size≤240:=by
  rw[htx];exact⟨c2,by rw[childB_sz];have:=g3.2;omega⟩
 by_cases hu1:usedC (cellsT d (mrgT d a x))≤1012
 ·refine(cjoinLM h hm ht (cellsT d (mrgT d a x)) t1.length (kindT d) hkd hny rfl ⟨hat,hlen0⟩ hc0 hkz hrs' hzb hch rfl rfl hxl f3 hwl hu1 (g4 hu1) n2 hown).mono ?_;rintro e w'⟨rfl,V',k1,k2,k3,k4⟩;obtain⟨j1,j2⟩:=join_merge hsx (pair_left t1 s2 ka a x) (.inr rfl) hw (fun p hp=>hfil.1 p (by simp[hp])) hfil.2.1 f2 hS.fk (.inl f1.1) hu1 ⟨3,fl.headD 0,[]⟩ ⟨4,numT d x,[]⟩;rw[g2] at j1;have hcells:=cells_delL (num:=num) (k:=k) (x:=x) (ka:=ka) (a:=a) (t1:=t1) (s2:=s2) (mrg_num d a x);rw[frm_shift] at hcells;have hlink:linkT (d+1) (⟨num,t1++[(ka,mrgT d a x)]++s2⟩:Inn (T d))=linkT (d+1) (frm num t1 ka a ((k,x)::s2)):=by
   have:=link_frm (num:=num) (s1:=t1) (k:=ka) (x:=a) (s2:=(k,x)::s2) (a:=mrgT d a x) (m:=s2) (mrg_num d a x);simpa using this
  have hnv:nvT (d+1) (⟨num,t1++[(ka,mrgT d a x)]++s2⟩:Inn (T d)) c.lo c.hi (t1.length+1)={ nvT (d+1) (frm num t1 ka a ((k,x)::s2)) c.lo c.hi (t1.length+1) with cells:=(cellsT (d+1) (frm num t1 ka a ((k,x)::s2))).eraseIdx t1.length }:=by
   unfold nvT;rw[hcells,hlink];rfl
  refine⟨rfl,V',_,_,(⟨num,t1++[(ka,mrgT d a x)]++s2⟩:Inn (T d)),⟨y.b,y.p,nvT (d+1) (⟨num,t1++[(ka,mrgT d a x)]++s2⟩:Inn (T d)) c.lo c.hi (t1.length+1)⟩,k1,k2,Stl.up j1 j2 ?_ hS.two.2 hS.rt hsm hl0 (k2.pm l0 y.b (Nat.le_refl _) hpm) ?_ ?_,rfl,rfl⟩
  ·rw[hcells];have:=used_erase (cellsT (d+1) (frm num t1 ka a ((k,x)::s2))) t1.length;omega
  ·rw[hnv];exact k3
  ·rw[hnv];exact k4
 ·have hu2:usedC (cellsT d (mrgT d a x))≤1500:=by omega
  obtain⟨p1,p2,p3,p4,p5⟩:=g5 (by omega) hu2;refine(cjoinLS h hm ht (cellsT d (mrgT d a x)) t1.length (kindT d) hkd hny rfl ⟨hat,hlen0⟩ hc0 hkz hrs' hzb hch rfl rfl hxl f3 hwl (by omega) (by omega) p4 p5 n2 hown).mono ?_;rintro e w'⟨rfl,V',k1,k2,k3⟩;obtain⟨j1,j2⟩:=join_share hsx (pair_left t1 s2 ka a x) (.inr rfl) hw (fun p hp=>hfil.1 p (by simp[hp])) hfil.2.1 f2 hS.fk (by omega) hu2 _ rfl;have hnums:=spl_num d (midC (cellsT d (mrgT d a x))) (numT d x) (mrgT d a x);rw[p1,p2] at j1;generalize splT d (midC (cellsT d (mrgT d a x))) (numT d x) (mrgT d a x)=q at *;rw[mrg_num] at hnums;have hcells:=cells_setL (num:=num) (k:=k) (x:=x) (ka:=ka) (a:=a) (t1:=t1) (s2:=s2) (kr:=q.2.1) hnums.1 hnums.2;rw[frm_shift] at hcells;rw[p3] at hcells;have hlink:linkT (d+1) (⟨num,t1++[(ka,q.1),(q.2.1,q.2.2)]++s2⟩:Inn (T d))=linkT (d+1) (frm num t1 ka a ((k,x)::s2)):=by
   have:=link_frm (num:=num) (s1:=t1) (k:=ka) (x:=a) (s2:=(k,x)::s2) (a:=q.1) (m:=(q.2.1,q.2.2)::s2) hnums.1;simpa using this
  rw[p3] at hlink j1 j2;have hnv:nvT (d+1) (⟨num,t1++[(ka,q.1),(keyB (tx (cellsT d (mrgT d a x)) (midC (cellsT d (mrgT d a x)))),q.2.2)]++s2⟩:Inn (T d)) c.lo c.hi (t1.length+1)={ nvT (d+1) (frm num t1 ka a ((k,x)::s2)) c.lo c.hi (t1.length+1) with cells:=(cellsT (d+1) (frm num t1 ka a ((k,x)::s2))).set t1.length (childB (keyB (tx (cellsT d (mrgT d a x)) (midC (cellsT d (mrgT d a x))))) (numT d x))}:=by
   unfold nvT;rw[hcells,hlink];rfl
  have k3:NDb w' y.b w'.heap.size y.p (nvT (d+1) (⟨num,t1++[(ka,q.1),(keyB (tx (cellsT d (mrgT d a x)) (midC (cellsT d (mrgT d a x)))),q.2.2)]++s2⟩:Inn (T d)) c.lo c.hi (t1.length+1)):=by rw[hnv];exact k3
  refine⟨rfl,V',_,_,(⟨num,t1++[(ka,q.1),(keyB (tx (cellsT d (mrgT d a x)) (midC (cellsT d (mrgT d a x)))),q.2.2)]++s2⟩:Inn (T d)),⟨y.b,y.p,nvT (d+1) (⟨num,t1++[(ka,q.1),(keyB (tx (cellsT d (mrgT d a x)) (midC (cellsT d (mrgT d a x)))),q.2.2)]++s2⟩:Inn (T d)) c.lo c.hi (t1.length+1)⟩,k1.mono (by omega),k2,Stl.up j1 j2 ?_ hS.two.2 hS.rt hsm hl0 (k2.pm l0 y.b (Nat.le_refl _) hpm) k3 (k3.nr.s ?_),rfl,rfl⟩
  ·rw[hcells];have:=used_set (cellsT (d+1) (frm num t1 ka a ((k,x)::s2))) t1.length (childB (keyB (tx (cellsT d (mrgT d a x)) (midC (cellsT d (mrgT d a x))))) (numT d x)) (by rw[childB_sz];omega);omega
  ·rw[hnv];show 0<(List.set _ _ _).length;rw[List.length_set];omega
theorem Stl.join {s1 s2:List (ByteArray×T d)}{c:Cx (d+1)}{x:T d}(h:TS w B D Gp V K pk m A fl pages)(hm:m≤36000)(ht:TB w tb Gp root)(hS:Stl w A fl pages os es rt (.up num s1 k s2 c) x (l0++[y,z]))(hu:usedC (cellsT d x)<180):Calls Tryz.prog 157 #[(.pointer (some ⟨tb,0,none⟩)),(.pointer (some ⟨y.p,0,none⟩)),(.pointer (some ⟨z.p,0,none⟩))] w fun e w'=>e=.returned (.tuple #[])∧joinPost w B D Gp V K pk m pages os es rt c l0 y w':=by
 rcases List.eq_nil_or_concat s1 with rfl|⟨t1,⟨ka,a⟩,e⟩
 ·cases s2 with
  | nil=>exact absurd ⟨rfl,rfl⟩ hS.two.1
  | cons q t2=>exact Stl.joinR h hm ht hS hu
 ·rw[List.concat_eq_append] at e;subst e;exact Stl.joinL h hm ht hS hu
end
end Go.Proofs.YtiaibgfhigdgdaaGreat
