/- a part -/
import Derived.Test.YtiaibgfhigdgdaaGreatProg
import Derived.RowKit
import Derived.KernelRfl
import Derived.WalkKit
import Derived.WalkSpells
import Derived.WalkLawsBesides
import Derived.Deep.RegionHeld3
import Derived.Deep.DeepCutAuto
import Derived.Deep.RegionWith
import Derived.Deep.DrawnRows
import Derived.Deep.LoopGhost
import Derived.Deep.AppendLies
import Derived.Lib.AppendStr
import Derived.Maps.AppendAt
import Derived.RangeFuncBox
import Derived.Laws.CopyOwn
import Derived.Lib.BufferWrite
import Derived.Deep.QuietTactic
import Derived.BigQuiet
set_option maxRecDepth 100000
set_option maxHeartbeats 8000000
namespace Go.Proofs.YtiaibgfhigdgdaaGreat
open Go.RowKit Go.Lib
variable {W w1 w w' X Y:World}{o:Option Nat}{v v':Value}{base size n b g m cap B D k B0:Nat}{e:TypeId}{xs:List Value}{t:ByteArray}{P:Program}{ops:Array Oper}{a:Act}{K:Act→World→Prop}{Q:Exit→Act→World→Prop}{E:Prop}{l L:List UInt8}{vb:Nat→Value}{lb:Nat→List UInt8}{left count left' count' f:Int}{down down':Bool}{cur:Array Value}{fz:Nat×Nat}{α:Type}{ob:Obj}
theorem bcell (hb:Below W.heap.size W w1):(∀b o,b<W.heap.size→w1.cell? ⟨b,o,none⟩=W.cell? ⟨b,o,none⟩)∧(∀b o,b<W.heap.size→w1.frozen? ⟨b,o,none⟩=W.frozen? ⟨b,o,none⟩):=
 ⟨fun b o h=>hb.cell (p:=⟨b,o,none⟩) h,fun b o h=>hb.frozen (p:=⟨b,o,none⟩) h⟩
theorem keepCell (hb:Below W.heap.size W w1){A o:Nat}(hA:A<W.heap.size)(h:W.cell? ⟨A,o,none⟩=some v):w1.cell? ⟨A,o,none⟩=some v:=by
 rw[(bcell hb).1 A o hA,h]
theorem add_none (b off j:Nat):(⟨b,off,none⟩:Addr).add j=⟨b,off+j,none⟩:=by
 unfold Addr.add;by_cases h:j=0<;>simp[h]
def valsB (l:List UInt8):List Value:=l.map fun b=>.int .u8 b.toNat
theorem infoB:(Tryz.prog.info? 5).map (fun i=>(i.zero,i.size,i.bytes))=some (some (.int .u8 0),1,1):=by kernel_rfl
theorem row_new (h:w.ownsRow base e size v n xs)(hb:w.heap.size≤b):some b≠v.ownBlock:=fun e1=>by
 have:=(World.ownsRow.lt h) b e1.symm;omega
theorem row_keep (h:w.ownsRow base e size v n xs)(hk:∀g,v.ownBlock=some g→w'.heap[g]?=w.heap[g]?):w'.ownsRow base e size v n xs:=by
 refine⟨h.1,?_⟩;rcases h.2 with h | ⟨g,cap,cur,rfl,hb,hg,rest⟩
 ·exact .inl h
 ·exact .inr ⟨g,cap,cur,rfl,hb,(hk g rfl).trans hg,rest⟩
theorem row_below (h:w.ownsRow base e size v n xs)(hb:Below w.heap.size w w'):w'.ownsRow base e size v n xs:=
 row_keep h fun g hg=>hb.block g (World.ownsRow.lt h g hg).2
def ll (s:ByteArray):List UInt8:=s.data.toList
theorem ll_len (s:ByteArray):(ll s).length=s.size:=rfl
theorem ll_inj {s:ByteArray}(h:ll s=ll t):s=t:=by
 cases s;cases t
 congr 1
 exact Array.ext' h
def But (w X:World)(o:Option Nat):Prop:=w.grownBy X o
theorem But.refl (w:World)(o:Option Nat):But w w o:=⟨rfl,rfl,rfl,Nat.le_refl _,fun _ _ _=>rfl⟩
theorem But.trans (h:But w X o)(hg:But X Y o):But w Y o:=
 ⟨by rw[hg.os,h.os],by rw[hg.tape,h.tape],by rw[hg.output,h.output],Nat.le_trans h.size hg.size,fun b hl hn=>by rw[hg.block b (Nat.lt_of_lt_of_le hl h.size) hn];exact h.block b hl hn⟩
theorem But.set (h:But w X (some g))(j:Nat)(u:Value):But w (X.setCell ⟨g,j,none⟩ u) (some g):=
 h.trans ⟨rfl,rfl,rfl,Nat.le_of_eq (by simp),fun b _ hn=>Below.heap_setCell _ _ _ b (fun e=>hn (by rw[e]))⟩
theorem own_eqN {ys:List Value}(h:W.ownsRow base e size v n xs)(hx:xs=ys):W.ownsRow base e size v n ys:=hx ▸ h
theorem step_append_ownN {o:Oper}(hg:o.guard=none)(s x:Operand)(t:TypeId)(hop:o.op=Op.call { callee:=Callee.builtin Builtin.append,args:=#[s,x],argTypes:=#[t,t]})(base:Nat)(e:TypeId)(i:TypeInfo)(z:Value)(size bytes:Nat)(h1:P.underlying t=some (.slice e))(h2:P.info? e=some i)(h3:i.zero=some z)(h4:i.size=size)(h5:i.bytes=bytes)(h6:z.cells.size=size)(h7:0<size)(v:Value)(n:Nat)(xs:List Value)(hs:a.eval s=v)(hown:w.ownsRow base e size v n xs)(ad:Addr)(m c:Nat)(news:List Value)(hx:a.eval x=.slice (some ad) m c)(hn:news.length=m*size)(hc:∀j u,news[j]?=some u→w.cell? (ad.add j)=some u)(h1c:∀u∈news,u.oneCell'=true)(b1:n+m≤maxLen)(b2:(n+m)*bytes≤140737488355328)(hbase:base≤w.heap.size)(hK:∀v' w',w'.ownsRow base e size v' (n+m) (xs++news)→w.grownBy w' v.ownBlock→K (a.put o.dst v') w'):if Region.wanted o (yielded ops a.tmps)=true then Oper.wp P o a w K Q else E:=by
 have hw:Region.wanted o (yielded ops a.tmps)=true:=by simp[Region.wanted,hg]
 rw[if_pos hw];obtain⟨v',w',hrun,r1,r2,_⟩:=run_append_own (P:=P) w base t o.type e i z size bytes h1 h2 h3 h4 h5 h6 h7 v n xs hown ad m c news hn hc h1c b1 b2 hbase;unfold Oper.wp;simp[execOp,hop,resolve,invoke,builtin,hs,hx,hrun,Result.andThen];exact hK v' w' r1 r2
section
variable (w:World)
theorem zeroCells_one {z:Value}(hz:z.cells=#[z])(m:Nat):Builtin.zeroCells z.cells m=(List.replicate m z).toArray:=by
 apply Array.ext
 ·rw[size_zeroCells,hz];simp
 ·intro i h1 h2;simp[Builtin.zeroCells,hz,Nat.mod_one]
theorem run_zeros_room (t u ty e:TypeId)(k:IntKind)(i:TypeInfo)(z:Value)(ht:P.underlying t=some (.slice e))(hu:P.underlying u=some (.int k))(hi:P.info? e=some i)(hz:i.zero=some z)(hs:i.size=1)(hz1:z.cells=#[z])(ho:z.oneCell'=true)(g sLen sCap:Nat)(cur:Array Value)(hg:w.heap[g]?=some (.cells cur e (0,0)))(m:Nat)(hm:0<m)(hb:(m:Int)*i.bytes≤281474976710656)(h63:m≤9223372036854775807)(hroom:sLen+m≤sCap)(hfit:sLen+m≤cur.size):(Builtin.append_ #[t,u] ty #[.slice (some ⟨g,0,none⟩) sLen sCap,.int .i64 m]).run P w=.ok (.slice (some ⟨g,0,none⟩) (sLen+m) sCap) (w.setRow g (cur.toList.take sLen++List.replicate m z++cur.toList.drop (sLen+m)).toArray):=by
 have hw:IntKind.i64.wrap (m:Int)=(m:Int):=by rw[IntKind.wrap_i64];omega
 have h0:¬((m:Int)<0):=by omega
 have h1:¬(281474976710656<(m:Int)*i.bytes):=by omega
 have hm':¬m=0:=by omega
 have hst:=run_storeCells_at P g sLen e (List.replicate m z) 0 cur w hg (by simpa using hfit) (by intro v hv;rw[List.eq_of_mem_replicate hv];exact ho);simp only[Nat.add_zero,List.length_replicate] at hst;simp[Builtin.append_,run_underlying ht,run_underlying hu,sizeOf,typeInfo,hi,hs,hw,h0,h1,hm',hroom,Addr.add_lit,zeroValue,hz,zeroCells_one hz1,hst,asInt,asIntOf]
theorem run_zeros_grow (t u ty e:TypeId)(k:IntKind)(i:TypeInfo)(z:Value)(ht:P.underlying t=some (.slice e))(hu:P.underlying u=some (.int k))(hi:P.info? e=some i)(hz:i.zero=some z)(hs:i.size=1)(hz1:z.cells=#[z])(b:Addr)(sLen sCap:Nat)(olds:List Value)(hlo:olds.length=sLen)(holds:∀j v,olds[j]?=some v→w.cell? (b.add j)=some v)(m:Nat)(hm:0<m)(hb:(m:Int)*i.bytes≤281474976710656)(hg:sCap<sLen+m)(h63:((sLen+m:Nat):Int)≤9223372036854775807)(hfit:Builtin.nextslicecap (sLen+m) sCap*i.bytes≤281474976710656):(Builtin.append_ #[t,u] ty #[.slice (some b) sLen sCap,.int .i64 m]).run P w=.ok (.slice (some ⟨w.heap.size,0,none⟩) (sLen+m) (grownCap w (sLen+m) sCap e)) (w.drew.alloc (.cells (olds.toArray++(List.replicate m z).toArray++Builtin.zeroCells z.cells (grownCap w (sLen+m) sCap e-(sLen+m))) e)):=by
 have hw:IntKind.i64.wrap (m:Int)=(m:Int):=by rw[IntKind.wrap_i64];omega
 have h0:¬((m:Int)<0):=by omega
 have h1:¬(281474976710656<(m:Int)*i.bytes):=by omega
 have hm':¬m=0:=by omega
 have hn:¬(sLen+m≤sCap):=by omega
 have h63':¬(9223372036854775807<((sLen:Int)+(m:Int))):=by omega
 have h48':¬(281474976710656<Builtin.nextslicecap (sLen+m) sCap*i.bytes):=by omega
 have hfo:=run_firstCells_some (P:=P) w.drew 1 sLen b sLen sCap olds (by omega) (by simpa using holds);simp[Builtin.append_,run_underlying ht,run_underlying hu,sizeOf,typeInfo,zeroValue,hi,hz,hs,hw,h0,h1,hm',hn,h63',h48',Question.forced,hfo,newRow,grownCap,zeroCells_one hz1,asInt,asIntOf]
theorem run_zeros_nil (t u ty e:TypeId)(k:IntKind)(i:TypeInfo)(z:Value)(ht:P.underlying t=some (.slice e))(hu:P.underlying u=some (.int k))(hi:P.info? e=some i)(hz:i.zero=some z)(hs:i.size=1)(hz1:z.cells=#[z])(m:Nat)(hm:0<m)(hb:(m:Int)*i.bytes≤281474976710656)(h63:(m:Int)≤9223372036854775807)(hfit:Builtin.nextslicecap m 0*i.bytes≤281474976710656):(Builtin.append_ #[t,u] ty #[.slice none 0 0,.int .i64 m]).run P w=.ok (.slice (some ⟨w.heap.size,0,none⟩) m (grownCap w m 0 e)) (w.drew.alloc (.cells ((List.replicate m z).toArray++Builtin.zeroCells z.cells (grownCap w m 0 e-m)) e)):=by
 have hw:IntKind.i64.wrap (m:Int)=(m:Int):=by rw[IntKind.wrap_i64];omega
 have h0:¬((m:Int)<0):=by omega
 have h1:¬(281474976710656<(m:Int)*i.bytes):=by omega
 have hm':¬m=0:=by omega
 have hn:¬(m≤0):=by omega
 have h63':¬(9223372036854775807<(m:Int)):=by omega
 have h48':¬(281474976710656<Builtin.nextslicecap m 0*i.bytes):=by omega
 simp[Builtin.append_,run_underlying ht,run_underlying hu,sizeOf,typeInfo,zeroValue,hi,hz,hs,hw,h0,h1,hm',h63',h48',Question.forced,Builtin.firstCells,newRow,grownCap,zeroCells_one hz1,asInt,asIntOf]
theorem run_zeros_own (base:Nat)(t u ty e:TypeId)(k:IntKind)(i:TypeInfo)(z:Value)(ht:P.underlying t=some (.slice e))(hu:P.underlying u=some (.int k))(hi:P.info? e=some i)(hz:i.zero=some z)(hs:i.size=1)(hby:i.bytes=1)(hz1:z.cells=#[z])(ho:z.oneCell'=true)(v:Value)(n:Nat)(xs:List Value)(hown:w.ownsRow base e 1 v n xs)(m:Nat)(hm:0<m)(hbytes:n+m≤140737488355328)(hbase:base≤w.heap.size):∃v' w',(Builtin.append_ #[t,u] ty #[v,.int .i64 m]).run P w=.ok v' w'∧w'.ownsRow base e 1 v' (n+m) (xs++List.replicate m z)∧w.grownBy w' v.ownBlock∧(v'.ownBlock=v.ownBlock∨v'.ownBlock=some w.heap.size):=by
 have hxl:xs.length=n:=by have:=hown.1;omega
 have hlen:(xs++List.replicate m z).length=(n+m)*1:=by rw[List.length_append,List.length_replicate,hxl];omega
 have hbm:(m:Int)*i.bytes≤281474976710656:=by rw[hby];omega
 have grown:∀(old:Nat),∀(row:Option Nat),
   (w.drew.alloc (.cells (xs.toArray++(List.replicate m z).toArray++Builtin.zeroCells z.cells (grownCap w (n+m) old e-(n+m))) e)).ownsRow base e 1
    (.slice (some ⟨w.heap.size,0,none⟩) (n+m) (grownCap w (n+m) old e)) (n+m) (xs++List.replicate m z) ∧
   w.grownBy (w.drew.alloc (.cells (xs.toArray++(List.replicate m z).toArray++Builtin.zeroCells z.cells (grownCap w (n+m) old e-(n+m))) e)) row:=by
  intro old row;have hge:=grownCap_ge w (n+m) old e;have hcm:grownCap w (n+m) old e≤maxLen:=grownCap_le_maxLen w (n+m) old e (by unfold maxLen;omega);refine⟨⟨hlen,.inr ⟨w.heap.size,_,_,rfl,hbase,heap_alloc_new w.drew _,hge,hcm,?_,?_⟩⟩,⟨rfl,rfl,rfl,by simp,fun k hk _=>heap_alloc_old w.drew _ hk⟩⟩
  ·rw[Array.size_append,Array.size_append,size_zeroCells,hz1];simp[hxl];omega
  ·simp only[Array.toList_append,List.append_assoc];rw[←List.append_assoc,←hlen];exact List.take_left
 rcases hown.2 with⟨rfl,rfl⟩|⟨g,cap,cur,rfl,hbg,hg,hnc,hcm,hcs,htake⟩
 ·have hx:xs=[]:=List.eq_nil_of_length_eq_zero hxl;subst hx;have hr:=run_zeros_nil (P:=P) w t u ty e k i z ht hu hi hz hs hz1 m hm hbm (by omega) (growslice_fits (by omega) (by rw[hby];omega));have hgr:=grown 0 (Value.ownBlock (.slice none 0 0));simp only[Nat.zero_add,List.nil_append,Array.empty_append] at hgr ⊢;exact⟨_,_,hr,hgr.1,hgr.2,.inr rfl⟩
 ·by_cases hroom:n+m≤cap
  ·have hfit:n+m≤cur.size:=by rw[hcs];omega
   have hr:=run_zeros_room (P:=P) w t u ty e k i z ht hu hi hz hs hz1 ho g n cap cur hg m hm hbm (by omega) hroom hfit;refine⟨_,_,hr,⟨hlen,.inr ⟨g,cap,_,rfl,hbg,setRow_heap w g cur _ e _ hg,hroom,hcm,?_,?_⟩⟩,⟨rfl,rfl,rfl,by simp,fun k _ hk=>setRow_other w g k _ (fun e=>hk (by simp[Value.ownBlock,e]))⟩,.inl rfl⟩
   ·simp only[List.size_toArray,List.length_append,List.length_take,List.length_drop,Array.length_toList,List.length_replicate];omega
   ·rw[Nat.mul_one] at htake;rw[htake,←hlen];exact List.take_left
  ·have holds:∀j u,xs[j]?=some u→w.cell? ((⟨g,0,none⟩:Addr).add j)=some u:=hown.cells (g:=g) rfl;have hr:=run_zeros_grow (P:=P) w t u ty e k i z ht hu hi hz hs hz1 ⟨g,0,none⟩ n cap xs hxl holds m hm hbm (by omega) (by omega) (growslice_fits (by omega) (by rw[hby];omega));have hgr:=grown cap (Value.ownBlock (.slice (some ⟨g,0,none⟩) n cap));exact⟨_,_,hr,hgr.1,hgr.2,.inr rfl⟩
theorem wpList_zeros_own {rest:List Oper}{o:Oper}(hgd:o.guard=none)(s x:Operand)(t u:TypeId)(hop:o.op=.call { callee:=.builtin .append,args:=#[s,x],argTypes:=#[t,u]})(base:Nat)(e:TypeId)(k:IntKind)(i:TypeInfo)(z:Value)(ht:P.underlying t=some (.slice e))(hu:P.underlying u=some (.int k))(hi:P.info? e=some i)(hz:i.zero=some z)(hs:i.size=1)(hby:i.bytes=1)(hz1:z.cells=#[z])(ho:z.oneCell'=true)(v:Value)(n:Nat)(xs:List Value)(hsv:a.eval s=v)(hown:w.ownsRow base e 1 v n xs)(m:Nat)(hx:a.eval x=.int .i64 m)(hm:0<m)(hbytes:n+m≤140737488355328)(hbase:base≤w.heap.size)(h:∀v' w',w'.ownsRow base e 1 v' (n+m) (xs++List.replicate m z)→w.grownBy w' v.ownBlock→(v'.ownBlock=v.ownBlock∨v'.ownBlock=some w.heap.size)→wpList P ops Q rest (a.put o.dst v') w'):wpList P ops Q (o::rest) a w:=by
 refine wpList_plain hgd fun K hK=>?_
 obtain⟨v',w',hr,h2,h3,h4⟩:=run_zeros_own (P:=P) w base t u o.type e k i z ht hu hi hz hs hby hz1 ho v n xs hown m hm hbytes hbase;unfold Oper.wp execOp;simp only[hop,resolve,invoke,builtin,Sem.run_bind,Sem.run_pure,Result.andThen_ok,List.map_toArray,List.map_cons,List.map_nil,hsv,hx,hr];exact hK _ _ (h v' w' h2 h3 h4)
end
attribute [local go_sem ↓] Go.wp_at_zero Go.wp_at_succ
def fil (l:List UInt8)(n:Nat):List UInt8:=l++List.replicate (n-l.length) 0
theorem fil_len (l:List UInt8)(n:Nat):(fil l n).length=max l.length n:=by unfold fil;rw[List.length_append,List.length_replicate];omega
theorem fil_le (h:n≤l.length):fil l n=l:=by unfold fil;rw[show n-l.length=0 by omega];simp
def onL (at':Nat)(t:ByteArray)(cut:Bool)(l:List UInt8):List UInt8:=
 if cut then(fil l (at'+t.size)).take (at'+t.size) else(fil l (at'+t.size)).take at'++ll t++(fil l (at'+t.size)).drop (at'+t.size)
theorem onL_len (at':Nat)(t:ByteArray)(cut:Bool)(l:List UInt8):(onL at' t cut l).length=if cut then at'+t.size else max l.length (at'+t.size):=by
 unfold onL;have h:=fil_len l (at'+t.size);split
 ·rw[List.length_take,h];omega
 ·rw[List.length_append,List.length_append,List.length_take,List.length_drop,h,ll_len];omega
theorem hszU8N:(Tryz.prog.info? 5).map (·.size)=some 1:=by kernel_rfl
theorem own_takeN {a:Option Addr}(h:W.ownsRow base e 1 (.slice a n cap) n xs)(hm:m≤n):W.ownsRow base e 1 (.slice a m cap) m (xs.take m):=by
 have hx:xs.length=n:=by have:=h.1;omega
 refine⟨by rw[List.length_take];omega,?_⟩;rcases h.2 with⟨h1,h2⟩ | ⟨g,cap',cur,h1,h2,h3,h4,h5,h6,h7⟩
 ·injection h1 with q1 q2 q3;subst q1 q3;obtain rfl:m=0:=by omega
  exact .inl ⟨rfl,rfl⟩
 ·injection h1 with q1 q2 q3;subst q1 q3;refine .inr ⟨g,cap,cur,rfl,h2,h3,by omega,h5,h6,?_⟩;rw[Nat.mul_one] at h7 ⊢;rw[←h7,List.take_take,Nat.min_eq_left hm]
theorem own_copyN (h:W.ownsRow base 5 1 (.slice (some ⟨g,0,none⟩) n cap) n (valsB l))(off dl dc:Nat)(t:ByteArray)(hle:t.size≤dl)(hfit:off+t.size≤n):∃W',(Builtin.copy_ #[59,9] 3 #[.slice (some ⟨g,off,none⟩) dl dc,.string t]).run Tryz.prog W=.ok (.int .i64 t.size) W'∧W'.ownsRow base 5 1 (.slice (some ⟨g,0,none⟩) n cap) n (valsB (l.take off++ll t++l.drop (off+t.size)))∧W.grownBy W' (some g):=by
 have hl:l.length=n:=by have:=h.1;simp[valsB] at this;omega
 rcases h.2 with⟨h1,_⟩|⟨g',cap',cur,h1,h2,h3,h4,h5,h6,h7⟩
 ·cases h1
 ·injection h1 with q1 q2 q3;injection q1 with q1;injection q1 with q1;subst q1 q3;rw[Nat.mul_one] at h6 h7;refine⟨_,Lib.run_copy_row_string (P:=Tryz.prog) W 59 9 3 5 g off dl dc t cur 5 Tryz.underlying59 hszU8N h3 hle (by omega),?_,⟨rfl,rfl,rfl,by simp,fun k _ hk=>setRow_other W g k _ (fun e=>hk (by rw[e]))⟩⟩;have hb:(byteCells t.data.toList).length=t.size:=by rw[byteCells_length];rfl
  refine⟨?_,.inr ⟨g,cap,_,rfl,h2,setRow_heap W g cur _ _ _ h3,h4,h5,?_,?_⟩⟩
  ·simp[valsB,ll_len];omega
  ·simp only[List.size_toArray,List.length_append,List.length_take,List.length_drop,Array.length_toList,hb];omega
  ·have e1:cur.toList=valsB l++cur.toList.drop n:=by rw[←h7,List.take_append_drop]
   have hv:(valsB l).length=n:=by simp[valsB,hl]
   have e2:cur.toList.take off=(valsB l).take off:=by rw[e1,List.take_append_of_le_length (by omega)]
   have e3:cur.toList.drop (off+t.size)=(valsB l).drop (off+t.size)++cur.toList.drop n:=by
    conv=>lhs;rw[e1]
    rw[List.drop_append_of_le_length (by omega)]
   rw[e2,e3,Nat.mul_one];have e4:byteCells t.data.toList=valsB (ll t):=rfl;rw[e4];have e5:(valsB l).take off++valsB (ll t)++((valsB l).drop (off+t.size)++cur.toList.drop n)=valsB (l.take off++ll t++l.drop (off+t.size))++cur.toList.drop n:=by
    simp[valsB,List.map_take,List.map_drop]
   show List.take n ((valsB l).take off++valsB (ll t)++((valsB l).drop (off+t.size)++cur.toList.drop n))=_;rw[e5,List.take_left' (by simp[valsB,ll_len];omega)]
theorem copy0N (W:World)(d:Option Addr)(dl dc:Nat)(t:ByteArray)(h0:t.size=0):(Builtin.copy_ #[59,9] 3 #[.slice d dl dc,.string t]).run Tryz.prog W=.ok (.int .i64 0) W:=
 Lib.run_copy_empty_string (P:=Tryz.prog) W 59 9 3 5 d dl dc t Tryz.underlying59 (by rw[hszU8N];rfl) h0
theorem valsB_zeros (l:List UInt8)(m:Nat):valsB l++List.replicate m (.int .u8 0)=valsB (l++List.replicate m 0):=by simp[valsB]
theorem owns_sliceB (h:W.ownsRow base 5 1 v n xs):∃a cap,v=.slice a n cap∧n≤cap:=by
 rcases h.2 with⟨rfl,h2⟩|⟨g,cap,cur,rfl,_,_,h4,_⟩
 ·exact⟨none,0,by rw[h2],by omega⟩
 ·exact⟨_,cap,rfl,h4⟩
theorem cap_le {a:Option Addr}(h:W.ownsRow base 5 1 (.slice a n cap) n xs):n≤cap:=by
 obtain⟨a1,c1,e,h1⟩:=owns_sliceB h;injection e with _ _ e3;omega
theorem fil_row (h:l.length≤n)(ho:W.ownsRow base 5 1 v (l.length+(n-l.length)) (valsB l++List.replicate (n-l.length) (.int .u8 0))):W.ownsRow base 5 1 v n (valsB (fil l n)):=by
 rw[valsB_zeros,show l.length+(n-l.length)=n by omega] at ho;exact ho
theorem but_alloc (w:World)(ob:Obj)(o:Option Nat):But w (w.alloc ob) o:=World.grownBy_alloc _ _ _
def newB (w:World)(v v':Value):Prop:=v'.ownBlock=v.ownBlock∨∃g,v'.ownBlock=some g∧w.heap.size≤g
theorem newB_a (w:World)(a:Option Addr)(n m cap cap':Nat):newB w (.slice a n cap) (.slice a m cap'):=.inl (by cases a<;>rfl)
theorem cdone_cut (f:Int)(at':Nat)(base:Nat)(a:Option Addr)(cap:Nat)(l:List UInt8)(w:World)(ho:w.ownsRow base 5 1 (.slice a l.length cap) l.length (valsB l))(hbase:base≤w.heap.size)(hat:at'≤67108864)(hl:l.length≤67108864):Calls Tryz.prog 173 #[(.agg #[.int .i64 (f),.int .i64 (at'),.string (⟨#[]⟩),.bool (true)]),.slice a l.length cap] w fun e w'=>∃v,e=.returned v∧w'.ownsRow base 5 1 v at' (valsB ((fil l at').take at'))∧But w w' (Value.slice a l.length cap).ownBlock∧newB w (.slice a l.length cap) v:=by
 obtain⟨i0,hi,hz0,hz1,hz2⟩:=info_parts infoB;have HO:Hid (w.ownsRow base 5 1 (.slice a l.length cap) l.length (valsB l)):=ho;have hcp:=cap_le ho;clear ho;by_cases hgt:l.length<at'
 ·have k1:((l.length:Int))<(at':Int):=by omega
  have k2:Hid ((at':Int)-(l.length:Int)=((at' - l.length:Nat):Int)):=(by omega:(at':Int)-(l.length:Int)=((at' - l.length:Nat):Int));have hne:some w.heap.size≠(Value.slice a l.length cap).ownBlock:=row_new HO.out (Nat.le_refl _);go_enter Tryz.func173,Tryz.ntmps173;go_wp2_with (at_builtin;go_must (refine wpList_zeros_own _ rfl _ _ _ _ rfl base 5 .i64 i0 (.int .u8 0) Tryz.underlying59 Tryz.underlying3 hi hz0 hz1 hz2 rfl rfl _ l.length _ rfl (World.ownsRow.alloc HO.out _) (at' - l.length) ?q1 ?q2 ?q3 ?q4 ?_))
  case q1=>exact congrArg (Value.int IntKind.i64) k2.out
  case q2=>omega
  case q3=>omega
  case q4=>first | omega | (simp;omega)
  intro v1 w1 ho1 hg1 hob1;have c3:w1.cell? ⟨w.heap.size,3,none⟩=some (.bool true):=hg1.cell (by go_simp) hne;have ho2:=fil_row (by omega) ho1;obtain⟨a1,cap1,rfl,hc1⟩:=owns_sliceB ho2;have HO1:Hid (w1.ownsRow base 5 1 (.slice a1 at' cap1) at' (valsB ((fil l at').take at'))):=own_eqN (own_takeN ho2 (Nat.le_refl at')) (by simp[valsB,List.map_take]);have HB1:Hid (But w w1 (Value.slice a l.length cap).ownBlock):=(but_alloc _ _ _).trans hg1;have k3:(at':Int)≤(cap1:Int):=by omega
  have k4:(0:Int)≤(at':Int):=by omega
  have HNB:Hid (newB w (.slice a l.length cap) (.slice a1 at' cap1)):=by
   rcases hob1 with h|h
   ·exact(.inl h:newB _ _ _)
   ·exact(.inr ⟨w.heap.size+1,h,by omega⟩:newB w (.slice a l.length cap) _)
  clear ho1 ho2 hg1 hob1;go_wp2_with fail
  go_ret;exact⟨_,rfl,HO1.out,HB1.out,HNB.out⟩
 ·have k1:¬((l.length:Int))<(at':Int):=by omega
  have k3:(at':Int)≤(cap:Int):=by omega
  have k4:(0:Int)≤(at':Int):=by omega
  have HO1:Hid (w.ownsRow base 5 1 (.slice a at' cap) at' (valsB ((fil l at').take at'))):=by
   show w.ownsRow base 5 1 (.slice a at' cap) at' (valsB ((fil l at').take at'));rw[fil_le (by omega)];have:=own_takeN HO.out (show at'≤l.length by omega);exact own_eqN this (by simp[valsB,List.map_take])
  go_enter Tryz.func173,Tryz.ntmps173;go_wp2_with fail
  go_ret;exact⟨_,rfl,World.ownsRow.alloc HO1.out _,but_alloc _ _ _,newB_a w a l.length at' cap cap⟩
theorem but_drew (h:But w X o):But w X.drew o:=⟨h.os,h.tape,h.output,h.size,h.block⟩
theorem grown_drew (h:X.drew.grownBy Y o):X.grownBy Y o:=⟨h.os,h.tape,h.output,h.size,h.block⟩
theorem but_own (h:But w X o)(hg:X.grownBy Y (some g))(hn:some g=o∨w.heap.size≤g):But w Y o:=
 ⟨by rw[hg.os,h.os],by rw[hg.tape,h.tape],by rw[hg.output,h.output],Nat.le_trans h.size hg.size,fun b hl hb=>by
  have hne:some b≠some g:=fun e=>by
   injection e with e;rcases hn with hn | hn
   ·exact hb (by rw[e,hn])
   ·omega
  rw[hg.block b (Nat.lt_of_lt_of_le hl h.size) hne];exact h.block b hl hb⟩
theorem step_copyN {o:Oper}(hg:o.guard=none)(d s:Operand)(tb ts:TypeId)(hop:o.op=Op.call { callee:=Callee.builtin Builtin.copy,args:=#[d,s],argTypes:=#[tb,ts]})(u:Value)(t:ByteArray)(hd:a.eval d=u)(hs:a.eval s=.string t)(hr:(Builtin.copy_ #[tb,ts] o.type #[u,.string t]).run P w=.ok v' w')(hK:K (a.put o.dst v') w'):if Region.wanted o (yielded ops a.tmps)=true then Oper.wp P o a w K Q else E:=by
 have hw:Region.wanted o (yielded ops a.tmps)=true:=by simp[Region.wanted,hg]
 rw[if_pos hw];unfold Oper.wp;simp[execOp,hop,resolve,invoke,builtin,hd,hs,hr,Result.andThen];exact hK
def putL (at':Nat)(t:ByteArray)(l:List UInt8):List UInt8:=l.take at'++ll t++l.drop (at'+t.size)
theorem cdone_put (f:Int)(at':Nat)(t:ByteArray)(base:Nat)(a:Option Addr)(cap:Nat)(l:List UInt8)(w:World)(ho:w.ownsRow base 5 1 (.slice a l.length cap) l.length (valsB l))(hbase:base≤w.heap.size)(hat:at'+t.size≤67108864)(hl:l.length≤67108864)(ht:0<t.size):Calls Tryz.prog 173 #[(.agg #[.int .i64 (f),.int .i64 (at'),.string (t),.bool (false)]),.slice a l.length cap] w fun e w'=>∃v,e=.returned v∧w'.ownsRow base 5 1 v (fil l (at'+t.size)).length (valsB (putL at' t (fil l (at'+t.size))))∧But w w' (Value.slice a l.length cap).ownBlock∧newB w (.slice a l.length cap) v:=by
 obtain⟨i0,hi,hz0,hz1,hz2⟩:=info_parts infoB;have HO:Hid (w.ownsRow base 5 1 (.slice a l.length cap) l.length (valsB l)):=ho;have hcp:=cap_le ho;clear ho;have hne:some w.heap.size≠(Value.slice a l.length cap).ownBlock:=row_new HO.out (Nat.le_refl _);by_cases hgt:l.length<at'+t.size
 ·have k1:((l.length:Int))<(at':Int)+(t.size:Int):=by omega
  have k2:Hid ((at':Int)+(t.size:Int)-(l.length:Int)=((at'+t.size-l.length:Nat):Int)):=(by omega:(at':Int)+(t.size:Int)-(l.length:Int)=((at'+t.size-l.length:Nat):Int));go_enter Tryz.func173,Tryz.ntmps173;go_wp2_with (at_builtin;go_must (refine wpList_zeros_own _ rfl _ _ _ _ rfl base 5 .i64 i0 (.int .u8 0) Tryz.underlying59 Tryz.underlying3 hi hz0 hz1 hz2 rfl rfl _ l.length _ rfl (World.ownsRow.alloc HO.out _) (at'+t.size-l.length) ?q1 ?q2 ?q3 ?q4 ?_))
  case q1=>exact congrArg (Value.int IntKind.i64) k2.out
  case q2=>omega
  case q3=>omega
  case q4=>first | omega | (simp;omega)
  intro v1 w1 ho1 hg1 hob1;have c1:w1.cell? ⟨w.heap.size,1,none⟩=some (.int .i64 at'):=hg1.cell (by go_simp) hne;have c2:w1.cell? ⟨w.heap.size,2,none⟩=some (.string t):=hg1.cell (by go_simp) hne;have c3:w1.cell? ⟨w.heap.size,3,none⟩=some (.bool false):=hg1.cell (by go_simp) hne;have ho2:=fil_row (by omega) ho1;obtain⟨g,cap1,rfl,hc1,_⟩:=World.ownsRow.form ho2 (by omega);have hcc:=cap_le ho2;have HB1:Hid (But w w1 (Value.slice a l.length cap).ownBlock):=(but_alloc _ _ _).trans hg1;have k3:(at':Int)≤(at':Int)+(t.size:Int):=by omega
  have k4:(0:Int)≤(at':Int):=by omega
  have k5:¬at'=cap1:=by omega
  obtain⟨w2,hr,ho3,hg3⟩:=own_copyN (W:=w1.drew) ho2 at' t.size (cap1-at') t (Nat.le_refl _) (Nat.le_refl _);have HR:Hid _:=hr;go_wp2_with fail
  have hfl:(fil l (at'+t.size)).length=at'+t.size:=by rw[fil_len];omega
  have HO3:Hid (w2.ownsRow base 5 1 (.slice (some ⟨g,0,none⟩) (at'+t.size) cap1) (fil l (at'+t.size)).length (valsB (putL at' t (fil l (at'+t.size))))):=(by rw[hfl];exact ho3:w2.ownsRow base 5 1 (.slice (some ⟨g,0,none⟩) (at'+t.size) cap1) (fil l (at'+t.size)).length (valsB (putL at' t (fil l (at'+t.size)))));have hg':some g=(Value.slice a l.length cap).ownBlock∨w.heap.size≤g:=by
   rcases hob1 with h|h
   ·exact .inl h
   ·injection h with h;have h':g=w.heap.size+1:=h;exact .inr (by omega)
  have HB3:Hid (But w w2 (Value.slice a l.length cap).ownBlock):=but_own HB1.out (grown_drew hg3) hg';have HNB:Hid (newB w (.slice a l.length cap) (.slice (some ⟨g,0,none⟩) (at'+t.size) cap1)):=by
   rcases hob1 with h|h
   ·exact(.inl h:newB _ _ _)
   ·exact(.inr ⟨w.heap.size+1,h,by omega⟩:newB w (.slice a l.length cap) _)
  clear ho1 ho2 hg1 hr ho3 hg3 hfl hob1 hg'
  go_region_law (refine step_copyN rfl (.tmp 30) (.tmp 32) 59 9 rfl _ t ?s1 ?s2 HR.out ?_;(case s1=>go_simp;intro h;omega);(case s2=>go_simp))
  all_goals
   go_wp2;go_ret;exact⟨_,rfl,HO3.out,HB3.out,HNB.out⟩
 ·obtain⟨g,cap1,e,hc1,_⟩:=World.ownsRow.form HO.out (by omega);injection e with q1 q2 q3;subst q1 q3;have k1:¬((l.length:Int))<(at':Int)+(t.size:Int):=by omega
  have k3:(at':Int)≤(l.length:Int):=by omega
  have k4:(0:Int)≤(at':Int):=by omega
  have k5:¬at'=cap:=by omega
  obtain⟨w2,hr,ho3,hg3⟩:=own_copyN (W:=(w.alloc (.cells #[.int .i64 f,.int .i64 at',.string t,.bool false] 181)).drew) (World.ownsRow.alloc HO.out _) at' (l.length-at') (cap-at') t (by omega) (by omega);have HR:Hid _:=hr;have hfl:fil l (at'+t.size)=l:=fil_le (by omega);have HO3:Hid (w2.ownsRow base 5 1 (.slice (some ⟨g,0,none⟩) l.length cap) (fil l (at'+t.size)).length (valsB (putL at' t (fil l (at'+t.size))))):=(by rw[hfl];exact ho3:w2.ownsRow base 5 1 (.slice (some ⟨g,0,none⟩) l.length cap) (fil l (at'+t.size)).length (valsB (putL at' t (fil l (at'+t.size)))));have HB3:Hid (But w w2 (Value.slice (some ⟨g,0,none⟩) l.length cap).ownBlock):=(but_alloc _ _ _).trans (grown_drew hg3);clear hr ho3 hg3 hfl;go_enter Tryz.func173,Tryz.ntmps173;go_wp2_with fail
  go_region_law (refine step_copyN rfl (.tmp 30) (.tmp 32) 59 9 rfl _ t ?s1 ?s2 HR.out ?_;(case s1=>go_simp;intro h;omega);(case s2=>go_simp))
  all_goals
   go_wp2;go_ret;exact⟨_,rfl,HO3.out,HB3.out,.inl rfl⟩
theorem putL_0 {at':Nat}(ht:t.size=0)(l:List UInt8):putL at' t l=l:=by
 have:ll t=[]:=List.eq_nil_of_length_eq_zero (by rw[ll_len];exact ht);unfold putL;rw[this,ht,List.append_nil,Nat.add_zero,List.take_append_drop]
theorem cdone_nop (f:Int)(at':Nat)(base:Nat)(a:Option Addr)(cap:Nat)(l:List UInt8)(w:World)(ho:w.ownsRow base 5 1 (.slice a l.length cap) l.length (valsB l))(hbase:base≤w.heap.size)(hat:at'≤67108864)(hl:l.length≤67108864):Calls Tryz.prog 173 #[(.agg #[.int .i64 (f),.int .i64 (at'),.string (⟨#[]⟩),.bool (false)]),.slice a l.length cap] w fun e w'=>∃v,e=.returned v∧w'.ownsRow base 5 1 v (fil l at').length (valsB (fil l at'))∧But w w' (Value.slice a l.length cap).ownBlock∧newB w (.slice a l.length cap) v:=by
 obtain⟨i0,hi,hz0,hz1,hz2⟩:=info_parts infoB;have HO:Hid (w.ownsRow base 5 1 (.slice a l.length cap) l.length (valsB l)):=ho;have hcp:=cap_le ho;clear ho;have hne:some w.heap.size≠(Value.slice a l.length cap).ownBlock:=row_new HO.out (Nat.le_refl _);have k4:(0:Int)≤(at':Int):=by omega
 by_cases hgt:l.length<at'
 ·have k1:((l.length:Int))<(at':Int):=by omega
  have k2:Hid ((at':Int)-(l.length:Int)=((at' - l.length:Nat):Int)):=(by omega:(at':Int)-(l.length:Int)=((at' - l.length:Nat):Int));have hfl:(fil l at').length=at':=by rw[fil_len];omega
  rw[hfl];clear hfl;go_enter Tryz.func173,Tryz.ntmps173;go_wp2_with (at_builtin;go_must (refine wpList_zeros_own _ rfl _ _ _ _ rfl base 5 .i64 i0 (.int .u8 0) Tryz.underlying59 Tryz.underlying3 hi hz0 hz1 hz2 rfl rfl _ l.length _ rfl (World.ownsRow.alloc HO.out _) (at' - l.length) ?q1 ?q2 ?q3 ?q4 ?_))
  case q1=>exact congrArg (Value.int IntKind.i64) k2.out
  case q2=>omega
  case q3=>omega
  case q4=>first | omega | (simp;omega)
  intro v1 w1 ho1 hg1 hob1;have c1:w1.cell? ⟨w.heap.size,1,none⟩=some (.int .i64 at'):=hg1.cell (by go_simp) hne;have c2:w1.cell? ⟨w.heap.size,2,none⟩=some (.string ⟨#[]⟩):=hg1.cell (by go_simp) hne;have c3:w1.cell? ⟨w.heap.size,3,none⟩=some (.bool false):=hg1.cell (by go_simp) hne;have ho2:=fil_row (by omega) ho1;obtain⟨g,cap1,rfl,hc1,_⟩:=World.ownsRow.form ho2 (by omega);have hcc:=cap_le ho2;have HO2:Hid (w1.drew.ownsRow base 5 1 (.slice (some ⟨g,0,none⟩) at' cap1) at' (valsB (fil l at'))):=(ho2:w1.ownsRow base 5 1 (.slice (some ⟨g,0,none⟩) at' cap1) at' (valsB (fil l at')));have HB1:Hid (But w w1.drew (Value.slice a l.length cap).ownBlock):=but_drew ((but_alloc _ _ _).trans hg1);have HNB:Hid (newB w (.slice a l.length cap) (.slice (some ⟨g,0,none⟩) at' cap1)):=by
   rcases hob1 with h|h
   ·exact(.inl h:newB _ _ _)
   ·exact(.inr ⟨w.heap.size+1,h,by omega⟩:newB w (.slice a l.length cap) _)
  clear ho1 ho2 hg1 hob1;rcases Decidable.em (at'=cap1) with rfl | hce
  all_goals go_wp2_with fail
  all_goals
   go_region_law (refine step_copyN rfl (.tmp 30) (.tmp 32) 59 9 rfl _ ⟨#[]⟩ rfl ?s2 (copy0N _ _ _ _ _ rfl) ?_;(case s2=>go_simp))
  all_goals
   go_wp2;go_ret;exact⟨_,rfl,HO2.out,HB1.out,HNB.out⟩
 ·have k1:¬((l.length:Int))<(at':Int):=by omega
  have k3:(at':Int)≤(l.length:Int):=by omega
  have hfl:fil l at'=l:=fil_le (by omega);rw[hfl];clear hfl;rcases Decidable.em (at'=cap) with rfl | hce
  all_goals
   go_enter Tryz.func173,Tryz.ntmps173;go_wp2_with fail
   go_region_law (refine step_copyN rfl (.tmp 30) (.tmp 32) 59 9 rfl _ ⟨#[]⟩ rfl ?s2 (copy0N _ _ _ _ _ rfl) ?_;(case s2=>go_simp))
  all_goals
   go_wp2;go_ret;exact⟨_,rfl,World.ownsRow.alloc HO.out _,but_drew (but_alloc _ _ _),.inl rfl⟩
theorem onL_put {at':Nat}:onL at' t false l=putL at' t (fil l (at'+t.size)):=rfl
theorem onL_cut {at':Nat}:onL at' ⟨#[]⟩ true l=(fil l at').take at':=rfl
theorem empty_ofN (h:t.size=0):t=⟨#[]⟩:=ll_inj (List.eq_nil_of_length_eq_zero (by rw[ll_len];exact h))
theorem cdone (f:Int)(at':Nat)(t:ByteArray)(cut:Bool)(base:Nat)(v:Value)(l:List UInt8)(w:World)(ho:w.ownsRow base 5 1 v l.length (valsB l))(hbase:base≤w.heap.size)(hat:at'+t.size≤67108864)(hl:l.length≤67108864)(hc:cut=true→t.size=0):Calls Tryz.prog 173 #[(.agg #[.int .i64 (f),.int .i64 (at'),.string (t),.bool (cut)]),v] w fun e w'=>∃v',e=.returned v'∧w'.ownsRow base 5 1 v' (onL at' t cut l).length (valsB (onL at' t cut l))∧But w w' v.ownBlock∧newB w v v':=by
 obtain⟨a,cap,rfl,_⟩:=owns_sliceB ho;cases cut with
 | true =>
  obtain rfl:=empty_ofN (hc rfl);have hn:(onL at' ⟨#[]⟩ true l).length=at':=by rw[onL_len];rfl
  rw[hn];exact cdone_cut f at' base a cap l w ho hbase (by omega) hl
 | false =>
  have hn:(onL at' t false l).length=(fil l (at'+t.size)).length:=by rw[onL_len,fil_len];rfl
  rw[hn];by_cases ht:0<t.size
  ·exact cdone_put f at' t base a cap l w ho hbase hat hl ht
  ·obtain rfl:=empty_ofN (show t.size=0 by omega);refine(cdone_nop f at' base a cap l w ho hbase (by omega) hl).mono fun e w' h=>?_
   obtain⟨v',e1,h2,h3⟩:=h;refine⟨v',e1,?_,h3⟩;rw[onL_put,putL_0 rfl];exact h2
structure Chg where
 f:Nat
 p:Nat
 t:ByteArray
 c:Bool
def chgCells (x:Chg):List Value:=[.int .i64 x.f,.int .i64 x.p,.string x.t,.bool x.c]
def chgsCells (l:List Chg):List Value:=l.flatMap chgCells
def okC (x:Chg):Prop:=x.f<2∧x.p+x.t.size≤67108864∧(x.c=true→x.t.size=0)
structure PD (X:World) (B D:Nat) (vb:Nat→Value) (vw:Value) (lb:Nat→List UInt8) (ws:List Chg) (left count:Int) (down:Bool):Prop where
 blk:X.heap[D]?=some (.cells #[vb 0,vb 1,vb 2,vb 3,vw,.int .i64 left,.int .i64 count,.bool down] 74 (0,0))
 low:B=D
 rows:∀i,i<4→X.ownsRow B 5 1 (vb i) (lb i).length (valsB (lb i))
 wrow:X.ownsRow B 181 4 vw ws.length (chgsCells ws)
 dif:∀i j,i<4→j<4→¬i=j→(vb i).ownBlock=none∨(vb i).ownBlock≠(vb j).ownBlock
 size:∀i,i<4→(lb i).length≤67108864
 oks:∀x∈ws,okC x
theorem PD.lt {vw:Value}{ws:List Chg}(h:PD X B D vb vw lb ws left count down):D<X.heap.size:=(Array.getElem?_eq_some_iff.1 h.blk).1
theorem PD.below {vw:Value}{ws:List Chg}(h:PD X B D vb vw lb ws left count down)(hb:Below X.heap.size X Y):PD Y B D vb vw lb ws left count down:=
 ⟨(hb.block D h.lt).trans h.blk,h.low,fun i hi=>row_below (h.rows i hi) hb,row_below h.wrow hb,h.dif,h.size,h.oks⟩
theorem PD.cells {vw:Value}{ws:List Chg}(h:PD X B D vb vw lb ws left count down):X.cell? ⟨D,0,none⟩=some (vb 0)∧X.cell? ⟨D,1,none⟩=some (vb 1)∧X.cell? ⟨D,2,none⟩=some (vb 2)∧X.cell? ⟨D,3,none⟩=some (vb 3)∧X.cell? ⟨D,4,none⟩=some vw∧X.cell? ⟨D,5,none⟩=some (.int .i64 left)∧X.cell? ⟨D,6,none⟩=some (.int .i64 count)∧X.cell? ⟨D,7,none⟩=some (.bool down):=by
 refine⟨?_,?_,?_,?_,?_,?_,?_,?_⟩<;>simp[World.cell?,h.blk]
theorem PD.unfrozen {vw:Value}{ws:List Chg}(h:PD X B D vb vw lb ws left count down)(k:Nat):X.frozen? ⟨D,k,none⟩=false:=by simp[World.frozen?,h.blk]
def fitsD (f at' n:Int):Bool:=decide (0≤f∧f≤1∧0≤at'∧0≤n∧at'≤67108864∧n≤67108864-at')
def askE (f at' n:Int)(down:Bool):Int:=if fitsD f at' n then(if down then 2 else 0) else 1
theorem PD.other {vw:Value}{ws:List Chg}(h:PD X B D vb vw lb ws left count down)(hg:X.grownBy Y (some D))(hb:Y.heap[D]?=some (.cells #[vb 0,vb 1,vb 2,vb 3,vw,.int .i64 left',.int .i64 count',.bool down'] 74 (0,0))):PD Y B D vb vw lb ws left' count' down':=by
 have hne:∀(e:TypeId) (size:Nat) (v:Value) (n:Nat) (xs:List Value),¬e=74→X.ownsRow B e size v n xs→v.ownBlock=none∨v.ownBlock≠some D:=fun e size v n xs he ho=>by
  rcases ho.2 with⟨rfl,_⟩|⟨g,cap,cur,rfl,_,hgg,_⟩
  ·exact .inl rfl
  ·refine .inr fun hx=>?_
   injection hx with hx;have hx':g=D:=hx;rw[hx',h.blk] at hgg;injection hgg with hgg;injection hgg with _ h2 _;exact he h2.symm
 exact⟨hb,h.low,fun i hi=>World.ownsRow.kept (h.rows i hi) hg (hne _ _ _ _ _ (by decide) (h.rows i hi)),World.ownsRow.kept h.wrow hg (hne _ _ _ _ _ (by decide) h.wrow),h.dif,h.size,h.oks⟩
theorem casked (f at' n:Int)(X:World)(B D:Nat)(vb:Nat→Value)(vw:Value)(lb:Nat→List UInt8)(ws:List Chg)(left count:Int)(down:Bool)(h:PD X B D vb vw lb ws left count down):Calls Tryz.prog 122 #[(.pointer (some ⟨D,0,none⟩)),.int .i64 f,.int .i64 at',.int .i64 n] X fun e w'=>e=.returned (.int .i64 (askE f at' n down))∧w'=X:=by
 obtain⟨-,-,-,-,-,-,-,c7⟩:=h.cells;clear h;by_cases h1:f<0
 ·have e:askE f at' n down=1:=by unfold askE fitsD;rw[if_neg (by simp;omega)]
  rw[e];clear e;go_enter Tryz.func122,Tryz.ntmps122;go_wp2;go_ret;exact⟨rfl,rfl⟩
 by_cases h2:2≤f
 ·have e:askE f at' n down=1:=by unfold askE fitsD;rw[if_neg (by simp;omega)]
  rw[e];clear e;go_enter Tryz.func122,Tryz.ntmps122;go_wp2;go_ret;exact⟨rfl,rfl⟩
 by_cases h3:at'<0
 ·have e:askE f at' n down=1:=by unfold askE fitsD;rw[if_neg (by simp;omega)]
  rw[e];clear e;go_enter Tryz.func122,Tryz.ntmps122;go_wp2;go_ret;exact⟨rfl,rfl⟩
 by_cases h4:n<0
 ·have e:askE f at' n down=1:=by unfold askE fitsD;rw[if_neg (by simp;omega)]
  rw[e];clear e;go_enter Tryz.func122,Tryz.ntmps122;go_wp2;go_ret;exact⟨rfl,rfl⟩
 by_cases h5:67108864<at'
 ·have e:askE f at' n down=1:=by unfold askE fitsD;rw[if_neg (by simp;omega)]
  rw[e];clear e;go_enter Tryz.func122,Tryz.ntmps122;go_wp2;go_ret;exact⟨rfl,rfl⟩
 by_cases h6:67108864-at'<n
 ·have e:askE f at' n down=1:=by unfold askE fitsD;rw[if_neg (by simp;omega)]
  rw[e];clear e;go_enter Tryz.func122,Tryz.ntmps122;go_wp2;go_ret;exact⟨rfl,rfl⟩
 have e:askE f at' n down=if down then 2 else 0:=by unfold askE fitsD;rw[if_pos (by simp;omega)]
 rw[e];clear e;cases down
 ·go_enter Tryz.func122,Tryz.ntmps122;go_wp2;go_ret;exact⟨rfl,rfl⟩
 ·go_enter Tryz.func122,Tryz.ntmps122;go_wp2;go_ret;exact⟨rfl,rfl⟩
theorem set_blk (h:X.heap[D]?=some (.cells cur e fz)):(X.setCell ⟨D,k,none⟩ v).heap[D]?=some (.cells (cur.setIfInBounds k v) e fz):=by
 obtain⟨hlt,hk⟩:=Array.getElem?_eq_some_iff.1 h;show(X.heap.modify D _)[D]?=_;rw[Array.getElem?_eq_getElem (by rw[Array.size_modify];exact hlt),Array.getElem_modify_self,hk];rfl
theorem set_grown (X:World)(D k:Nat)(v:Value):X.grownBy (X.setCell ⟨D,k,none⟩ v) (some D):=But.set (But.refl X (some D)) k v
def begPost (f at' n:Int)(X:World)(B D:Nat)(vb:Nat→Value)(vw:Value)(lb:Nat→List UInt8)(ws:List Chg)(left count:Int)(down:Bool)(e:Ending)(w':World):Prop:=
 (¬askE f at' n down=0∧e=.returned (.int .i64 (askE f at' n down))∧w'=X) ∨
 (askE f at' n down=0∧left=0∧e=.returned (.int .i64 2)∧PD w' B D vb vw lb ws left count true∧But X w' (some D)) ∨
 (askE f at' n down=0∧¬left=0∧e=.returned (.int .i64 0)∧PD w' B D vb vw lb ws (if 0<left then left-1 else left) (count+1) down∧But X w' (some D))
theorem cbegin (f at' n:Int)(X:World)(B D:Nat)(vb:Nat→Value)(vw:Value)(lb:Nat→List UInt8)(ws:List Chg)(left count:Int)(down:Bool)(h:PD X B D vb vw lb ws left count down)(hl:-9223372036854775808≤left∧left≤9223372036854775807)(hc:0≤count∧count≤4611686018427387904):Calls Tryz.prog 133 #[(.pointer (some ⟨D,0,none⟩)),.int .i64 f,.int .i64 at',.int .i64 n] X (begPost f at' n X B D vb vw lb ws left count down):=by
 obtain⟨-,-,-,-,-,c5,c6,c7⟩:=h.cells;have f5:=h.unfrozen 5;have f6:=h.unfrozen 6;have f7:=h.unfrozen 7;have H:Hid (PD X B D vb vw lb ws left count down):=h;clear h;by_cases ha:askE f at' n down=0
 ·have HA:Hid (askE f at' n down=0):=ha;clear ha;by_cases h0:left=0
  ·subst h0;have HP:Hid (PD (X.setCell ⟨D,7,none⟩ (.bool true)) B D vb vw lb ws 0 count true):=PD.other H.out (set_grown X D 7 _) (by rw[set_blk H.out.blk];rfl);go_enter Tryz.func133,Tryz.ntmps133;go_wp2_with fail
   refine(casked f at' n X B D vb vw lb ws 0 count down H.out).mono ?_;rintro e w'⟨rfl,rfl⟩;rw[HA.out];go_wp2_with fail
   go_ret;exact .inr (.inl ⟨HA.out,rfl,rfl,HP.out,set_grown _ D 7 _⟩)
  ·by_cases h1:0<left
   ·have HP:Hid (PD ((X.setCell ⟨D,5,none⟩ (.int .i64 (left-1))).setCell ⟨D,6,none⟩ (.int .i64 (count+1))) B D vb vw lb ws (left-1) (count+1) down):=PD.other H.out ((But.refl X (some D)).set 5 _ |>.set 6 _) (by rw[set_blk (set_blk H.out.blk)];rfl);go_enter Tryz.func133,Tryz.ntmps133;go_wp2_with fail
    refine(casked f at' n X B D vb vw lb ws left count down H.out).mono ?_;rintro e w'⟨rfl,rfl⟩;rw[HA.out];go_wp2_with fail
    go_ret;exact .inr (.inr ⟨HA.out,h0,rfl,by rw[if_pos h1];exact HP.out,(But.refl _ (some D)).set 5 _ |>.set 6 _⟩)
   ·have HP:Hid (PD (X.setCell ⟨D,6,none⟩ (.int .i64 (count+1))) B D vb vw lb ws left (count+1) down):=PD.other H.out (set_grown X D 6 _) (by rw[set_blk H.out.blk];rfl);go_enter Tryz.func133,Tryz.ntmps133;go_wp2_with fail
    refine(casked f at' n X B D vb vw lb ws left count down H.out).mono ?_;rintro e w'⟨rfl,rfl⟩;rw[HA.out];go_wp2_with fail
    go_ret;exact .inr (.inr ⟨HA.out,h0,rfl,by rw[if_neg (show ¬0<left by omega)];exact HP.out,set_grown _ D 6 _⟩)
 ·go_enter Tryz.func133,Tryz.ntmps133;go_wp2_with fail
  refine(casked f at' n X B D vb vw lb ws left count down H.out).mono ?_;rintro e w'⟨rfl,rfl⟩;go_wp2_with fail
  go_ret;exact .inl ⟨ha,rfl,rfl⟩
def farT (T:TypeId→Bool)(w:World)(b:Nat):Prop:=∀cur e fz,w.heap[b]?=some (.cells cur e fz)→T e=false
theorem farT.of {T:TypeId→Bool}(h:farT T w b)(e:w'.heap[b]?=w.heap[b]?):farT T w' b:=fun cur t fz hh=>h cur t fz (e ▸ hh)
def tyP (e:TypeId):Bool:=decide (e=74) || decide (e=181) || decide (e=5)
def isD (w:World)(B:Nat):Prop:=∃cur fz,w.heap[B]?=some (.cells cur 74 fz)
def ownB (w:World)(B b:Nat):Prop:=∃cur fz v,w.heap[B]?=some (.cells cur 74 fz)∧v∈cur∧Value.ownBlock v=some b
def isU (w:World)(b:Nat):Prop:=∃cur fz,w.heap[b]?=some (.cells cur 5 fz)
structure KpU (B:Nat) (w w':World):Prop where
 disk:isD w B→isD w' B
 stay:isD w B→∀b,b<w.heap.size→isU w b→¬ownB w B b→w'.heap[b]?=w.heap[b]?
 rows:isD w B→∀b,b<w.heap.size→isU w b→ownB w' B b→ownB w B b
theorem isU.of (h:isU w b)(e:w'.heap[b]?=w.heap[b]?):isU w' b:=by
 obtain⟨cur,fz,h⟩:=h;exact⟨cur,fz,e.trans h⟩
theorem ownB.of (h:ownB w' B b)(e:w'.heap[B]?=w.heap[B]?):ownB w B b:=by
 obtain⟨cur,fz,v,h,k⟩:=h;exact⟨cur,fz,v,e.symm.trans h,k⟩
theorem isD.of (h:isD w B)(e:w'.heap[B]?=w.heap[B]?):isD w' B:=by
 obtain⟨cur,fz,h⟩:=h;exact⟨cur,fz,e.trans h⟩
theorem isD.lt (h:isD w B):B<w.heap.size:=by
 obtain⟨cur,fz,h⟩:=h;exact(Array.getElem?_eq_some_iff.1 h).1
theorem KpU.refl (B:Nat)(w:World):KpU B w w:=⟨id,fun _ _ _ _ _=>rfl,fun _ _ _ _ h=>h⟩
theorem KpU.trans (h:KpU B w X)(k:KpU B X Y)(hs:w.heap.size≤X.heap.size):KpU B w Y:=by
 refine⟨fun d=>k.disk (h.disk d),fun d b hb hu hn=>?_,fun d b hb hu ho=>?_⟩
 ·have e:=h.stay d b hb hu hn;exact(k.stay (h.disk d) b (Nat.lt_of_lt_of_le hb hs) (hu.of e) (fun o=>hn (h.rows d b hb hu o))).trans e
 ·by_cases hn:ownB w B b
  ·exact hn
  ·have e:=h.stay d b hb hu hn;exact h.rows d b hb hu (k.rows (h.disk d) b (Nat.lt_of_lt_of_le hb hs) (hu.of e) ho)
theorem KpU.all (h:∀b,b<w.heap.size→X.heap[b]?=w.heap[b]?):KpU B w X:=
 ⟨fun d=>d.of (h B d.lt),fun _ b hb _ _=>h b hb,fun d _ _ _ ho=>ho.of (h B d.lt)⟩
theorem KpU.below (h:Below w.heap.size w X):KpU B w X:=KpU.all h.block
theorem KpU.far {c:Nat}(hg:w.grownBy X (some c))(hf:farT tyP w c):KpU B w X:=by
 have nD:isD w B→X.heap[B]?=w.heap[B]?:=fun d=>hg.block B d.lt (fun e=>by
  injection e with e;subst e;obtain⟨cur,fz,d⟩:=d;have:=hf _ _ _ d;exact absurd this (by decide))
 refine⟨fun d=>d.of (nD d),fun _ b hb hu _=>hg.block b hb (fun e=>?_),fun d _ _ _ ho=>ho.of (nD d)⟩;injection e with e;subst e;obtain⟨cur,fz,d⟩:=hu;have:=hf _ _ _ d;exact absurd this (by decide)
theorem KpU.newer {r:Nat}(h:KpU B w X)(hg:X.grownBy Y (some r))(hr:w.heap.size≤r)(hs:w.heap.size≤X.heap.size):KpU B w Y:=by
 have st:∀b,b<w.heap.size→Y.heap[b]?=X.heap[b]?:=fun b hb=>hg.block b (Nat.lt_of_lt_of_le hb hs) (fun e=>by injection e with e;omega)
 exact⟨fun d=>(h.disk d).of (st B d.lt),fun d b hb hu hn=>(st b hb).trans (h.stay d b hb hu hn),fun d b hb hu ho=>h.rows d b hb hu (ho.of (st B d.lt))⟩
theorem KpU.set (h:KpU B w X)(hv:∀b,Value.ownBlock v=some b→b<w.heap.size→isU w b→ownB w B b):KpU B w (X.setCell ⟨B,k,none⟩ v):=by
 refine⟨fun d=>?_,fun d b hb hu hn=>?_,fun d b hl hu ho=>?_⟩
 ·obtain⟨cur,fz,d⟩:=h.disk d;exact⟨_,_,set_blk d⟩
 ·refine(Below.heap_setCell _ _ _ b (fun e=>?_)).trans (h.stay d b hb hu hn);have e:b=B:=e;subst e;obtain⟨cur,fz,d⟩:=d;obtain⟨cu,f,hu⟩:=hu;rw[d] at hu;injection hu with hu;injection hu with _ hu _;exact absurd hu (by decide)
 ·obtain⟨cur,fz,q⟩:=h.disk d;obtain⟨cu,f,u,hh,hm,hb⟩:=ho;rw[set_blk q] at hh;injection hh with hh;injection hh with h1 _ _;rw[←h1] at hm;rcases Array.mem_or_eq_of_mem_setIfInBounds hm with hm|hm
  ·exact h.rows d b hl hu ⟨cur,fz,u,q,hm,hb⟩
  ·subst hm;exact hv b hb hl hu
structure BelT (T:TypeId→Bool) (B:Nat) (w w':World):Prop extends Below B w w' where
 far:∀b,b<w.heap.size→farT T w b→w'.heap[b]?=w.heap[b]?
 u:KpU B w w'
theorem BelT.refl (T:TypeId→Bool)(B:Nat)(w:World):BelT T B w w:=⟨Below.refl _ _,fun _ _ _=>rfl,KpU.refl _ _⟩
theorem BelT.trans {T:TypeId→Bool}(h:BelT T B w X)(k:BelT T B X Y):BelT T B w Y:=
 ⟨h.toBelow.trans k.toBelow,fun b hb hf=>(k.far b (Nat.lt_of_lt_of_le hb h.size) (hf.of (h.far b hb hf))).trans (h.far b hb hf),h.u.trans k.u h.size⟩
theorem BelT.alloc {T:TypeId→Bool}(h:BelT T B w X)(hB:B≤X.heap.size)(o:Obj):BelT T B w (X.alloc o):=
 ⟨h.toBelow.alloc hB o,fun b hb hf=>(heap_alloc_old X o (Nat.lt_of_lt_of_le hb h.size)).trans (h.far b hb hf),h.u.trans (KpU.all fun _ hb=>heap_alloc_old X o hb) h.size⟩
theorem BelT.setD {T:TypeId→Bool}(h:BelT T B w X)(hD:B=D)(ht:D<w.heap.size→¬farT T w D)(hv:∀b,Value.ownBlock v=some b→b<w.heap.size→isU w b→ownB w B b):BelT T B w (X.setCell ⟨D,k,none⟩ v):=by
 subst hD;exact⟨h.toBelow.setCell (Nat.le_refl _) _,fun b hb hf=>by
  rw[Below.heap_setCell _ _ _ b (fun e=>by have e:b=B:=e;subst e;exact ht hb hf)];exact h.far b hb hf,h.u.set hv⟩
theorem BelT.row {T:TypeId→Bool}(h:But w Y o)(hB:B≤w.heap.size)(ho:∀b,o=some b→B≤b∧¬farT T w b)(hu:KpU B w Y):BelT T B w Y:=
 ⟨⟨h.os,h.tape,h.output,h.size,fun b hl=>h.block b (by omega) (fun e=>by have:=(ho b e.symm).1;omega)⟩,fun b hb hf=>h.block b hb (fun e=>(ho b e.symm).2 hf),hu⟩
theorem row_nf {T:TypeId→Bool}(he:T e=true)(h:w.ownsRow B e size v n xs):∀b,v.ownBlock=some b→B≤b∧¬farT T w b:=fun b hb=>by
 refine⟨(World.ownsRow.lt h b hb).1,fun hf=>?_⟩;rcases h.2 with⟨rfl,_⟩ | ⟨g,cap,cur,rfl,_,hgg,_⟩
 ·cases hb
 ·injection hb with hb;have hb:g=b:=hb;subst hb;have:=hf _ _ _ hgg;rw[he] at this;cases this
theorem blk_nf {T:TypeId→Bool}(he:T e=true)(h:w.heap[D]?=some (.cells cur e fz)):¬farT T w D:=fun hf=>by
 have:=hf _ _ _ h;rw[he] at this;cases this
theorem PD.nf {vw:Value}{ws:List Chg}(h:PD X B D vb vw lb ws left count down):¬farT tyP X D:=blk_nf (by decide) h.blk
theorem PD.isD {vw:Value}{ws:List Chg}(h:PD X B D vb vw lb ws left count down):isD X B:=⟨_,_,by rw[h.low];exact h.blk⟩
theorem PD.ownB {vw:Value}{ws:List Chg}(h:PD X B D vb vw lb ws left count down)(hk:k<4)(hb:(vb k).ownBlock=some b):ownB X B b:=by
 refine⟨_,_,vb k,by rw[h.low];exact h.blk,?_,hb⟩;rcases(show k=0∨k=1∨k=2∨k=3 by omega) with rfl | rfl | rfl | rfl<;>simp
theorem PD.kpRow {vw:Value}{ws:List Chg}(h:PD X B D vb vw lb ws left count down)(hk:k<4)(hb:But X Y (vb k).ownBlock)(hne:some D≠(vb k).ownBlock):KpU B X Y:=by
 have e:Y.heap[B]?=X.heap[B]?:=by rw[h.low];exact hb.block D h.lt hne
 exact⟨fun d=>d.of e,fun _ b hl _ hn=>hb.block b hl (fun q=>hn (h.ownB hk q.symm)),fun _ _ _ _ ho=>ho.of e⟩
theorem KpU.row (ho:X.ownsRow B0 e size v n xs)(h1:¬e=74)(h2:¬e=5)(hg:X.grownBy Y v.ownBlock):KpU B X Y:=by
 have hc:∀b,v.ownBlock=some b→∃cur fz,X.heap[b]?=some (.cells cur e fz):=fun b hb=>by
  rcases ho.2 with⟨rfl,_⟩|⟨g,cap,cur,rfl,_,hgg,_⟩
  ·cases hb
  ·injection hb with hb;have hb:g=b:=hb;subst hb;exact⟨_,_,hgg⟩
 have nD:isD X B→Y.heap[B]?=X.heap[B]?:=fun d=>hg.block B d.lt (fun q=>by
  obtain⟨cur,fz,k⟩:=hc B q.symm;obtain⟨cu,f,d⟩:=d;rw[k] at d;injection d with d;injection d with _ d _;exact h1 d)
 refine⟨fun d=>d.of (nD d),fun _ b hb hu _=>hg.block b hb (fun q=>?_),fun d _ _ _ ho=>ho.of (nD d)⟩;obtain⟨cur,fz,k⟩:=hc b q.symm;obtain⟨cu,f,d⟩:=hu;rw[k] at d;injection d with d;injection d with _ d _;exact h2 d
theorem row_noU (ho:X.ownsRow B0 e size v n xs)(h2:¬e=5):∀b,v.ownBlock=some b→¬isU X b:=fun b hb hu=>by
 rcases ho.2 with⟨rfl,_⟩|⟨g,cap,cur,rfl,_,hgg,_⟩
 ·cases hb
 ·injection hb with hb;have hb:g=b:=hb;subst hb;obtain⟨cu,f,d⟩:=hu;rw[hgg] at d;injection d with d;injection d with _ d _;exact h2 d
theorem row_neD {e':TypeId}(hD:X.heap[D]?=some (.cells cur e' fz))(he:¬e=e')(ho:X.ownsRow B e size v n xs):v.ownBlock=none∨v.ownBlock≠some D:=by
 rcases ho.2 with⟨rfl,_⟩|⟨g,cap,cur',rfl,_,hgg,_⟩
 ·exact .inl rfl
 ·refine .inr fun hx=>?_
  injection hx with hx;have hx':g=D:=hx;rw[hx',hD] at hgg;injection hgg with hgg;injection hgg with _ h2 _;exact he h2.symm
def updF (f:Nat→α)(k:Nat)(v:α):Nat→α:=fun i=>if i=k then v else f i
theorem updF_at (f:Nat→α)(k:Nat)(v:α):updF f k v k=v:=by unfold updF;rw[if_pos rfl]
theorem updF_ne (f:Nat→α){i:Nat}(v:α)(h:¬i=k):updF f k v i=f i:=by unfold updF;rw[if_neg h]
theorem neD' (h:o=none∨o≠some D):some D≠o:=fun e=>by
 rcases h with h|h
 ·rw[h] at e;cases e
 ·exact h e.symm
theorem PD.put {vw:Value}{ws:List Chg}(h:PD X B D vb vw lb ws left count down)(hk:k<4)(hb:But X Y (vb k).ownBlock)(hr:Y.ownsRow B 5 1 v' L.length (valsB L))(hn:newB X (vb k) v')(hL:L.length≤67108864):PD (Y.setCell ⟨D,k,none⟩ v') B D (updF vb k v') vw (updF lb k L) ws left count down:=by
 have hYD:Y.heap[D]?=some (.cells #[vb 0,vb 1,vb 2,vb 3,vw,.int .i64 left,.int .i64 count,.bool down] 74 (0,0)):=
  (hb.block D h.lt (neD' (row_neD h.blk (by decide) (h.rows k hk)))).trans h.blk
 have hset:=set_grown Y D k v';refine⟨?_,h.low,?_,?_,?_,?_,h.oks⟩
 ·rw[set_blk hYD];rcases(show k=0∨k=1∨k=2∨k=3 by omega) with rfl | rfl | rfl | rfl<;>rfl
 ·intro i hi;by_cases e:i=k
  ·subst e;rw[updF_at,updF_at];exact World.ownsRow.kept hr hset (row_neD hYD (by decide) hr)
  ·rw[updF_ne _ _ e,updF_ne _ _ e];have hri:=World.ownsRow.kept (h.rows i hi) hb (h.dif i k hi hk e);exact World.ownsRow.kept hri hset (row_neD hYD (by decide) hri)
 ·have hw:=World.ownsRow.kept h.wrow hb (by
   rcases(h.rows k hk).2 with⟨e,_⟩|⟨g,cap,cur,e,_,hgg,_⟩
   ·rw[e];cases hv:vw.ownBlock with
    | none=>exact .inl rfl
    | some b=>exact .inr (fun h=>by cases h)
   ·rw[e];exact row_neD hgg (by decide) h.wrow)
  exact World.ownsRow.kept hw hset (row_neD hYD (by decide) hw)
 ·intro i j hi hj hij;have fresh:∀m,m<4→∀g,X.heap.size≤g→(vb m).ownBlock≠some g:=fun m hm g hg e=>by
   have:=(World.ownsRow.lt (h.rows m hm) g e).2;omega
  by_cases ei:i=k
  ·subst ei;rw[updF_at,updF_ne _ _ (fun e=>hij e.symm)];rcases hn with e | ⟨g,e,hg⟩
   ·rw[e];exact h.dif i j hi hj hij
   ·rw[e];exact .inr (fun e'=>fresh j hj g hg e'.symm)
  ·rw[updF_ne _ _ ei];by_cases ej:j=k
   ·subst ej;rw[updF_at];rcases hn with e | ⟨g,e,hg⟩
    ·rw[e];exact h.dif i j hi hj hij
    ·rw[e];exact .inr (fun e'=>fresh i hi g hg e')
   ·rw[updF_ne _ _ ej];exact h.dif i j hi hj hij
 ·intro i hi;by_cases e:i=k
  ·subst e;rw[updF_at];exact hL
  ·rw[updF_ne _ _ e];exact h.size i hi
theorem but_undrew (h:But (X.drewN m) Y o):But X Y o:=⟨h.os,h.tape,h.output,h.size,h.block⟩
theorem PD.cellk {vw:Value}{ws:List Chg}(h:PD X B D vb vw lb ws left count down)(hk:k<4):X.cell? ⟨D,k,none⟩=some (vb k):=by
 obtain⟨c0,c1,c2,c3,-⟩:=h.cells;rcases(show k=0∨k=1∨k=2∨k=3 by omega) with rfl | rfl | rfl | rfl<;>assumption
theorem last_pack {o:Obj}{vw:Value}{ws:List Chg}(h:PD (X.alloc o) B D vb vw lb ws left count down)(hk:k<4)(hr:w'.ownsRow B 5 1 v' L.length (valsB L))(hb:But ((X.alloc o).drewN m) w' (vb k).ownBlock)(hn:newB ((X.alloc o).drewN m) (vb k) v')(hL:L.length≤67108864)(hB:B≤X.heap.size):PD (w'.setCell ⟨D,k,none⟩ v') B D (updF vb k v') vw (updF lb k L) ws left count down∧w'.cell? ⟨D,k,none⟩=some (vb k)∧w'.frozen? ⟨D,k,none⟩=false∧BelT tyP B X (w'.setCell ⟨D,k,none⟩ v'):=by
 have hb':=but_undrew hb;have hne:=neD' (row_neD h.blk (by decide) (h.rows k hk));refine⟨PD.put h hk hb' hr hn hL,hb'.cell (h.cellk hk) hne,(World.frozen?_of_block (hb'.block D h.lt hne)).trans (h.unfrozen k),?_⟩;have ku:=h.kpRow hk hb' hne;refine((BelT.refl _ _ _).alloc hB o).trans ((BelT.row hb' (by simp;omega) (row_nf (by decide) (h.rows k hk)) ku).setD h.low (fun _=>h.nf) fun b e1 hl hu=>?_);rcases hn with e | ⟨g,e,hg⟩
 ·rw[e] at e1;exact h.ownB hk e1
 ·rw[e] at e1;injection e1 with e1;subst e1;exact absurd hl (Nat.not_lt.2 hg)
structure But2 (w X:World) (o o':Option Nat):Prop where
 os:X.os=w.os
 tape:X.tape=w.tape
 output:X.output=w.output
 size:w.heap.size≤X.heap.size
 block:∀b,b<w.heap.size→some b≠o→some b≠o'→X.heap[b]?=w.heap[b]?
theorem But2.set (h:But (w.alloc ob) Y o):But2 w (Y.setCell ⟨D,k,none⟩ v) (some D) o:=
 ⟨h.os,h.tape,h.output,by have:=h.size;simp at this ⊢;omega,fun b hb h1 h2=>by
  rw[Below.heap_setCell _ _ _ b (fun e=>h1 (by rw[e])),h.block b (by simp;omega) h2];exact heap_alloc_old w ob hb⟩
theorem clast0 (p:Nat)(t:ByteArray)(c:Bool)(hp:p+t.size≤67108864)(hc:c=true→t.size=0)(X:World)(B D:Nat)(vb:Nat→Value)(vw:Value)(lb:Nat→List UInt8)(ws:List Chg)(left count:Int)(down:Bool)(h:PD X B D vb vw lb ws left count down)(hB:B≤X.heap.size):Calls Tryz.prog 134 #[(.pointer (some ⟨D,0,none⟩)),(.agg #[.int .i64 0,.int .i64 (p:Int),.string t,.bool c])] X fun e w'=>e=.returned (.tuple #[])∧(∃v',PD w' B D (updF vb 1 v') vw (updF lb 1 (onL p t c (lb 1))) ws left count down)∧BelT tyP B X w'∧But2 X w' (some D) (vb 1).ownBlock:=by
 obtain⟨c0,c1,c2,c3,c4,c5,c6,c7⟩:=h.cells;have hD:=h.lt;have H:Hid (PD X B D vb vw lb ws left count down):=h;have HC:Hid (c=true→t.size=0):=hc;clear h hc;go_enter Tryz.func134,Tryz.ntmps134;go_wp2_with fail
 go_quiet (fail)
 go_wp2_with fail
 have H1:Hid (PD (X.alloc (.cells #[.int .i64 0,.int .i64 p,.string t,.bool c] 181)) B D vb vw lb ws left count down):=H.out.below ((Below.refl _ _).alloc (Nat.le_refl _) _);have hLn:(onL p t c (lb 1)).length≤67108864:=by
  rw[onL_len];have:=H.out.size 1 (by decide);split<;>omega
 go_region_with (go_at_call 173;refine(cdone 0 p t c B (vb 1) (lb 1) _ ?h1 ?h2 hp ?h4 HC.out).mono ?_;(case h1=>exact H1.out.rows 1 (by decide));(case h2=>simp;omega);(case h4=>exact H.out.size 1 (by decide));rintro e w'⟨v',rfl,hr,hb,hn⟩;obtain⟨a',cap',rfl,_⟩:=owns_sliceB hr;have HH:=last_pack H1.out (show 1<4 by decide) hr hb hn hLn hB;have HP:Hid (PD (w'.setCell ⟨D,1,none⟩ (.slice a' (onL p t c (lb 1)).length cap')) B D (updF vb 1 (.slice a' (onL p t c (lb 1)).length cap')) vw (updF lb 1 (onL p t c (lb 1))) ws left count down):=HH.1;have e1:w'.cell? ⟨D,1,none⟩=some (vb 1):=HH.2.1;have fz:=HH.2.2.1;have HBW:Hid (BelT tyP B X (w'.setCell ⟨D,1,none⟩ (.slice a' (onL p t c (lb 1)).length cap'))):=HH.2.2.2;have HB2:Hid (But2 X (w'.setCell ⟨D,1,none⟩ (.slice a' (onL p t c (lb 1)).length cap')) (some D) (vb 1).ownBlock):=But2.set (but_undrew hb);clear HH hr hb hn)
 all_goals
  go_wp2;go_end0;exact⟨rfl,⟨_,HP.out⟩,HBW.out,HB2.out⟩
theorem clast1 (p:Nat)(t:ByteArray)(c:Bool)(hp:p+t.size≤67108864)(hc:c=true→t.size=0)(X:World)(B D:Nat)(vb:Nat→Value)(vw:Value)(lb:Nat→List UInt8)(ws:List Chg)(left count:Int)(down:Bool)(h:PD X B D vb vw lb ws left count down)(hB:B≤X.heap.size):Calls Tryz.prog 134 #[(.pointer (some ⟨D,0,none⟩)),(.agg #[.int .i64 1,.int .i64 (p:Int),.string t,.bool c])] X fun e w'=>e=.returned (.tuple #[])∧(∃v',PD w' B D (updF vb 3 v') vw (updF lb 3 (onL p t c (lb 3))) ws left count down)∧BelT tyP B X w'∧But2 X w' (some D) (vb 3).ownBlock:=by
 obtain⟨c0,c1,c2,c3,c4,c5,c6,c7⟩:=h.cells;have hD:=h.lt;have H:Hid (PD X B D vb vw lb ws left count down):=h;have HC:Hid (c=true→t.size=0):=hc;clear h hc;go_enter Tryz.func134,Tryz.ntmps134;go_wp2_with fail
 go_quiet (fail)
 go_wp2_with fail
 have H1:Hid (PD (X.alloc (.cells #[.int .i64 1,.int .i64 p,.string t,.bool c] 181)) B D vb vw lb ws left count down):=H.out.below ((Below.refl _ _).alloc (Nat.le_refl _) _);have hLn:(onL p t c (lb 3)).length≤67108864:=by
  rw[onL_len];have:=H.out.size 3 (by decide);split<;>omega
 go_region_with (go_at_call 173;refine(cdone 1 p t c B (vb 3) (lb 3) _ ?h1 ?h2 hp ?h4 HC.out).mono ?_;(case h1=>exact H1.out.rows 3 (by decide));(case h2=>simp;omega);(case h4=>exact H.out.size 3 (by decide));rintro e w'⟨v',rfl,hr,hb,hn⟩;obtain⟨a',cap',rfl,_⟩:=owns_sliceB hr;have HH:=last_pack H1.out (show 3<4 by decide) hr hb hn hLn hB;have HP:Hid (PD (w'.setCell ⟨D,3,none⟩ (.slice a' (onL p t c (lb 3)).length cap')) B D (updF vb 3 (.slice a' (onL p t c (lb 3)).length cap')) vw (updF lb 3 (onL p t c (lb 3))) ws left count down):=HH.1;have e1:w'.cell? ⟨D,3,none⟩=some (vb 3):=HH.2.1;have fz:=HH.2.2.1;have HBW:Hid (BelT tyP B X (w'.setCell ⟨D,3,none⟩ (.slice a' (onL p t c (lb 3)).length cap'))):=HH.2.2.2;have HB2:Hid (But2 X (w'.setCell ⟨D,3,none⟩ (.slice a' (onL p t c (lb 3)).length cap')) (some D) (vb 3).ownBlock):=But2.set (but_undrew hb);clear HH hr hb hn)
 all_goals
  go_wp2;go_end0;exact⟨rfl,⟨_,HP.out⟩,HBW.out,HB2.out⟩
theorem chgs_snoc (l:List Chg)(x:Chg):chgsCells (l++[x])=chgsCells l++chgCells x:=by simp[chgsCells]
theorem PD.wait {vw:Value}{ws:List Chg}(h:PD X B D vb vw lb ws left count down){x:Chg}(hb:But X Y vw.ownBlock)(hr:Y.ownsRow B 181 4 v' (ws.length+1) (chgsCells ws++chgCells x))(hx:okC x):PD (Y.setCell ⟨D,4,none⟩ v') B D vb v' lb (ws++[x]) left count down:=by
 have hYD:Y.heap[D]?=some (.cells #[vb 0,vb 1,vb 2,vb 3,vw,.int .i64 left,.int .i64 count,.bool down] 74 (0,0)):=
  (hb.block D h.lt (neD' (row_neD h.blk (by decide) h.wrow))).trans h.blk
 have hset:=set_grown Y D 4 v';refine⟨?_,h.low,?_,?_,h.dif,h.size,?_⟩
 ·rw[set_blk hYD];rfl
 ·intro i hi;have hri:=World.ownsRow.kept (h.rows i hi) hb (by
   rcases h.wrow.2 with⟨e,_⟩|⟨g,cap,cur,e,_,hgg,_⟩
   ·rw[e];cases hv:(vb i).ownBlock with
    | none=>exact .inl rfl
    | some b=>exact .inr (fun h=>by cases h)
   ·rw[e];exact row_neD hgg (by decide) (h.rows i hi))
  exact World.ownsRow.kept hri hset (row_neD hYD (by decide) hri)
 ·rw[chgs_snoc,List.length_append];exact World.ownsRow.kept hr hset (row_neD hYD (by decide) hr)
 ·intro y hy;rcases List.mem_append.1 hy with hy | hy
  ·exact h.oks y hy
  ·rw[List.mem_singleton.1 hy];exact hx
theorem infoC:(Tryz.prog.info? 181).map (fun i=>(i.zero,i.size,i.bytes))=some (some (.agg #[.int .i64 0,.int .i64 0,.string ⟨#[]⟩,.bool false]),4,40):=by kernel_rfl
theorem owns_sliceC (h:W.ownsRow base 181 4 v n xs):∃a cap,v=.slice a n cap:=by
 rcases h.2 with⟨rfl,h2⟩|⟨g,cap,cur,rfl,_⟩
 ·exact⟨none,0,by rw[h2]⟩
 ·exact⟨_,cap,rfl⟩
theorem newsC (w:World)(f p:Int)(t:ByteArray)(c:Bool):∀j u,[Value.int .i64 f,.int .i64 p,.string t,.bool c][j]?=some u→(w.alloc (.cells #[.int .i64 f,.int .i64 p,.string t,.bool c] 181)).cell? ((⟨w.heap.size,0,none⟩:Addr).add j)=some u:=by
 intro j u hj;rw[add_none]
 match j,hj with
 | 0,h=>cases h;go_simp
 | 1,h=>cases h;go_simp
 | 2,h=>cases h;go_simp
 | 3,h=>cases h;go_simp
 | j+4,h=>simp at h
theorem set_far {o:Nat}{u:Value}(h:W.cell? ⟨b,o,none⟩=some u)(hne:¬b=D):(W.setCell ⟨D,k,none⟩ v).cell? ⟨b,o,none⟩=some u:=
 (World.cell?_of_block (w:=W) (w':=W.setCell ⟨D,k,none⟩ v) (a:=⟨b,o,none⟩) (Below.heap_setCell _ _ _ b hne)).trans h
theorem wait_pack {vw:Value}{ws:List Chg}{x:Chg}(h:PD X B D vb vw lb ws left count down)(hr:w1.ownsRow B 181 4 v' (ws.length+1) (chgsCells ws++chgCells x))(hb:But (X.alloc ob) w1 vw.ownBlock)(hx:okC x)(hB:B≤X.heap.size):PD (w1.setCell ⟨D,4,none⟩ v') B D vb v' lb (ws++[x]) left count down∧w1.cell? ⟨D,4,none⟩=some vw∧w1.frozen? ⟨D,4,none⟩=false∧BelT tyP B X (w1.setCell ⟨D,4,none⟩ v'):=by
 have hA:=h.below (((Below.refl _ _).alloc (Nat.le_refl _) _):Below X.heap.size X (X.alloc ob));have hne:=neD' (row_neD hA.blk (by decide) hA.wrow);refine⟨PD.wait hA hb hr hx,hb.cell (hA.cells.2.2.2.2.1) hne,(World.frozen?_of_block (hb.block D hA.lt hne)).trans (hA.unfrozen 4),?_⟩;have ku:KpU B (X.alloc ob) w1:=KpU.row hA.wrow (by decide) (by decide) hb;refine((BelT.refl _ _ _).alloc hB ob).trans ((BelT.row hb (by simp;omega) (row_nf (by decide) hA.wrow) ku).setD h.low (fun _=>hA.nf) fun b e1 hl hu=>?_);by_cases hn:ownB (X.alloc ob) B b
 ·exact hn
 ·exact absurd (hu.of (ku.stay hA.isD b hl hu hn)) (row_noU hr (by decide) b e1)
theorem cturn0 (p:Nat)(t:ByteArray)(c:Bool)(hp:p+t.size≤67108864)(hc:c=true→t.size=0)(X:World)(B D:Nat)(vb:Nat→Value)(vw:Value)(lb:Nat→List UInt8)(ws:List Chg)(left count:Int)(down:Bool)(h:PD X B D vb vw lb ws left count down)(hB:B≤X.heap.size)(hw:ws.length≤1000000):Calls Tryz.prog 166 #[(.pointer (some ⟨D,0,none⟩)),(.agg #[.int .i64 0,.int .i64 (p:Int),.string t,.bool c])] X fun e w'=>e=.returned (.tuple #[])∧(∃v' vw',PD w' B D (updF vb 0 v') vw' (updF lb 0 (onL p t c (lb 0))) (ws++[⟨0,p,t,c⟩]) left count down)∧BelT tyP B X w':=by
 obtain⟨c0,c1,c2,c3,c4,c5,c6,c7⟩:=h.cells;obtain⟨i0,hi,hz0,hz1,hz2⟩:=info_parts infoC;have hD:=h.lt;have H:Hid (PD X B D vb vw lb ws left count down):=h;have HC:Hid (c=true→t.size=0):=hc;clear h hc;go_enter Tryz.func166,Tryz.ntmps166;go_wp2_with fail
 go_quiet (fail)
 go_upto_region 2 with fail
 have H1:Hid (PD (X.alloc (.cells #[.int .i64 0,.int .i64 p,.string t,.bool c] 181)) B D vb vw lb ws left count down):=H.out.below ((Below.refl _ _).alloc (Nat.le_refl _) _);have hLn:(onL p t c (lb 0)).length≤67108864:=by
  rw[onL_len];have:=H.out.size 0 (by decide);split<;>omega
 have hbx:some X.heap.size≠(vb 0).ownBlock:=row_new (H.out.rows 0 (by decide)) (Nat.le_refl _)
 go_region_with (go_at_call 173;refine(cdone 0 p t c B (vb 0) (lb 0) _ ?h1 ?h2 hp ?h4 HC.out).mono ?_;(case h1=>exact H1.out.rows 0 (by decide));(case h2=>simp;omega);(case h4=>exact H.out.size 0 (by decide));rintro e w'⟨v',rfl,hr,hb,hn⟩;obtain⟨a',cap',rfl,_⟩:=owns_sliceB hr;have HH:=last_pack H1.out (show 0<4 by decide) hr hb hn hLn hB;have HP:Hid (PD (w'.setCell ⟨D,0,none⟩ (.slice a' (onL p t c (lb 0)).length cap')) B D (updF vb 0 (.slice a' (onL p t c (lb 0)).length cap')) vw (updF lb 0 (onL p t c (lb 0))) ws left count down):=HH.1;have e1:w'.cell? ⟨D,0,none⟩=some (vb 0):=HH.2.1;have fz:=HH.2.2.1;have HBW:Hid (BelT tyP B X (w'.setCell ⟨D,0,none⟩ (.slice a' (onL p t c (lb 0)).length cap'))):=HH.2.2.2;have b0:w'.cell? ⟨X.heap.size,0,none⟩=some (.int .i64 0):=hb.cell (by go_simp) hbx;have b1:w'.cell? ⟨X.heap.size,1,none⟩=some (.int .i64 p):=hb.cell (by go_simp) hbx;have b2:w'.cell? ⟨X.heap.size,2,none⟩=some (.string t):=hb.cell (by go_simp) hbx;have b3:w'.cell? ⟨X.heap.size,3,none⟩=some (.bool c):=hb.cell (by go_simp) hbx;clear HH hr hb hn)
 all_goals
  have hbD:¬X.heap.size=D:=by omega
  have g0:=set_far (D:=D) (k:=0) (v:=.slice a' (onL p t c (lb 0)).length cap') b0 hbD;have g1:=set_far (D:=D) (k:=0) (v:=.slice a' (onL p t c (lb 0)).length cap') b1 hbD;have g2:=set_far (D:=D) (k:=0) (v:=.slice a' (onL p t c (lb 0)).length cap') b2 hbD;have g3:=set_far (D:=D) (k:=0) (v:=.slice a' (onL p t c (lb 0)).length cap') b3 hbD;have p4:=HP.out.cells.2.2.2.2.1;have f4:=HP.out.unfrozen 4;have HBW2:Hid (BelT tyP B X (w'.setCell ⟨D,0,none⟩ (.slice a' (onL p t c (lb 0)).length cap'))):=HBW.out;have hDW:=HP.out.lt;clear b0 b1 b2 b3 e1 fz HBW;generalize w'.setCell ⟨D,0,none⟩ (.slice a' (onL p t c (lb 0)).length cap')=W at *;have hBW:B≤W.heap.size:=Nat.le_trans hB HBW2.out.size;have HOK:Hid (okC ⟨0,p,t,c⟩):=(⟨(by omega:0<2),hp,HC.out⟩:okC ⟨0,p,t,c⟩);go_wp2_with fail
  go_region_law (refine step_append_ownN rfl (.tmp 24) (.tmp 26) 72 rfl B 181 i0 (.agg #[.int .i64 0,.int .i64 0,.string ⟨#[]⟩,.bool false]) 4 40 Tryz.underlying72 hi hz0 hz1 hz2 rfl (by decide) vw ws.length (chgsCells ws) ?s1 ?s2 ⟨W.heap.size,0,none⟩ 1 1 [.int .i64 0,.int .i64 p,.string t,.bool c] ?s3 rfl ?s4 ?s5 ?s6 ?s7 ?s8 ?_;(case s1=>go_simp);(case s2=>exact World.ownsRow.alloc HP.out.wrow _);(case s3=>go_simp);(case s4=>exact newsC _ _ _ _ _);(case s5=>intro u hu;simp at hu;rcases hu with rfl | rfl | rfl | rfl<;>rfl);(case s6=>unfold maxLen;omega);(case s7=>omega);(case s8=>simp;omega);intro v1 w1 ho1 hg1;obtain⟨a1,cap1,rfl⟩:=owns_sliceC ho1;have HH:=wait_pack (x:=⟨0,p,t,c⟩) HP.out ho1 (grown_drew hg1) HOK.out hBW;have HQ:Hid (PD (w1.setCell ⟨D,4,none⟩ (.slice a1 (ws.length+1) cap1)) B D (updF vb 0 (.slice a' (onL p t c (lb 0)).length cap')) (.slice a1 (ws.length+1) cap1) (updF lb 0 (onL p t c (lb 0))) (ws++[⟨0,p,t,c⟩]) left count down):=HH.1;have e4:=HH.2.1;have fz4:=HH.2.2.1;have HBX:Hid (BelT tyP B X (w1.setCell ⟨D,4,none⟩ (.slice a1 (ws.length+1) cap1))):=HBW2.out.trans HH.2.2.2;clear HH ho1 hg1)
  all_goals
   go_wp2;go_end0;exact⟨rfl,⟨_,_,HQ.out⟩,HBX.out⟩
theorem cturn1 (p:Nat)(t:ByteArray)(c:Bool)(hp:p+t.size≤67108864)(hc:c=true→t.size=0)(X:World)(B D:Nat)(vb:Nat→Value)(vw:Value)(lb:Nat→List UInt8)(ws:List Chg)(left count:Int)(down:Bool)(h:PD X B D vb vw lb ws left count down)(hB:B≤X.heap.size)(hw:ws.length≤1000000):Calls Tryz.prog 166 #[(.pointer (some ⟨D,0,none⟩)),(.agg #[.int .i64 1,.int .i64 (p:Int),.string t,.bool c])] X fun e w'=>e=.returned (.tuple #[])∧(∃v' vw',PD w' B D (updF vb 2 v') vw' (updF lb 2 (onL p t c (lb 2))) (ws++[⟨1,p,t,c⟩]) left count down)∧BelT tyP B X w':=by
 obtain⟨c0,c1,c2,c3,c4,c5,c6,c7⟩:=h.cells;obtain⟨i0,hi,hz0,hz1,hz2⟩:=info_parts infoC;have hD:=h.lt;have H:Hid (PD X B D vb vw lb ws left count down):=h;have HC:Hid (c=true→t.size=0):=hc;clear h hc;go_enter Tryz.func166,Tryz.ntmps166;go_wp2_with fail
 go_quiet (fail)
 go_upto_region 2 with fail
 have H1:Hid (PD (X.alloc (.cells #[.int .i64 1,.int .i64 p,.string t,.bool c] 181)) B D vb vw lb ws left count down):=H.out.below ((Below.refl _ _).alloc (Nat.le_refl _) _);have hLn:(onL p t c (lb 2)).length≤67108864:=by
  rw[onL_len];have:=H.out.size 2 (by decide);split<;>omega
 have hbx:some X.heap.size≠(vb 2).ownBlock:=row_new (H.out.rows 2 (by decide)) (Nat.le_refl _)
 go_region_with (go_at_call 173;refine(cdone 1 p t c B (vb 2) (lb 2) _ ?h1 ?h2 hp ?h4 HC.out).mono ?_;(case h1=>exact H1.out.rows 2 (by decide));(case h2=>simp;omega);(case h4=>exact H.out.size 2 (by decide));rintro e w'⟨v',rfl,hr,hb,hn⟩;obtain⟨a',cap',rfl,_⟩:=owns_sliceB hr;have HH:=last_pack H1.out (show 2<4 by decide) hr hb hn hLn hB;have HP:Hid (PD (w'.setCell ⟨D,2,none⟩ (.slice a' (onL p t c (lb 2)).length cap')) B D (updF vb 2 (.slice a' (onL p t c (lb 2)).length cap')) vw (updF lb 2 (onL p t c (lb 2))) ws left count down):=HH.1;have e1:w'.cell? ⟨D,2,none⟩=some (vb 2):=HH.2.1;have fz:=HH.2.2.1;have HBW:Hid (BelT tyP B X (w'.setCell ⟨D,2,none⟩ (.slice a' (onL p t c (lb 2)).length cap'))):=HH.2.2.2;have b0:w'.cell? ⟨X.heap.size,0,none⟩=some (.int .i64 1):=hb.cell (by go_simp) hbx;have b1:w'.cell? ⟨X.heap.size,1,none⟩=some (.int .i64 p):=hb.cell (by go_simp) hbx;have b2:w'.cell? ⟨X.heap.size,2,none⟩=some (.string t):=hb.cell (by go_simp) hbx;have b3:w'.cell? ⟨X.heap.size,3,none⟩=some (.bool c):=hb.cell (by go_simp) hbx;clear HH hr hb hn)
 all_goals
  have hbD:¬X.heap.size=D:=by omega
  have g0:=set_far (D:=D) (k:=2) (v:=.slice a' (onL p t c (lb 2)).length cap') b0 hbD;have g1:=set_far (D:=D) (k:=2) (v:=.slice a' (onL p t c (lb 2)).length cap') b1 hbD;have g2:=set_far (D:=D) (k:=2) (v:=.slice a' (onL p t c (lb 2)).length cap') b2 hbD;have g3:=set_far (D:=D) (k:=2) (v:=.slice a' (onL p t c (lb 2)).length cap') b3 hbD;have p4:=HP.out.cells.2.2.2.2.1;have f4:=HP.out.unfrozen 4;have HBW2:Hid (BelT tyP B X (w'.setCell ⟨D,2,none⟩ (.slice a' (onL p t c (lb 2)).length cap'))):=HBW.out;have hDW:=HP.out.lt;clear b0 b1 b2 b3 e1 fz HBW;generalize w'.setCell ⟨D,2,none⟩ (.slice a' (onL p t c (lb 2)).length cap')=W at *;have hBW:B≤W.heap.size:=Nat.le_trans hB HBW2.out.size;have HOK:Hid (okC ⟨1,p,t,c⟩):=(⟨(by omega:1<2),hp,HC.out⟩:okC ⟨1,p,t,c⟩);go_wp2_with fail
  go_region_law (refine step_append_ownN rfl (.tmp 24) (.tmp 26) 72 rfl B 181 i0 (.agg #[.int .i64 0,.int .i64 0,.string ⟨#[]⟩,.bool false]) 4 40 Tryz.underlying72 hi hz0 hz1 hz2 rfl (by decide) vw ws.length (chgsCells ws) ?s1 ?s2 ⟨W.heap.size,0,none⟩ 1 1 [.int .i64 1,.int .i64 p,.string t,.bool c] ?s3 rfl ?s4 ?s5 ?s6 ?s7 ?s8 ?_;(case s1=>go_simp);(case s2=>exact World.ownsRow.alloc HP.out.wrow _);(case s3=>go_simp);(case s4=>exact newsC _ _ _ _ _);(case s5=>intro u hu;simp at hu;rcases hu with rfl | rfl | rfl | rfl<;>rfl);(case s6=>unfold maxLen;omega);(case s7=>omega);(case s8=>simp;omega);intro v1 w1 ho1 hg1;obtain⟨a1,cap1,rfl⟩:=owns_sliceC ho1;have HH:=wait_pack (x:=⟨1,p,t,c⟩) HP.out ho1 (grown_drew hg1) HOK.out hBW;have HQ:Hid (PD (w1.setCell ⟨D,4,none⟩ (.slice a1 (ws.length+1) cap1)) B D (updF vb 2 (.slice a' (onL p t c (lb 2)).length cap')) (.slice a1 (ws.length+1) cap1) (updF lb 2 (onL p t c (lb 2))) (ws++[⟨1,p,t,c⟩]) left count down):=HH.1;have e4:=HH.2.1;have fz4:=HH.2.2.1;have HBX:Hid (BelT tyP B X (w1.setCell ⟨D,4,none⟩ (.slice a1 (ws.length+1) cap1))):=HBW2.out.trans HH.2.2.2;clear HH ho1 hg1)
  all_goals
   go_wp2;go_end0;exact⟨rfl,⟨_,_,HQ.out⟩,HBX.out⟩
theorem but_below {vw:Value}{lb':Nat→List UInt8}{ws ws':List Chg}(h:But X Y (some D))(hB:B≤X.heap.size)(hX:PD X B D vb vw lb ws left count down)(hY:PD Y B D vb vw lb' ws' left' count' down'):BelT tyP B X Y:=by
 have hl:=hX.low;refine BelT.row h hB (fun b e=>by injection e with e;subst e;exact⟨Nat.le_of_eq hl,hX.nf⟩) ⟨fun _=>hY.isD,fun d b hb hu _=>h.block b hb (fun e=>?_),fun d b hb hu ho=>?_⟩
 ·injection e with e;subst e;obtain⟨cu,f,hu⟩:=hu;rw[hX.blk] at hu;injection hu with hu;injection hu with _ hu _;exact absurd hu (by decide)
 ·obtain⟨cur,fz,v,q,hm,hv⟩:=ho;rw[hl,hY.blk] at q;injection q with q;injection q with q _ _;subst q;simp only[Array.mem_iff_getElem?] at hm;refine⟨_,_,v,by rw[hl];exact hX.blk,?_,hv⟩;obtain⟨i,hi⟩:=hm;rcases(show i<5∨5≤i by omega) with h5 | h5
  ·exact Array.mem_iff_getElem?.2 ⟨i,by rw[←hi];rcases(show i=0∨i=1∨i=2∨i=3∨i=4 by omega) with rfl | rfl | rfl | rfl | rfl<;>rfl⟩
  ·exfalso
   match i,hi with
   | 5,hi=>cases hi;cases hv
   | 6,hi=>cases hi;cases hv
   | 7,hi=>cases hi;cases hv
   | i+8,hi=>simp at hi
def decL (left:Int):Int:=if 0<left then left-1 else left
def opPost (f at':Int)(t:ByteArray)(c:Bool)(X:World)(B D:Nat)(vb:Nat→Value)(vw:Value)(lb:Nat→List UInt8)(ws:List Chg)(left count:Int)(down:Bool)(e:Ending)(w':World):Prop:=
 (¬askE f at' t.size down=0∧e=.returned (.int .i64 (askE f at' t.size down))∧w'=X) ∨
 (askE f at' t.size down=0∧left=0∧e=.returned (.int .i64 2)∧PD w' B D vb vw lb ws left count true∧BelT tyP B X w') ∨
 (askE f at' t.size down=0∧¬left=0∧e=.returned (.int .i64 0)∧(∃(f' p:Nat) (v' vw':Value),f=f'∧at'=p∧f'<2∧PD w' B D (updF vb (2*f') v') vw' (updF lb (2*f') (onL p t c (lb (2*f')))) (ws++[⟨f',p,t,c⟩]) (decL left) (count+1) down)∧BelT tyP B X w')
theorem ask_fits {at' n:Int}(h:askE f at' n down=0):∃f' p:Nat,f=f'∧at'=p∧f'<2∧(p:Int)+n≤67108864:=by
 unfold askE at h;split at h
 ·rename_i hf
  unfold fitsD at hf;have hf:=of_decide_eq_true hf;exact⟨f.toNat,at'.toNat,by omega,by omega,by omega,by omega⟩
 ·cases h
theorem cwrite (f at':Int)(t:ByteArray)(X:World)(B D:Nat)(vb:Nat→Value)(vw:Value)(lb:Nat→List UInt8)(ws:List Chg)(left count:Int)(down:Bool)(h:PD X B D vb vw lb ws left count down)(hB:B≤X.heap.size)(hl:-9223372036854775808≤left∧left≤9223372036854775807)(hc:0≤count∧count≤4611686018427387904)(hw:ws.length≤1000000):Calls Tryz.prog 113 #[(.pointer (some ⟨D,0,none⟩)),.int .i64 f,.int .i64 at',.string t] X (opPost f at' t false X B D vb vw lb ws left count down):=by
 have H:Hid (PD X B D vb vw lb ws left count down):=h;clear h;go_enter Tryz.func113,Tryz.ntmps113;go_wp2_with fail
 refine(cbegin f at' ((t:ByteArray).size:Int) X B D vb vw lb ws left count down H.out hl hc).mono ?_;rintro e w1 h;rcases h with⟨ha,rfl,rfl⟩ | ⟨ha,h0,rfl,hP,hb⟩ | ⟨ha,h0,rfl,hP,hb⟩
 ·have HA:Hid _:=ha;go_wp2_with fail
  go_ret;exact .inl ⟨HA.out,rfl,rfl⟩
 ·have HA:Hid _:=ha;have HP:Hid _:=hP;have HBB:Hid _:=but_below hb hB H.out hP;clear ha hP hb;go_wp2_with fail
  go_ret;exact .inr (.inl ⟨HA.out,h0,rfl,HP.out,HBB.out⟩)
 ·have HA:Hid _:=ha;have HP:Hid (PD w1 B D vb vw lb ws (decL left) (count+1) down):=hP;have hBB:=but_below hb hB H.out hP;have hB1:B≤w1.heap.size:=Nat.le_trans hB hBB.size;have HBB:Hid _:=hBB;obtain⟨f',p,rfl,rfl,hf,hfit⟩:=ask_fits ha;have hfit':p+(t:ByteArray).size≤67108864:=by omega
  clear ha hP hb hBB;rcases(show f'=0∨f'=1 by omega) with rfl | rfl
  ·go_wp2_with fail
   refine(cturn0 p t false hfit' (fun h=>by cases h) w1 B D vb vw lb ws (decL left) (count+1) down HP.out hB1 hw).mono ?_;rintro e w2⟨rfl,⟨v',vw',hQ⟩,hbb⟩;have HQ:Hid _:=hQ;have HB2:Hid _:=HBB.out.trans hbb;clear hQ hbb;go_wp2_with fail
   go_ret;exact .inr (.inr ⟨HA.out,h0,rfl,⟨0,p,v',vw',rfl,rfl,by decide,HQ.out⟩,HB2.out⟩)
  ·go_wp2_with fail
   refine(cturn1 p t false hfit' (fun h=>by cases h) w1 B D vb vw lb ws (decL left) (count+1) down HP.out hB1 hw).mono ?_;rintro e w2⟨rfl,⟨v',vw',hQ⟩,hbb⟩;have HQ:Hid _:=hQ;have HB2:Hid _:=HBB.out.trans hbb;clear hQ hbb;go_wp2_with fail
   go_ret;exact .inr (.inr ⟨HA.out,h0,rfl,⟨1,p,v',vw',rfl,rfl,by decide,HQ.out⟩,HB2.out⟩)
theorem ccut (f at':Int)(X:World)(B D:Nat)(vb:Nat→Value)(vw:Value)(lb:Nat→List UInt8)(ws:List Chg)(left count:Int)(down:Bool)(h:PD X B D vb vw lb ws left count down)(hB:B≤X.heap.size)(hl:-9223372036854775808≤left∧left≤9223372036854775807)(hc:0≤count∧count≤4611686018427387904)(hw:ws.length≤1000000):Calls Tryz.prog 110 #[(.pointer (some ⟨D,0,none⟩)),.int .i64 f,.int .i64 at'] X (opPost f at' ⟨#[]⟩ true X B D vb vw lb ws left count down):=by
 have H:Hid (PD X B D vb vw lb ws left count down):=h;clear h;go_enter Tryz.func110,Tryz.ntmps110;go_wp2_with fail
 refine(cbegin f at' ((⟨#[]⟩:ByteArray).size:Int) X B D vb vw lb ws left count down H.out hl hc).mono ?_;rintro e w1 h;rcases h with⟨ha,rfl,rfl⟩ | ⟨ha,h0,rfl,hP,hb⟩ | ⟨ha,h0,rfl,hP,hb⟩
 ·have HA:Hid _:=ha;have hz:¬askE f at' 0 down=0:=ha;clear ha;go_wp2_with fail
  go_ret;exact .inl ⟨HA.out,rfl,rfl⟩
 ·have HA:Hid _:=ha;have HP:Hid _:=hP;have HBB:Hid _:=but_below hb hB H.out hP;clear ha hP hb;go_wp2_with fail
  go_ret;exact .inr (.inl ⟨HA.out,h0,rfl,HP.out,HBB.out⟩)
 ·have HA:Hid _:=ha;have HP:Hid (PD w1 B D vb vw lb ws (decL left) (count+1) down):=hP;have hBB:=but_below hb hB H.out hP;have hB1:B≤w1.heap.size:=Nat.le_trans hB hBB.size;have HBB:Hid _:=hBB;obtain⟨f',p,rfl,rfl,hf,hfit⟩:=ask_fits ha;have hfit':p+(⟨#[]⟩:ByteArray).size≤67108864:=by omega
  clear ha hP hb hBB;rcases(show f'=0∨f'=1 by omega) with rfl | rfl
  ·go_wp2_with fail
   refine(cturn0 p ⟨#[]⟩ true hfit' (fun _=>rfl) w1 B D vb vw lb ws (decL left) (count+1) down HP.out hB1 hw).mono ?_;rintro e w2⟨rfl,⟨v',vw',hQ⟩,hbb⟩;have HQ:Hid _:=hQ;have HB2:Hid _:=HBB.out.trans hbb;clear hQ hbb;go_wp2_with fail
   go_ret;exact .inr (.inr ⟨HA.out,h0,rfl,⟨0,p,v',vw',rfl,rfl,by decide,HQ.out⟩,HB2.out⟩)
  ·go_wp2_with fail
   refine(cturn1 p ⟨#[]⟩ true hfit' (fun _=>rfl) w1 B D vb vw lb ws (decL left) (count+1) down HP.out hB1 hw).mono ?_;rintro e w2⟨rfl,⟨v',vw',hQ⟩,hbb⟩;have HQ:Hid _:=hQ;have HB2:Hid _:=HBB.out.trans hbb;clear hQ hbb;go_wp2_with fail
   go_ret;exact .inr (.inr ⟨HA.out,h0,rfl,⟨1,p,v',vw',rfl,rfl,by decide,HQ.out⟩,HB2.out⟩)
theorem zero_text (X:World)(p:Option Addr)(c:Nat):(convert 59 9 (.slice p 0 c)).run Tryz.prog X=.ok (.string ⟨#[]⟩) X:=by
 cases p with
 | none=>first | kernel_rfl | simp[convert,go_sem,Tryz.underlying59,Tryz.underlying5,Tryz.underlying9]
 | some a=>exact run_convert_bytes_back (P:=Tryz.prog) X 59 9 5 a c [] Tryz.underlying59 Tryz.underlying5 Tryz.underlying9 (fun j hj=>absurd hj (by simp))
theorem sub_text (h:X.ownsRow base 5 1 (.slice (some ⟨g,0,none⟩) n cap) n (valsB l))(at' m c:Nat)(hm:at'+m≤n):(convert 59 9 (.slice (some ⟨g,at',none⟩) m c)).run Tryz.prog X=.ok (.string ⟨((l.drop at').take m).toArray⟩) X:=by
 have hl:l.length=n:=by have:=h.1;simpa[valsB] using this
 have hlen:((l.drop at').take m).length=m:=by rw[List.length_take,List.length_drop];omega
 have:=run_convert_bytes_back (P:=Tryz.prog) X 59 9 5 ⟨g,at',none⟩ c ((l.drop at').take m) Tryz.underlying59 Tryz.underlying5 Tryz.underlying9 (fun j hj=>by
  rw[Addr.add_lit,h.cellAt (at'+j) (by omega)];have hj':at'+j<l.length:=by omega
  simp[valsB,List.getElem?_eq_getElem hj',List.getElem_take,List.getElem_drop])
 rw[hlen] at this;exact this
def sizV (f:Int)(lb:Nat→List UInt8)(down:Bool):Int:=if askE f 0 0 down=0 then((lb (2*f.toNat)).length:Int) else 0
def rdE (f at' n:Int)(lb:Nat→List UInt8)(down:Bool):Int:=if askE f at' n down=0 then(if((lb (2*f.toNat)).length:Int)<at'+n then 3 else 0) else askE f at' n down
def rdS (f at' n:Int)(lb:Nat→List UInt8)(down:Bool):ByteArray:=if rdE f at' n lb down=0 then⟨(((lb (2*f.toNat)).drop at'.toNat).take n.toNat).toArray⟩ else⟨#[]⟩
theorem ask_n {at' n:Int}(h:askE f at' n down=0):0≤n:=by
 unfold askE at h;split at h
 ·rename_i hf
  unfold fitsD at hf;have hf:=of_decide_eq_true hf;omega
 ·cases h
theorem csize (f:Int)(X:World)(B D:Nat)(vb:Nat→Value)(vw:Value)(lb:Nat→List UInt8)(ws:List Chg)(left count:Int)(down:Bool)(h:PD X B D vb vw lb ws left count down):Calls Tryz.prog 67 #[(.pointer (some ⟨D,0,none⟩)),.int .i64 f] X fun e w'=>e=.returned (.tuple #[.int .i64 (sizV f lb down),.int .i64 (askE f 0 0 down)])∧w'=X:=by
 have H:Hid (PD X B D vb vw lb ws left count down):=h;obtain⟨c0,c1,c2,c3,-⟩:=h.cells;obtain⟨a0,p0,e0,-⟩:=owns_sliceB (h.rows 0 (by decide));obtain⟨a2,p2,e2,-⟩:=owns_sliceB (h.rows 2 (by decide));rw[e0] at c0;rw[e2] at c2;clear h;by_cases ha:askE f 0 0 down=0
 ·have HA:Hid _:=ha;obtain⟨f',p,rfl,-,hf,-⟩:=ask_fits ha;have e9:sizV f' lb down=((lb (2*f')).length:Int):=by unfold sizV;rw[if_pos ha,Int.toNat_natCast]
  rw[e9,ha];clear ha e9;rcases(show f'=0∨f'=1 by omega) with rfl | rfl
  ·have hA:askE 0 0 0 down=0:=HA.out;go_enter Tryz.func67,Tryz.ntmps67;go_wp2_with fail
   refine(casked 0 0 0 X B D vb vw lb ws left count down H.out).mono ?_;rintro e w'⟨rfl,rfl⟩;rw[hA];go_wp2_with fail
   go_ret2
   exact⟨rfl,rfl⟩
  ·have hA:askE 1 0 0 down=0:=HA.out;go_enter Tryz.func67,Tryz.ntmps67;go_wp2_with fail
   refine(casked 1 0 0 X B D vb vw lb ws left count down H.out).mono ?_;rintro e w'⟨rfl,rfl⟩;rw[hA];go_wp2_with fail
   go_ret2
   exact⟨rfl,rfl⟩
 ·have e9:sizV f lb down=0:=by unfold sizV;rw[if_neg ha]
  rw[e9];clear e9;go_enter Tryz.func67,Tryz.ntmps67;go_wp2_with fail
  refine(casked f 0 0 X B D vb vw lb ws left count down H.out).mono ?_;rintro e w'⟨rfl,rfl⟩;go_wp2_with fail
  go_ret2
  exact⟨rfl,rfl⟩
theorem cread (f at' n:Int)(X:World)(B D:Nat)(vb:Nat→Value)(vw:Value)(lb:Nat→List UInt8)(ws:List Chg)(left count:Int)(down:Bool)(h:PD X B D vb vw lb ws left count down):Calls Tryz.prog 68 #[(.pointer (some ⟨D,0,none⟩)),.int .i64 f,.int .i64 at',.int .i64 n] X fun e w'=>e=.returned (.tuple #[.string (rdS f at' n lb down),.int .i64 (rdE f at' n lb down)])∧w'=X:=by
 have H:Hid (PD X B D vb vw lb ws left count down):=h;obtain⟨c0,c1,c2,c3,-⟩:=h.cells;obtain⟨a0,p0,e0,q0⟩:=owns_sliceB (h.rows 0 (by decide));obtain⟨a2,p2,e2,q2⟩:=owns_sliceB (h.rows 2 (by decide));have hs0:=h.size 0 (by decide);have hs2:=h.size 2 (by decide);have O0:Hid _:=e0 ▸ h.rows 0 (by decide);have O2:Hid _:=e2 ▸ h.rows 2 (by decide);rw[e0] at c0;rw[e2] at c2;clear h e0 e2;by_cases ha:askE f at' n down=0
 ·have HA:Hid _:=ha;have hn0:=ask_n ha;obtain⟨f',p,rfl,rfl,hf,hfit⟩:=ask_fits ha;obtain⟨m,rfl⟩:∃m:Nat,n=m:=⟨n.toNat,by omega⟩;have e9:rdE f' p m lb down=if((lb (2*f')).length:Int)<(p:Int)+m then 3 else 0:=by unfold rdE;rw[if_pos ha,Int.toNat_natCast]
  have e8:rdS f' p m lb down=if((lb (2*f')).length:Int)<(p:Int)+m then⟨#[]⟩ else⟨(((lb (2*f')).drop p).take m).toArray⟩:=by
   unfold rdS;rw[e9];by_cases hlt:((lb (2*f')).length:Int)<(p:Int)+m
   ·rw[if_pos hlt,if_neg (by decide),if_pos hlt]
   ·rw[if_neg hlt,if_pos rfl,if_neg hlt,Int.toNat_natCast,Int.toNat_natCast,Int.toNat_natCast]
  rw[e9,e8];clear ha e9 e8;rcases(show f'=0∨f'=1 by omega) with rfl | rfl
  ·have hA:askE 0 p m down=0:=HA.out;show Calls _ _ #[_,.int .i64 0,_,_] _ _;rw[show 2*0=0 from rfl];by_cases hlt:(lb 0).length<p+m
   ·have hlt':((lb 0).length:Int)<(p:Int)+m:=by omega
    rw[if_pos hlt',if_pos hlt'];go_enter Tryz.func68,Tryz.ntmps68;go_wp2_with fail
    refine(casked 0 p m X B D vb vw lb ws left count down H.out).mono ?_;rintro e w'⟨rfl,rfl⟩;rw[hA];go_wp2_with fail
    go_ret2
    exact⟨rfl,rfl⟩
   ·have hlt':¬((lb 0).length:Int)<(p:Int)+m:=by omega
    rw[if_neg hlt',if_neg hlt'];have k1:(0:Int)≤(p:Int):=by omega
    have k2:(p:Int)≤(p:Int)+m:=by omega
    have k3:(p:Int)+m≤(p0:Int):=by omega
    by_cases hm:m=0
    ·subst hm;have hcv:=zero_text X;rw[show(((lb 0).drop p).take 0).toArray=#[] from rfl];rcases Decidable.em (p=p0) with rfl | hpe
     all_goals
      go_enter Tryz.func68,Tryz.ntmps68;go_wp2_with fail
      refine(casked 0 p 0 X B D vb vw lb ws left count down H.out).mono ?_;rintro e w'⟨rfl,rfl⟩
      first | rw[hA] | (rw[show askE 0 p 0 down=0 from HA.out])
      go_wp2_with fail
      go_ret2
      exact⟨rfl,rfl⟩
    ·obtain⟨g,cap',ee,_,_⟩:=World.ownsRow.form O0.out (by omega);injection ee with ee1 ee2 ee3;subst ee1 ee3;have hcv:=sub_text O0.out p m (p0-p) (by omega);have hpe:¬p=p0:=by omega
     go_enter Tryz.func68,Tryz.ntmps68;go_wp2_with fail
     refine(casked 0 p m X B D vb vw lb ws left count down H.out).mono ?_;rintro e w'⟨rfl,rfl⟩;rw[hA];go_wp2_with fail
     go_ret2
     exact⟨rfl,rfl⟩
  ·have hA:askE 1 p m down=0:=HA.out;show Calls _ _ #[_,.int .i64 1,_,_] _ _;rw[show 2*1=2 from rfl];by_cases hlt:(lb 2).length<p+m
   ·have hlt':((lb 2).length:Int)<(p:Int)+m:=by omega
    rw[if_pos hlt',if_pos hlt'];go_enter Tryz.func68,Tryz.ntmps68;go_wp2_with fail
    refine(casked 1 p m X B D vb vw lb ws left count down H.out).mono ?_;rintro e w'⟨rfl,rfl⟩;rw[hA];go_wp2_with fail
    go_ret2
    exact⟨rfl,rfl⟩
   ·have hlt':¬((lb 2).length:Int)<(p:Int)+m:=by omega
    rw[if_neg hlt',if_neg hlt'];have k1:(0:Int)≤(p:Int):=by omega
    have k2:(p:Int)≤(p:Int)+m:=by omega
    have k3:(p:Int)+m≤(p2:Int):=by omega
    by_cases hm:m=0
    ·subst hm;have hcv:=zero_text X;rw[show(((lb 2).drop p).take 0).toArray=#[] from rfl];rcases Decidable.em (p=p2) with rfl | hpe
     all_goals
      go_enter Tryz.func68,Tryz.ntmps68;go_wp2_with fail
      refine(casked 1 p 0 X B D vb vw lb ws left count down H.out).mono ?_;rintro e w'⟨rfl,rfl⟩
      first | rw[hA] | (rw[show askE 1 p 0 down=0 from HA.out])
      go_wp2_with fail
      go_ret2
      exact⟨rfl,rfl⟩
    ·obtain⟨g,cap',ee,_,_⟩:=World.ownsRow.form O2.out (by omega);injection ee with ee1 ee2 ee3;subst ee1 ee3;have hcv:=sub_text O2.out p m (p2-p) (by omega);have hpe:¬p=p2:=by omega
     go_enter Tryz.func68,Tryz.ntmps68;go_wp2_with fail
     refine(casked 1 p m X B D vb vw lb ws left count down H.out).mono ?_;rintro e w'⟨rfl,rfl⟩;rw[hA];go_wp2_with fail
     go_ret2
     exact⟨rfl,rfl⟩
 ·have e9:rdE f at' n lb down=askE f at' n down:=by unfold rdE;rw[if_neg ha]
  have e8:rdS f at' n lb down=⟨#[]⟩:=by unfold rdS;rw[e9,if_neg ha]
  rw[e9,e8];clear e9 e8;go_enter Tryz.func68,Tryz.ntmps68;go_wp2_with fail
  refine(casked f at' n X B D vb vw lb ws left count down H.out).mono ?_;rintro e w'⟨rfl,rfl⟩;go_wp2_with fail
  go_ret2
  exact⟨rfl,rfl⟩
def foldF (f:Nat)(ws:List Chg)(l:List UInt8):List UInt8:=ws.foldl (fun l x=>if x.f=f then onL x.p x.t x.c l else l) l
def othF (f:Nat)(ws:List Chg):List Chg:=ws.filter fun x=>!(x.f == f)
theorem foldF_snoc (f:Nat)(ws:List Chg)(x:Chg)(l:List UInt8):foldF f (ws++[x]) l=if x.f=f then onL x.p x.t x.c (foldF f ws l) else foldF f ws l:=by simp[foldF]
theorem othF_snoc (f:Nat)(ws:List Chg)(x:Chg):othF f (ws++[x])=if x.f=f then othF f ws else othF f ws++[x]:=by
 unfold othF;rw[List.filter_append];by_cases h:x.f=f<;>simp[h]
theorem othF_le (f:Nat)(ws:List Chg):(othF f ws).length≤ws.length:=List.length_filter_le _ _
theorem chgs_get:∀{ws:List Chg} {i j:Nat} (h:i<ws.length),j<4→(chgsCells ws)[i*4+j]?=(chgCells (ws[i]'h))[j]?
 | x :: ws, 0, j, _, hj => by
  show(chgCells x++chgsCells ws)[0*4+j]?=_;rw[List.getElem?_append_left (by simp[chgCells];omega),Nat.zero_mul,Nat.zero_add];rfl
 | x :: ws, i + 1, j, h, hj => by
  have h':i<ws.length:=by simpa using h
  show(chgCells x++chgsCells ws)[(i+1)*4+j]?=_;rw[List.getElem?_append_right (by simp[chgCells];omega),show(i+1)*4+j-(chgCells x).length=i*4+j by simp[chgCells];omega,chgs_get h' hj];rfl
theorem row_kept2 {vw:Value}{ws:List Chg}(h:PD X B D vb vw lb ws left count down)(hk:k<4)(ho:X.ownsRow B0 181 4 v n xs)(hb:But2 X Y (some D) (vb k).ownBlock):Y.ownsRow B0 181 4 v n xs:=
 row_keep ho fun g hg=>by
  have h1:=row_neD h.blk (by decide) ho;have h2:v.ownBlock=none∨v.ownBlock≠(vb k).ownBlock:=by
   rcases(h.rows k hk).2 with⟨e,_⟩|⟨g',cap,cur,e,_,hgg,_⟩
   ·rw[e];exact .inr (fun h=>by rw[hg] at h;cases h)
   ·rw[e];exact row_neD hgg (by decide) ho
  refine hb.block g (World.ownsRow.lt ho g hg).2 (fun e=>?_) (fun e=>?_)
  ·rcases h1 with h1|h1
   ·rw[hg] at h1;cases h1
   ·exact h1 (by rw[hg,e])
  ·rcases h2 with h2|h2
   ·rw[hg] at h2;cases h2
   ·exact h2 (by rw[hg,e])
theorem none_or (h:∀b,o=some b→¬b=g):o=none∨o≠some g:=by
 cases o with
 | none=>exact .inl rfl
 | some b=>exact .inr (fun e=>by injection e with e;exact h b rfl e)
theorem PD.keptC {vw:Value}{ws:List Chg}(h:PD X B D vb vw lb ws left count down)(ho:X.ownsRow B0 181 4 v n xs)(hv:∀g,vw.ownBlock=some g→g<B0)(hg:X.grownBy Y v.ownBlock):PD Y B D vb vw lb ws left count down:=by
 have far:∀(e:TypeId) (size:Nat) (u:Value) (m:Nat) (ys:List Value),¬e=181→X.ownsRow B e size u m ys→u.ownBlock=none∨u.ownBlock≠v.ownBlock:=fun e size u m ys he hu=>by
  rcases ho.2 with⟨e1,_⟩|⟨g',cap,cur,e1,_,hgg,_⟩
  ·rw[e1];cases hq:u.ownBlock with
   | none=>exact .inl rfl
   | some b=>exact .inr (fun h=>by cases h)
  ·rw[e1];exact row_neD hgg he hu
 refine⟨(hg.block D h.lt (neD' (row_neD h.blk (by decide) ho))).trans h.blk,h.low,fun i hi=>World.ownsRow.kept (h.rows i hi) hg (far _ _ _ _ _ (by decide) (h.rows i hi)),World.ownsRow.kept h.wrow hg ?_,h.dif,h.size,h.oks⟩;rcases ho.2 with⟨e1,_⟩ | ⟨g',cap,cur,e1,hlo,_⟩
 ·rw[e1];cases hq:vw.ownBlock with
  | none=>exact .inl rfl
  | some b=>exact .inr (fun h=>by cases h)
 ·rw[e1];exact none_or (fun b hb e=>by have h1:=hv b hb;have e:b=g':=e;omega)
theorem PD.setW {vw:Value}{ws ws':List Chg}(h:PD X B D vb vw lb ws left count down)(ho:X.ownsRow B0 181 4 v ws'.length (chgsCells ws'))(hB:B≤B0)(hok:∀x∈ws',okC x):PD (X.setCell ⟨D,4,none⟩ v) B D vb v lb ws' left count down:=by
 have hset:=set_grown X D 4 v;refine⟨by rw[set_blk h.blk];rfl,h.low,fun i hi=>World.ownsRow.kept (h.rows i hi) hset (row_neD h.blk (by decide) (h.rows i hi)),?_,h.dif,h.size,hok⟩;have:=World.ownsRow.kept ho hset (row_neD h.blk (by decide) ho);refine⟨this.1,?_⟩;rcases this.2 with h' | ⟨g,cap,cur,h1,h2,h3⟩
 ·exact .inl h'
 ·exact .inr ⟨g,cap,cur,h1,Nat.le_trans hB h2,h3⟩
theorem PD.vwlt {vw:Value}{ws:List Chg}(h:PD X B D vb vw lb ws left count down):∀g,vw.ownBlock=some g→g<X.heap.size:=fun g hg=>(World.ownsRow.lt h.wrow g hg).2
end Go.Proofs.YtiaibgfhigdgdaaGreat
