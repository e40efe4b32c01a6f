/- a part -/
import Derived.Test.YtiaibgfhigdgdaaGreatS0
import Derived.Test.YtiaibgfhigdgdaaGreatShelf3
set_option maxRecDepth 100000
set_option maxHeartbeats 8000000
namespace Go.Proofs.YtiaibgfhigdgdaaGreat
open Go.RowKit Go.Lib
variable {P:Program}{w:World}{v:Value}{B b:Nat}{bs:List UInt8}
attribute [local go_sem ↓] Go.wp_at_zero Go.wp_at_succ
structure BdV (w:World) (B b:Nat) (v:Value) (bs:List UInt8):Prop where
 blk:∃p,(p=.pointer none∨p=(.pointer (some ⟨b,0,none⟩)))∧w.heap[b]?=some (.cells #[p,v] 218 (0,0))
 row:w.ownsRow B 5 1 v bs.length (byteCells bs)
theorem hid {p:Prop}(h:p):Hid p:=h
def ren240:Go.Shelf.Ren:=⟨fun | 240=>211 | 276=>222 | n=>n,fun | 0=>0 | 4=>4 | 9=>9 | 20=>20 | 37=>59 | 70=>216 | 72=>218 | 164=>247 | n=>n,fun | n=>n⟩
theorem lays240:Go.Proofs.Lays.n240 Tryz.prog ren240:=⟨by kernel_rfl,Tryz.func211.trans (congrArg some (by kernel_rfl)),Tryz.func222.trans (congrArg some (by kernel_rfl)),Tryz.underlying0,Tryz.isAgg0,Tryz.sizeOf0,Tryz.zeroValue0,Tryz.underlying4,Tryz.isAgg4,Tryz.sizeOf4,Tryz.zeroValue4,Tryz.underlying9,Tryz.isAgg9,Tryz.sizeOf9,Tryz.zeroValue9,Tryz.underlying20,Tryz.isAgg20,Tryz.sizeOf20,Tryz.zeroValue20,Tryz.underlying216,Tryz.isAgg216,Tryz.sizeOf216,Tryz.zeroValue216,Tryz.underlying218,Tryz.isAgg218,Tryz.sizeOf218,Tryz.zeroValue218,Tryz.underlying247,Tryz.isAgg247,Tryz.sizeOf247,Tryz.zeroValue247⟩
theorem x72:Go.Proofs.Builder.X72 Tryz.prog ren240:=⟨by kernel_rfl,by kernel_rfl⟩
theorem ccopyOld (b:Nat)(w:World)(h0:w.cell? ⟨b,0,none⟩=some (.pointer (some ⟨b,0,none⟩))):Calls Tryz.prog 211 #[(.pointer (some ⟨b,0,none⟩))] w fun e w'=>e=.returned (.tuple #[])∧w'=w:=Any.Builder_copyCheck_used lays240 x72 b w h0
theorem ccopyNew (b:Nat)(v:Value)(w:World)(hb:w.heap[b]?=some (.cells #[.pointer none,v] 218 (0,0))):Calls Tryz.prog 211 #[(.pointer (some ⟨b,0,none⟩))] w fun e w'=>e=.returned (.tuple #[])∧w'=w.setCell ⟨b,0,none⟩ (.pointer (some ⟨b,0,none⟩)):=
 Any.Builder_copyCheck_fresh lays240 x72 b w (by simp[World.cell?,hb]) (show w.shape? b=some (218,2) by simp[World.shape?,hb]) (by simp[World.frozen?,hb])
theorem run_app_at (w:World)(base:Nat)(t u ty e:TypeId)(i:TypeInfo)(ht:P.underlying t=some (.slice e))(hu:P.underlying u=some .string)(hi:P.info? e=some i)(hz:i.zero=some (.int .u8 0))(hsize:i.size=1)(hby:i.bytes=1)(v:Value)(n:Nat)(xs:List Value)(hown:w.ownsRow base e 1 v n xs)(s:ByteArray)(h63:n+s.size≤1000000)(hbase:base≤w.heap.size):∃v' w',(Builtin.append_ #[t,u] ty #[v,.string s]).run P w=.ok v' w'∧w'.ownsRow base e 1 v' (n+s.size) (xs++strCells s)∧w.grownBy w' v.ownBlock∧newB w v v':=by
 obtain⟨v',w',hr,h1,h2,h3⟩:=run_append_own_string (P:=P) w base t u ty e i ht hu hi hz hsize hby v n xs hown s (by unfold maxLen;omega) (by omega) hbase;refine⟨v',w',hr,h1,h2,?_⟩;have hxl:xs.length=n:=by simpa using hown.1
 rcases hown.2 with⟨rfl,rfl⟩|⟨g,cap,cur,rfl,hbg,hg,hnc,hcm,hcs,htake⟩
 ·by_cases hm:s.size=0
  ·rw[h3.2 ⟨rfl,hm⟩];exact .inl rfl
  ·have hq:=run_append_nil_string (P:=P) w t u ty e i (.int .u8 0) ht hu hi hz s (by omega) (by omega) (by rw[hby];omega);rw[hq] at hr;injection hr with hr _;exact .inr ⟨_,by rw[←hr];rfl,Nat.le_refl _⟩
 ·by_cases hroom:n+s.size≤cap
  ·have hcs':cur.size=cap:=by simpa using hcs
   have hq:=run_append_room_string (P:=P) w t u ty e i ht hu hi hsize g n cap cur hg s hroom (by omega);rw[hq] at hr;injection hr with hr _;exact .inl (by rw[←hr];rfl)
  ·have holds:∀j u,xs[j]?=some u→w.cell? ((⟨g,0,none⟩:Addr).add j)=some u:=hown.cells (g:=g) rfl;have hq:=run_append_grow_string (P:=P) w t u ty e i (.int .u8 0) ht hu hi hz ⟨g,0,none⟩ n cap xs (by rw[hsize];simpa using hxl) holds s (by omega) (by omega) (by rw[hby];exact growslice_fits (by omega) (by omega));rw[hq] at hr;injection hr with hr _;exact .inr ⟨_,by rw[←hr];rfl,Nat.le_refl _⟩
theorem wpList_app_at {ops:Array Oper}{rest:List Oper}{o:Oper}{a:Act}{Q:Exit→Act→World→Prop}(hgd:o.guard=none)(sl x:Operand)(t u:TypeId)(ho:o.op=.call { callee:=.builtin .append,args:=#[sl,x],argTypes:=#[t,u]})(base:Nat)(e:TypeId)(i:TypeInfo)(ht:P.underlying t=some (.slice e))(hu:P.underlying u=some .string)(hi:P.info? e=some i)(hz:i.zero=some (.int .u8 0))(hsize:i.size=1)(hby:i.bytes=1)(v:Value)(n:Nat)(xs:List Value)(hs:a.eval sl=v)(hown:w.ownsRow base e 1 v n xs)(s:ByteArray)(hx:a.eval x=.string s)(h63:n+s.size≤1000000)(hbase:base≤w.heap.size)(h:∀v' w',w'.ownsRow base e 1 v' (n+s.size) (xs++strCells s)→w.grownBy w' v.ownBlock→newB w v v'→wpList P ops Q rest (a.put o.dst v') w'):wpList P ops Q (o::rest) a w:=by
 refine wpList_plain hgd fun K hK=>?_
 obtain⟨v',w',hr,h2,h3,h4⟩:=run_app_at (P:=P) w base t u o.type e i ht hu hi hz hsize hby v n xs hown s h63 hbase;unfold Oper.wp execOp;simp only[ho,resolve,invoke,builtin,Sem.run_bind,Sem.run_pure,Result.andThen_ok,List.map_toArray,List.map_cons,List.map_nil,hs,hx,hr];exact hK _ _ (h v' w' h2 h3 h4)
theorem hnew_mono {w1:World}{v':Value}(h:w.heap.size≤w1.heap.size)(k:newB w1 v v'):newB w v v':=k.imp id fun⟨g,e,hg⟩=>⟨g,e,Nat.le_trans h hg⟩
theorem ccopy (h:BdV w B b v bs):Calls Tryz.prog 211 #[(.pointer (some ⟨b,0,none⟩))] w fun e w'=>e=.returned (.tuple #[])∧w'.heap[b]?=some (.cells #[(.pointer (some ⟨b,0,none⟩)),v] 218 (0,0))∧w.grownBy w' (some b):=by
 obtain⟨p,(rfl|rfl),hb⟩:=h.blk
 ·refine(ccopyNew b v w hb).mono ?_;rintro e w'⟨rfl,rfl⟩;exact⟨rfl,by rw[set_blk hb];rfl,set_grown w b 0 _⟩
 ·refine(ccopyOld b w (by simp[World.cell?,hb])).mono ?_;rintro e w'⟨rfl,rfl⟩;exact⟨rfl,hb,But.refl _ _⟩
theorem cwriteB (h:BdV w B b v bs)(s:ByteArray)(hlen:bs.length+s.size≤1000000)(hB:B≤w.heap.size):Calls Tryz.prog 189 #[(.pointer (some ⟨b,0,none⟩)),.string s] w fun e w'=>e=.returned (.tuple #[.int .i64 s.size,.nilIface])∧∃v',BdV w' B b v' (bs++s.data.toList)∧But2 w w' (some b) v.ownBlock∧newB w v v':=by
 obtain⟨i0,hi,hz0,hz1,hz2⟩:=info_parts infoB;have HC:=hid (ccopy h);have hlt:b<w.heap.size:=by obtain⟨p,_,hb⟩:=h.blk;exact(Array.getElem?_eq_some_iff.1 hb).1
 have hne:v.ownBlock=none∨v.ownBlock≠some b:=by obtain⟨p,_,hb⟩:=h.blk;exact row_neD hb (by decide) h.row
 have HR:=hid h.row;clear h;go_enter Tryz.func189,Tryz.ntmps189;go_wp2_with fail
 refine HC.out.mono ?_;rintro e w1⟨rfl,hb1,hg1⟩;have hown:w1.ownsRow B 5 1 v bs.length (byteCells bs):=World.ownsRow.kept HR.out hg1 hne;have c1:w1.cell? ⟨b,1,none⟩=some v:=by simp[World.cell?,hb1]
 have hs1:=hg1.size;clear HC;go_wp2_with (at_builtin;refine wpList_app_at rfl _ _ 59 9 rfl B 5 i0 Tryz.underlying59 Tryz.underlying9 hi hz0 hz1 hz2 _ _ _ rfl hown s rfl ?c3 ?c5 ?_)
 case c3=>omega
 case c5=>omega
 intro v' w2 hown' hgrow hnew;have hb2:w2.heap[b]?=some (.cells #[(.pointer (some ⟨b,0,none⟩)),v] 218 (0,0)):=by
  rw[hgrow.block b (Nat.lt_of_lt_of_le hlt hs1) (neD' hne)];exact hb1
 have d1:w2.cell? ⟨b,1,none⟩=some v:=by simp[World.cell?,hb2]
 have f1:w2.frozen? ⟨b,1,none⟩=false:=by simp[World.frozen?,hb2]
 obtain⟨ao,n',cap,rfl⟩:∃ao n' cap,v'=.slice ao n' cap:=by
  rcases hown'.2 with⟨hv,_⟩|⟨g,cap,cur,hv,_⟩
  ·exact⟨_,_,_,hv⟩
  ·exact⟨_,_,_,hv⟩
 have hN:=hid (hnew_mono hs1 hnew);have HO:=hid hown';have HB2:=hid hb2;have HG:Hid (But2 w (w2.setCell ⟨b,1,none⟩ (.slice ao n' cap)) (some b) v.ownBlock):=⟨hgrow.os.trans hg1.os,hgrow.tape.trans hg1.tape,hgrow.output.trans hg1.output,(by simp;exact Nat.le_trans hs1 hgrow.size),fun c hc h1 h2=>by
  rw[Below.heap_setCell _ _ _ c (fun e=>h1 (by rw[e])),hgrow.block c (Nat.lt_of_lt_of_le hc hs1) h2];exact hg1.block c hc h1⟩
 clear hown' hgrow hnew hb2 hg1 hb1 hown HR;go_wp2
 go_ret2
 refine⟨rfl,.slice ao n' cap,⟨⟨(.pointer (some ⟨b,0,none⟩)),.inr rfl,by rw[set_blk HB2.out];rfl⟩,?_⟩,HG.out,hN.out⟩;have:=World.ownsRow.kept HO.out (set_grown w2 b 1 (.slice ao n' cap)) (row_neD HB2.out (by decide) HO.out);rw[List.length_append,Array.length_toList,byteCells_append];exact this
theorem freeze_grown (w:World)(g n:Nat):w.grownBy (w.freeze ⟨g,0,none⟩ n) (some g):=by
 unfold World.freeze;split
 ·exact⟨rfl,rfl,rfl,Nat.le_refl _,fun _ _ _=>rfl⟩
 ·refine⟨rfl,rfl,rfl,by simp,fun b _ hb=>?_⟩;simp only[Array.getElem?_modify];rw[if_neg (fun e=>hb (by rw[e]))]
theorem cstringB (h:BdV w B b v bs)(h0:bs≠[]):Calls Tryz.prog 190 #[(.pointer (some ⟨b,0,none⟩))] w fun e w'=>e=.returned (.string ⟨bs.toArray⟩)∧w.grownBy w' v.ownBlock:=by
 obtain⟨p,_,hbk⟩:=h.blk;have hl0:bs.length≠0:=by simpa using h0
 have hown:=h.row;obtain⟨g,cap,cur,rfl,hbg,hg,hnc,hcm,hcs,htake⟩:∃g cap cur,v=.slice (some ⟨g,0,none⟩) bs.length cap∧B≤g∧w.heap[g]?=some (.cells cur 5 (0,0))∧bs.length≤cap∧cap≤maxLen∧cur.size=cap*1∧cur.toList.take (bs.length*1)=byteCells bs:=by
  rcases hown.2 with⟨_,hz⟩|⟨g,cap,cur,hv,r⟩
  ·exact absurd hz hl0
  ·exact⟨g,cap,cur,hv,r⟩
 have c1:w.drew.cell? ⟨b,1,none⟩=some (.slice (some ⟨g,0,none⟩) bs.length cap):=by
  have:w.drew.heap[b]?=some (.cells #[p,.slice (some ⟨g,0,none⟩) bs.length cap] 218 (0,0)):=hbk;simp[World.cell?,this]
 have hSD:(Builtin.unsafeSliceData_ #[59] 238 #[.slice (some ⟨g,0,none⟩) bs.length cap]).run Tryz.prog w.drew=.ok (.pointer (some ⟨g,0,none⟩)) w.drew:=run_unsafeSliceData_row _ _ _ _ _ _ (by omega);have hUS:(Builtin.unsafeString_ #[238,3] 9 #[.pointer (some ⟨g,0,none⟩),.int .i64 bs.length]).run Tryz.prog w.drew=.ok (.string ⟨bs.toArray⟩) (w.drew.freeze ⟨g,0,none⟩ bs.length):=by
  refine run_unsafeString_row w.drew 238 3 9 5 Tryz.underlying238 Tryz.Builder_Extra_169.cellsByte g cur.size (by have hg':w.drew.heap[g]?=some (.cells cur 5 (0,0)):=hg;simp[World.shape?,hg']) bs h0 (by omega) (by unfold maxLen at hcm;omega) ?_;intro j x hx;exact hown.cells (g:=g) rfl j (.int .u8 x.toNat) (by simp[byteCells,hx])
 have HF:=hid (But.trans (show w.grownBy w.drew (some g) from⟨rfl,rfl,rfl,Nat.le_refl _,fun _ _ _=>rfl⟩) (freeze_grown w.drew g bs.length));clear h hown hbk htake;have mixed:Tryz.prog.follows Departure.mixedOrders=true:=by kernel_rfl
 go_enter Tryz.func190,Tryz.ntmps190;go_wp2
 go_region_o
 all_goals (go_wp2;go_ret;exact⟨rfl,HF.out⟩)
end Go.Proofs.YtiaibgfhigdgdaaGreat
