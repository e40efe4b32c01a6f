/- a part -/
import Derived.Test.YtfjkockcgddgbaaGreatP4
import Derived.Test.YtfjkockcgddgbaaGreatSrt
import Derived.Maps.StringElems
set_option maxRecDepth 100000
set_option maxHeartbeats 8000000
namespace Go.Proofs.YtfjkockcgddgbaaGreat
open Go.RowKit Go.Maps Go.Sort Go.Shelf
variable {S T:DS}{a b n g i m f p q slot size k:Nat}{W X:World}{l l' log' P P':List UInt8}{F F':Int→Option ByteArray}{x:Chg}{lb:Nat→List UInt8}{ws:List Chg}{c:Cm}{t s:ByteArray}{K:Nat→Prop}{fa:Nat→Int}
open Go.Lib
attribute [local go_sem ↓] Go.wp_at_zero Go.wp_at_succ
theorem okS_up (h:okS S a)(hab:a≤b):okS S b:=by
 obtain⟨h1,h2,h3,h4⟩:=h;exact⟨h1,h2,by omega,by omega⟩
def pickI (c n:Int):Int:=(if c<0 then -(c+1) else c)%n
theorem pickI_in (c:Int){n:Int}(hn:0<n):0≤pickI c n∧pickI c n<n:=⟨Int.emod_nonneg _ (by omega),Int.emod_lt_of_pos _ hn⟩
theorem cpick (c n:Int)(w:World)(hc:-9223372036854775808≤c∧c≤9223372036854775807)(hn:0<n∧n≤1000):Calls Tryz.prog 32 #[.int .i64 c,.int .i64 n] w fun e w'=>e=.returned (.int .i64 (pickI c n))∧w'=w:=by
 unfold pickI;by_cases h:c<0
 ·rw[if_pos h];have t2:-((c+1).tmod n)=(-(c+1))%n:=by rw[←Int.neg_tmod,Int.tmod_eq_emod_of_nonneg (by omega)]
  have T2:Hid _:=t2;clear t2;go_enter Tryz.func32,Tryz.ntmps32;go_wp2;go_ret;exact⟨congrArg (fun z=>Ending.returned (.int .i64 z)) T2.out,rfl⟩
 ·rw[if_neg h];have t1:c.tmod n=c%n:=Int.tmod_eq_emod_of_nonneg (by omega);go_enter Tryz.func32,Tryz.ntmps32;go_wp2;go_ret;exact⟨rfl,rfl⟩
def Pg (W:World)(g:Nat)(l:List UInt8):Prop:=l.length=1024∧W.heap[g]?=some (.cells (valsB l).toArray 5 (0,0))
def blank:List UInt8:=List.replicate 1024 0
theorem blank_len:blank.length=1024:=by unfold blank;exact List.length_replicate
theorem blank_cells:valsB blank=List.replicate 1024 (.int .u8 0):=by unfold valsB blank;rw[List.map_replicate];rfl
theorem makeB (w:World):(Instr.makeSlice 79 (.int .i64 1024) (.int .i64 1024)).run Tryz.prog w=.ok (.slice (some ⟨w.heap.size,0,none⟩) 1024 1024) (w.alloc (.cells (valsB blank).toArray 5)):=by
 have hI:(Tryz.prog.info? 5).map (fun i=>(i.zero,i.size,i.bytes))=some (some (.int .u8 0),1,1):=by kernel_rfl
 obtain⟨i0,hi,hz0,hz1,hz2⟩:=info_parts hI;rw[run_make w 79 5 i0 (.int .u8 0) Tryz.underlying79 hi hz0 .i64 .i64 1024 1024 (by decide) (by decide) (by rw[hz2];decide) (by decide),hz1];have e:madeCells (Value.int IntKind.u8 0).cells ((1024:Int).toNat*1)=(valsB blank).toArray:=by
  apply Array.ext';show(madeCells #[.int .u8 0] 1024).toList=valsB blank;rw[toList_madeCells_one,blank_cells]
 rw[e];rfl
theorem Pg.cell (h:Pg W g l)(hi:i<1024):W.cell? ⟨g,i,none⟩=some (.int .u8 ((l[i]'(by rw[h.1];exact hi)).toNat))∧W.frozen? ⟨g,i,none⟩=false:=by
 have hl:=h.1;constructor
 ·simp[World.cell?,h.2,valsB,hl,hi]
 ·simp[World.frozen?,h.2]
theorem Pg.set (h:Pg W g l)(i:Nat)(x:UInt8):Pg (W.setCell ⟨g,i,none⟩ (.int .u8 x.toNat)) g (l.set i x):=by
 refine⟨by rw[List.length_set];exact h.1,?_⟩;rw[set_blk h.2]
 congr 2
 simp[valsB]
theorem Pg.text (h:Pg W g l):(convert 79 9 (.slice (some ⟨g,0,none⟩) 1024 1024)).run Tryz.prog W=.ok (.string ⟨l.toArray⟩) W:=by
 have:=run_convert_bytes_back (P:=Tryz.prog) W 79 9 5 ⟨g,0,none⟩ 1024 l Tryz.underlying79 Tryz.underlying5 Tryz.underlying9 (fun j hj=>by
  rw[Addr.add_lit];simp[World.cell?,h.2,valsB,hj])
 rw[h.1] at this;exact this
def shX (n:Int)(i:Nat):UInt8:=UInt8.ofNat ((n*(((i/100:Nat):Int)+1))%256).toNat
theorem sh_eq (n:Int)(i:Nat):wrap64 (n*((i:Int)/100+1))%256=((shX n i).toNat:Int):=by
 unfold shX wrap64;rw[show((i/100:Nat):Int)=(i:Int)/100 by omega];generalize n*((i:Int)/100+1)=z;rw[UInt8.toNat_ofNat'];omega
def shL (n:Int)(i:Nat):List UInt8:=(List.range i).map (shX n)++List.replicate (1024-i) 0
def shB (n:Int):ByteArray:=⟨(shL n 1024).toArray⟩
theorem shL_len (n:Int)(h:i≤1024):(shL n i).length=1024:=by unfold shL;simp;omega
theorem shB_size (n:Int):(shB n).size=1024:=shL_len n (Nat.le_refl _)
theorem shL_zero (n:Int):shL n 0=blank:=rfl
theorem shL_succ (n:Int)(h:i<1024):(shL n i).set i (shX n i)=shL n (i+1):=by
 unfold shL;rw[List.range_succ,List.map_append,List.set_append,if_neg (by simp),List.append_assoc]
 congr 1
 rw[show 1024-i=(1024-(i+1))+1 by omega,List.replicate_succ];simp
theorem csheet (n:Int)(w:World):Calls Tryz.prog 36 #[.int .i64 n] w fun e w'=>e=.returned (.string (shB n))∧Below w.heap.size w w':=by
 have hm:=makeB w;have HZ:Hid (Pg (w.alloc (.cells (valsB blank).toArray 5)) w.heap.size blank):=⟨blank_len,heap_alloc_new w _⟩;have HB0:Hid (Below w.heap.size w (w.alloc (.cells (valsB blank).toArray 5))):=(Below.refl _ _).alloc (Nat.le_refl _) _;go_enter Tryz.func36,Tryz.ntmps36;go_wp2_with fail
 generalize w.alloc (.cells (valsB blank).toArray 5)=W0 at *
 go_loopw [8] (fun u Y=>∃i:Nat,u=.int .i64 i∧i≤1024∧Hid (Pg Y w.heap.size (shL n i))∧Hid (Below w.heap.size w Y)) (fun u _=>1024-(intOf u).toNat)
 case atStart=>exact⟨0,rfl,Nat.zero_le _,by rw[shL_zero];exact HZ.out,HB0⟩
 case round =>
  obtain⟨i,rfl,hi,HP,HB⟩:=hrel;by_cases hlt:i<1024
  ·have k1:(i:Int)<1024:=by omega
   obtain⟨c0,f0⟩:=HP.out.cell hlt;have HP2:Hid (Pg (wr.setCell ⟨w.heap.size,i,none⟩ (.int .u8 (shX n i).toNat)) w.heap.size (shL n (i+1))):=by
    show Pg _ _ _;rw[←shL_succ n hlt];exact HP.out.set i _
   have HE:Hid (wrap64 (n*((i:Int)/100+1))%256=((shX n i).toNat:Int)):=sh_eq n i;go_wp2;rw[HE.out]
   go_roundw
   case rel=>exact⟨i+1,by go_num,by omega,HP2,HB.out.setCell (p:=⟨w.heap.size,i,none⟩) (Nat.le_refl _) _⟩
   case measure=>simp[intOf];omega
  ·obtain rfl:i=1024:=by omega
   have ht:=HP.out.text;go_wp2;go_ret;exact⟨rfl,HB.out⟩
theorem zeroS (w:World):(zeroValue 9).run Tryz.prog w=.ok (.string ⟨#[]⟩) w:=by kernel_rfl
def MS (X:World)(b n:Nat)(F:Int→Option ByteArray):Prop:=∃D:DataW Unit,X.ownsMap Tryz.prog 3 (plainElem Tryz.prog 9) b n D∧∀x,i64 x→(Maps.has D (.int .i64 x)=(F x).isSome∧∀v,F x=some v→∀z,D.atKey (.int .i64 x) z=.lit (.string v.data.toList))
def updS (F:Int→Option ByteArray)(k:Int)(v:ByteArray):Int→Option ByteArray:=fun x=>if x=k then some v else F x
theorem MS.lt (h:MS X b n F):b<X.heap.size:=by obtain⟨D,h,-⟩:=h;exact h.lt
theorem MS.mono (h:MS X b n F)(hn:n≤m):MS X b m F:=by obtain⟨D,h,k⟩:=h;exact⟨D,h.mono hn,k⟩
theorem MS.keep {Y:World}(h:MS X b n F)(e:Y.heap[b]?=X.heap[b]?):MS Y b n F:=by
 obtain⟨D,⟨es,clock,hb,r⟩,k⟩:=h;exact⟨D,⟨es,clock,e.trans hb,r⟩,k⟩
theorem MS.isMap (h:MS X b n F):∃es clock,X.heap[b]?=some (.map es clock):=by
 obtain⟨D,⟨es,clock,hb,r⟩,k⟩:=h;exact⟨es,clock,hb⟩
theorem MS.far (h:MS X b n F)(T:TypeId→Bool):farT T X b:=fun cur e fz he=>by
 obtain⟨es,clock,hb⟩:=h.isMap;rw[hb] at he;cases he
theorem MS.congr (h:MS X b n F)(he:∀x,i64 x→F' x=F x):MS X b n F':=by
 obtain⟨D,ho,k⟩:=h;exact⟨D,ho,fun x hx=>by rw[he x hx];exact k x hx⟩
theorem MS.made (X:World):MS (X.alloc (.map #[] 0)) X.heap.size 0 (fun _=>none):=
 ⟨.map [],World.ownsMap_made X _ _ _,fun _ _=>⟨rfl,fun v h=>by cases h⟩⟩
theorem MS.look (h:MS X b n F){x:Int}(hx:i64 x):(Instr.lookup 64 (.map (some b)) (.int .i64 x) true).run Tryz.prog X=.ok (.tuple #[.string ((F x).getD ⟨#[]⟩),.bool (F x).isSome]) X:=by
 obtain⟨D,h,k⟩:=h;obtain⟨k1,k2⟩:=k x hx;obtain⟨v,ps,hrun,hR⟩:=h.look_ok lawI Tryz.underlying64 (zeroS X) (plainElem_string (H:=Unit) Tryz.underlying9 (by decide)) (keyOf_int_mk Tryz.underlying3 hx);obtain⟨c,rfl,hc,-⟩:=plainElem_string_inv Tryz.underlying9 hR;simp only[Prod.mk.injEq] at hc;rw[hrun,k1];cases hF:F x with
 | none =>
  rw[hF] at k1;rw[atKey_of_not_has k1] at hc;have e:c=⟨#[]⟩:=by
   have:=hc.1;simp at this;cases c;simp at this;rw[this]
  simp[e]
 | some v =>
  rw[k2 v hF] at hc;have e:c=v:=by
   have:=hc.1;simp at this;exact ll_inj (by unfold ll;rw[this])
  simp[e]
theorem MS.put (h:MS X b n F)(hn:n≤1000000){x:Int}{v:ByteArray}(hx:i64 x)(hv:v.size≤1048576):∃Y,(Instr.mapUpdate 64 (.map (some b)) (.int .i64 x) (.string v)).run Tryz.prog X=.ok () Y∧MS Y b (n+1) (updS F x v)∧X.grownBy Y (some b):=by
 obtain⟨D,h,k⟩:=h;obtain⟨Y,hrun,hY,hg⟩:=h.update lawI Tryz.underlying64 (by unfold maxLen;omega) (keyOf_int_mk Tryz.underlying3 hx) (plainElem_string (H:=Unit) (s:=v) Tryz.underlying9 (by unfold maxLen;omega));refine⟨Y,hrun,⟨_,hY,fun y hy=>?_⟩,hg⟩;unfold updS;by_cases e:y=x
 ·subst e;rw[if_pos rfl];refine⟨has_put_same h.isMap (keyLit _) _,fun u hu z=>?_⟩;obtain rfl:v=u:=by simpa using hu
  exact atKey_put_same h.isMap (keyLit _) _ z
 ·have ne:Lit.int .i64 y≠Lit.int .i64 x:=fun h=>by injection h with _ h;exact e h
  rw[if_neg e,has_put_other ne];exact⟨(k y hy).1,fun u hu z=>by rw[atKey_put_other ne];exact(k y hy).2 u hu z⟩
def wth (F:Int→Option ByteArray)(n:Int)(s:ByteArray):Int→Option ByteArray:=updS F n s
def wthL (F:Int→Option ByteArray)(n:Int)(s:ByteArray)(left:Lit→Bool):Int→Option ByteArray:=fun x=>if x=n then some s else if left (.int .i64 x)=true then none else F x
theorem cwith (b N:Nat)(F:Int→Option ByteArray)(n:Int)(s:ByteArray)(X:World)(h:MS X b N F)(hN:N≤100000)(hn:i64 n)(hs:s.size≤1048576)(hF:∀x v,F x=some v→v.size≤1048576):Calls Tryz.prog 35 #[.map (some b),.int .i64 n,.string s] X fun e w'=>e=.returned (.map (some X.heap.size))∧MS w' X.heap.size (N+1) (wth F n s)∧Below X.heap.size X w':=by
 obtain⟨DF,hown,HK⟩:=h;have hbl:=hown.lt;have HKK:Hid _:=HK;have hmm:=@run_makeMap Tryz.prog;have e1:(X.alloc (.map #[] 0)).heap.size=X.heap.size+1:=by simp
 obtain⟨Y,hrun,hMY,hgY⟩:=(MS.made X).put (by omega) hn hs;clear HK;go_enter Tryz.func35,Tryz.ntmps35;have hownY:Y.ownsMap Tryz.prog 3 (plainElem Tryz.prog 9) b N DF:=(hown.alloc _).kept hgY (fun e=>by injection e with e;omega);have HBY:Hid (Below X.heap.size X Y):=⟨hgY.os,hgY.tape,hgY.output,Nat.le_trans (by simp) hgY.size,fun i hi=>(hgY.block i (by simp;omega) (fun e=>by injection e with e;omega)).trans (heap_alloc_old X _ hi)⟩;have hXY:Hid (X.heap.size<Y.heap.size):=hMY.lt;have HMY:Hid (MS Y X.heap.size (0+1) (updS (fun _=>none) n s)):=hMY;have hsz:=hown.size_le;clear hgY hMY;go_wp2_with (first
  | (at_range;refine wpList_range_own _ rfl _ 64 rfl 3 9 lawI Tryz.underlying64 _ b N _ rfl hownY ?_;intro w0 hrg0 hg0 hs0)
  | go_in)
 go_frame
 have HM0:Hid (MS w0 X.heap.size 1 (wthL F n s (Maps.has DF))):=by
  refine MS.congr (HMY.out.keep (hg0.block _ HMY.out.lt (by simp))) (fun x hx=>?_);have k:=(HKK.out x hx).1;unfold wthL updS;by_cases e:x=n
  ·rw[if_pos e,if_pos e]
  ·rw[if_neg e,if_neg e];cases hq:F x with
   | none=>split<;>rfl
   | some v=>rw[k,hq];rfl
 have HB0:Hid (Below X.heap.size X w0):=HBY.out.trans (Below.mono ⟨hg0.os,hg0.tape,hg0.output,hg0.size,fun i hi=>hg0.block i hi (by simp)⟩ (Nat.le_of_lt hXY.out));clear hg0 hs0 hrun hmm HMY HBY
 go_loopw [8] (fun _ wr=>∃(left:Lit→Bool) (cnt M:Nat),wr.ranges Tryz.prog 3 (plainElem Tryz.prog 9) b Y.heap.size N DF left cnt∧M+cnt≤N+1∧Hid (∀x,i64 x→left (.int .i64 x)=true→Maps.has DF (.int .i64 x)=true)∧Hid (MS wr X.heap.size M (wthL F n s left))∧Hid (Below X.heap.size X wr)) (fun _ wr=>wr.rangeLeft b Y.heap.size)
 case atStart=>exact⟨_,_,1,hrg0,by omega,fun x _ h=>h,HM0,HB0⟩
 case round =>
  obtain⟨left,cnt,M,hrg,hM,HLF,HMr,HBr⟩:=hrel;have hne1:¬Y.heap.size=X.heap.size:=by have:=hXY.out;omega
  go_wp2_with (first
   | (at_next;refine wpList_next_ranges_is _ rfl _ rfl 3 9 .i64 lawI Tryz.underlying3 Tryz.underlying9 b Y.heap.size N _ _ _ rfl hrg ?_ ?_)
   | go_in)
  ·intro hc0 hl0;go_wp2;go_ret;refine⟨rfl,(HMr.out.mono (by omega)).congr (fun x _=>?_),HBr.out⟩;unfold wth wthL updS;rw[hl0,if_neg (show ¬(false=true) by decide)]
  ·intro x c w5 cnt1 hwx hwc hlx hat hrg1 hlt hg1 hs1 hen;have HX:Hid (F x=some c):=by
    show F x=some c;have k:=HKK.out x hwx;rw[HLF.out x hwx hlx] at k;cases hq:F x with
    | none=>rw[hq] at k;cases k.1
    | some v =>
     have:=(k.2 v hq .nil).symm.trans (hat .nil);simp at this;exact congrArg some (ll_inj (by unfold ll;rw[this]))
   have HM5:Hid (MS w5 X.heap.size M (wthL F n s left)):=HMr.out.keep (hg1.block _ HMr.out.lt (fun e=>by injection e with e;exact hne1 e.symm));have HB5:Hid (Below X.heap.size X w5):=⟨hg1.os.trans HBr.out.os,hg1.tape.trans HBr.out.tape,hg1.output.trans HBr.out.output,Nat.le_trans HBr.out.size hg1.size,fun i hi=>(hg1.block i (Nat.lt_of_lt_of_le hi HBr.out.size) (fun e=>by injection e with e;have:=hXY.out;omega)).trans (HBr.out.block i hi)⟩;by_cases hxn:x=n
   ·subst hxn;have HS:Hid (MS w5 X.heap.size M (wthL F x s (fun z=>left z && !z.sameKey (.int .i64 x)))):=HM5.out.congr (fun y _=>by
     unfold wthL;by_cases e:y=x
     ·rw[if_pos e,if_pos e]
     ·rw[if_neg e,if_neg e];have:(Lit.int .i64 y).sameKey (.int .i64 x)=false:=sameKey_ne (fun h=>by injection h with _ h;exact e h);show(if(left (.int .i64 y) && !(Lit.int .i64 y).sameKey (.int .i64 x))=true then none else F y)=_;rw[this,Bool.not_false,Bool.and_true])
    go_wp2
    go_roundw
    case rel=>exact⟨_,cnt1,M,hrg1,by omega,fun y hy h=>HLF.out y hy (by simp at h;exact h.1),HS,HB5⟩
    case measure=>rw[hrg1.left_eq,hrg.left_eq];exact hlt
   ·have hxn':(x != n)=true:=by simpa using hxn
    obtain⟨Z,hrun,hMZ,hgZ⟩:=HM5.out.put (by omega) hwx (hF x c HX.out);have HS:Hid (MS Z X.heap.size (M+1) (wthL F n s (fun z=>left z && !z.sameKey (.int .i64 x)))):=hMZ.congr (fun y _=>by
     unfold wthL updS;by_cases e:y=x
     ·rw[if_pos e,if_neg (by rw[e];exact hxn),e,HX.out];exact if_neg (by simp[Lit.sameKey])
     ·rw[if_neg e];have:(Lit.int .i64 y).sameKey (.int .i64 x)=false:=sameKey_ne (fun h=>by injection h with _ h;exact e h);show(if y=n then some s else if(left (.int .i64 y) && !(Lit.int .i64 y).sameKey (.int .i64 x))=true then none else F y)=_;rw[this,Bool.not_false,Bool.and_true])
    have hrg2:=hrg1.kept hgZ (fun e=>by injection e with e;omega) (fun e=>by injection e with e;exact hne1 e);have HBZ:Hid (Below X.heap.size X Z):=⟨hgZ.os.trans HB5.out.os,hgZ.tape.trans HB5.out.tape,hgZ.output.trans HB5.out.output,Nat.le_trans HB5.out.size hgZ.size,fun i hi=>(hgZ.block i (Nat.lt_of_lt_of_le hi HB5.out.size) (fun e=>by injection e with e;omega)).trans (HB5.out.block i hi)⟩;clear hMZ hgZ;go_wp2
    go_roundw
    case rel=>exact⟨_,cnt1,M+1,hrg2,by omega,fun y hy h=>HLF.out y hy (by simp at h;exact h.1),HS,HBZ⟩
    case measure=>rw[hrg2.left_eq,hrg.left_eq];exact hlt
def newD:DS:=⟨fun _=>[],[],-1,0,false⟩
def txtF (S:DS)(i:Nat):ByteArray:=⟨(S.lb (2*i)).toArray⟩
def mv (S:DS):Nat→DS
 | 0=>newD
 | i+1=>(synD (opD (mv S i) i 0 (txtF S i) false).2 i).2
theorem ask0 {f n:Int}(hf:f=0∨f=1)(h0:0≤n)(h1:n≤67108864):askE f 0 n false=0:=by
 have:fitsD f 0 n:=by
  unfold fitsD;rcases hf with rfl | rfl<;>simp<;>omega
 unfold askE;rw[if_pos this];rfl
structure Mv (S:DS) (i:Nat):Prop where
 down:(mv S i).down=false
 left:(mv S i).left=-1
 ok:okS (mv S i) (2*i)
theorem mv_op (hd:T.down=false)(hl:T.left=-1)(f:Nat)(hf:f<2)(t:ByteArray)(ht:t.size≤67108864):∃T1 T2,opD T f 0 t false=(0,T1)∧synD T1 f=(0,T2)∧T2.down=false∧T2.left=-1:=by
 have hf':(f:Int)=0∨(f:Int)=1:=by omega
 have h1:opD T f 0 t false=(0,(opD T f 0 t false).2)∧(opD T f 0 t false).2.down=false∧(opD T f 0 t false).2.left=-1:=by
  unfold opD;rw[hd,if_pos (ask0 hf' (by omega) (by omega)),hl,if_neg (by decide)];exact⟨rfl,rfl,rfl⟩
 obtain⟨h1,hd1,hl1⟩:=h1;have h2:synD (opD T f 0 t false).2 f=(0,(synD (opD T f 0 t false).2 f).2)∧(synD (opD T f 0 t false).2 f).2.down=false∧(synD (opD T f 0 t false).2 f).2.left=-1:=by
  generalize (opD T f 0 t false).2=T1 at *;unfold synD;rw[hd1,if_pos (ask0 hf' (by omega) (by omega)),hl1,if_neg (by decide)];exact⟨rfl,rfl,rfl⟩
 exact⟨_,_,h1,h2.1,h2.2.1,h2.2.2⟩
theorem mv_ok (S:DS)(hs:∀i<4,(S.lb i).length≤67108864):∀i≤2,Mv S i
 | 0,_=>⟨rfl,rfl,⟨by show(_≤(-1:Int)∧(-1:Int)≤_);omega,Int.le_refl _,Int.le_refl _,Nat.le_refl _⟩⟩
 | i + 1, hi => by
  have h:=mv_ok S hs i (by omega);obtain⟨T1,T2,h1,h2,h3,h4⟩:=mv_op h.down h.left i (by omega) (txtF S i) (by show((S.lb (2*i)).toArray).size≤_;rw[List.size_toArray];exact hs (2*i) (by omega));have e:mv S (i+1)=T2:=by show(synD (opD (mv S i) i 0 (txtF S i) false).2 i).2=_;rw[h1,h2]
  have o1:=opD_ok h.ok i 0 (txtF S i) false;rw[h1] at o1;have o2:=synD_ok o1 i;rw[h2] at o2;exact⟨by rw[e];exact h3,by rw[e];exact h4,by rw[e];exact okS_up o2 (by omega)⟩
theorem cmoved (X:World)(B D:Nat)(S:DS)(h:PDs X B D S)(hd:S.down=false):Calls Tryz.prog 43 #[(.pointer (some ⟨D,0,none⟩))] X fun e w'=>e=.returned (.pointer (some ⟨X.heap.size,0,none⟩))∧PDs w' X.heap.size X.heap.size (mv S 2)∧Below X.heap.size X w':=by
 have HP:Hid (PDs X B D S):=h;have HL:Hid (∀i<4,(S.lb i).length≤67108864):=h.len;have HD:Hid (S.down=false):=hd;clear h hd;go_enter Tryz.func43,Tryz.ntmps43;go_wp2_with fail
 refine(cnew X).mono ?_;rintro e w1⟨rfl,hp1,hb1⟩;have HP1:Hid (PDs w1 X.heap.size X.heap.size (mv S 0)):=⟨_,_,hp1⟩;have HB1:Hid (Below X.heap.size X w1):=hb1;clear hp1 hb1;go_wp2_with fail
 go_loopw [4] (fun u Y=>∃i:Nat,u=.int .i64 i∧i≤2∧Hid (PDs Y X.heap.size X.heap.size (mv S i))∧Hid (Below X.heap.size X Y)) (fun u _=>2-(intOf u).toNat)
 case atStart=>exact⟨0,rfl,Nat.zero_le _,HP1,HB1⟩
 case round =>
  clear HP1 HB1;obtain⟨i,rfl,hi,HP1,HB1⟩:=hrel;by_cases hlt:i<2
  ·have k1:(i:Int)<2:=by omega
   have hf:(i:Int)=0∨(i:Int)=1:=by omega
   have hL:=HL.out (2*i) (by omega);have hM:=mv_ok S HL.out i (by omega);have HM:Hid (Mv S i):=hM;obtain⟨T1,T2,h1,h2,h3,h4⟩:=mv_op hM.down hM.left i (by omega) (txtF S i) (by show((S.lb (2*i)).toArray).size≤_;rw[List.size_toArray];exact hL);have hE:mv S (i+1)=T2:=by show(synD (opD (mv S i) i 0 (txtF S i) false).2 i).2=_;rw[h1,h2]
   have HE:Hid (mv S (i+1)=T2):=hE;have H1:Hid (opD (mv S i) i 0 (txtF S i) false=(0,T1)):=h1;have H2:Hid (synD T1 i=(0,T2)):=h2;have HO1:Hid (okS T1 (2*i+1)):=by
    have:=opD_ok hM.ok i 0 (txtF S i) false;rw[h1] at this;exact this
   obtain⟨n,hn⟩:∃n:Int,n=((S.lb (2*i)).length:Int):=⟨_,rfl⟩;have HS:Hid (sizV i S.lb S.down=n∧askE i 0 0 S.down=0):=by
    have a0:askE (i:Int) 0 0 S.down=0:=by rw[HD.out];exact ask0 hf (by omega) (by omega)
    refine(⟨?_,a0⟩:_∧_);unfold sizV;rw[if_pos a0,Int.toNat_natCast,hn]
   have HR:Hid (rdS i 0 n S.lb S.down=txtF S i∧rdE i 0 n S.lb S.down=0):=by
    have a0:askE (i:Int) 0 n S.down=0:=by rw[HD.out];exact ask0 hf (by omega) (by omega)
    have a1:rdE (i:Int) 0 n S.lb S.down=0:=by
     unfold rdE;rw[if_pos a0,Int.toNat_natCast,if_neg (by omega)]
    refine(⟨?_,a1⟩:_∧_);unfold rdS;rw[if_pos a1,Int.toNat_natCast,hn];show _=(⟨(S.lb (2*i)).toArray⟩:ByteArray);simp
   clear hn hE h1 h2 h3 h4 hM hL;have HPo:Hid (PDs wr B D S):=HP.out.below HB1.out;go_wp2_with fail
   refine(csizeD i _ B D S HPo.out).mono ?_;rw[HS.out.1,HS.out.2];rintro e1 w2⟨rfl,hw2⟩;rw[hw2];clear hw2;go_wp2_with fail
   refine(creadD i 0 n _ B D S HPo.out).mono ?_;rw[HR.out.1,HR.out.2];rintro e1 w3⟨rfl,hw3⟩;rw[hw3];clear hw3;go_wp2_with fail
   refine(cwriteD i 0 (txtF S i) _ X.heap.size X.heap.size (mv S i) (2*i) HP1.out HB1.out.size HM.out.ok (by omega)).mono ?_;rw[H1.out];rintro e1 w4⟨rfl,hp4,hb4⟩;have HP4:Hid (PDs w4 X.heap.size X.heap.size T1):=hp4;have HB4:Hid (Below X.heap.size X w4):=HB1.out.trans hb4.toBelow;clear hp4 hb4;go_wp2_with fail
   refine(csyncD i _ X.heap.size X.heap.size T1 (2*i+1) HP4.out HB4.out.size HO1.out (by omega)).mono ?_;rw[H2.out];rintro e1 w5⟨rfl,hp5,hb5⟩;have HP5:Hid (PDs w5 X.heap.size X.heap.size (mv S (i+1))):=by
    show PDs _ _ _ _;rw[HE.out];exact hp5
   have HB5:Hid (Below X.heap.size X w5):=HB4.out.trans hb5.toBelow;clear hp5 hb5;go_wp2
   go_roundw
   case rel=>exact⟨i+1,by go_num,by omega,HP5,HB5⟩
   case measure=>simp[intOf];omega
  ·obtain rfl:i=2:=by omega
   go_wp2;go_ret;exact⟨rfl,HP1.out,HB1.out⟩
theorem kshort (a:Option Addr)(n c:Nat)(w:World)(hn:n≤140737488355328)(hc:n≤c)(ha:a=none→n=0∧c=0):Calls Tryz.prog 33 #[.slice a n c] w fun e w'=>e=.returned (.slice a (min n 250) c)∧w'=w:=by
 by_cases h:n≤250
 ·rw[Nat.min_eq_left h];have h':(n:Int)≤250:=by omega
  go_enter Tryz.func33,Tryz.ntmps33;go_wp2_with fail
  go_ret;exact⟨by show Ending.returned (Value.slice a (min (n:Int) 250).toNat c)=_;rw[show(min (n:Int) 250).toNat=n by omega],rfl⟩
 ·rw[Nat.min_eq_right (by omega)];have h':¬(n:Int)≤250:=by omega
  have h2:(250:Int)≤(c:Int):=by omega
  cases a with
  | none=>have:=ha rfl;omega
  | some ad =>
   clear ha;go_enter Tryz.func33,Tryz.ntmps33;go_wp2_with fail
   go_ret;exact⟨by show Ending.returned (Value.slice (some ad) (min (n:Int) 250).toNat c)=_;rw[show(min (n:Int) 250).toNat=250 by omega],rfl⟩
theorem cnewD (X:World):Calls Tryz.prog 5 #[] X fun e w'=>e=.returned (.pointer (some ⟨X.heap.size,0,none⟩))∧PDs w' X.heap.size X.heap.size newD∧Below X.heap.size X w':=by
 refine(cnew X).mono ?_;rintro e w⟨h1,h2,h3⟩;exact⟨h1,⟨_,_,h2⟩,h3⟩
theorem cfailD (n:Int)(X:World)(B D:Nat)(S:DS)(h:PDs X B D S):Calls Tryz.prog 22 #[(.pointer (some ⟨D,0,none⟩)),.int .i64 n] X fun e w'=>e=.returned (.tuple #[])∧PDs w' B D { S with left:=n }∧BelT tyP B X w':=by
 obtain⟨vb,vw,h⟩:=h;refine(cfail n X B D vb vw S.lb S.ws S.left S.count S.down h).mono ?_;rintro e w⟨h1,h2,h3⟩;exact⟨h1,⟨_,_,h2⟩,h3⟩
theorem cdownD (X:World)(B D:Nat)(S:DS)(h:PDs X B D S):Calls Tryz.prog 26 #[(.pointer (some ⟨D,0,none⟩))] X fun e w'=>e=.returned (.bool S.down)∧w'=X:=by
 obtain⟨vb,vw,h⟩:=h;exact cdown X B D vb vw S.lb S.ws S.left S.count S.down h
def crD (fa:Nat→Int)(S:DS):DS:=⟨cpL (crL fa S.ws S.lb S.ws.length) 2,[],-1,S.count,false⟩
theorem ccrashD (a:Option Addr)(n cap:Nat)(fk:Nat→Int)(X:World)(B D m:Nat)(S:DS)(h:PDs X B D S)(hB:B≤X.heap.size)(ho:okS S m)(hm:m≤1000000)(hn:n≤140737488355328)(hk:liesI tyP X B a n fk):Calls Tryz.prog 24 #[(.pointer (some ⟨D,0,none⟩)),.slice a n cap] X fun e w'=>e=.returned (.tuple #[])∧PDs w' B D (crD (fateI n fk) S)∧BelT tyP B X w':=by
 obtain⟨vb,vw,h⟩:=h;refine(ccrash a n cap fk X B D vb vw S.lb S.ws S.left S.count S.down h hB (Nat.le_trans ho.2.2.2 hm) hn hk).mono ?_;rintro e w⟨h1,⟨vb',h2⟩,h3⟩;exact⟨h1,⟨_,_,h2⟩,h3⟩
theorem onL_new (t:ByteArray):onL 0 t false []=ll t:=by
 unfold onL fil;simp
theorem op_up {c f:Int}(hf:f=0∨f=1)(ht:(t.size:Int)≤67108864):opD ⟨lb,ws,-1,c,false⟩ f 0 t false=(0,⟨updF lb (2*f.toNat) (onL 0 t false (lb (2*f.toNat))),ws++[⟨f.toNat,0,t,false⟩],-1,c+1,false⟩):=by
 unfold opD
 dsimp only
 rw[if_pos (ask0 hf (by omega) ht),if_neg (show ¬(-1:Int)=0 by decide)];rfl
theorem syn_up {c f:Int}(hf:f=0∨f=1):synD ⟨lb,ws,-1,c,false⟩ f=(0,⟨updF lb (2*f.toNat+1) (foldF f.toNat ws (lb (2*f.toNat+1))),othF f.toNat ws,-1,c+1,false⟩):=by
 unfold synD
 dsimp only
 rw[if_pos (ask0 hf (by omega) (by omega)),if_neg (show ¬(-1:Int)=0 by decide)];rfl
theorem mv_two (S:DS)(hs:∀i<4,(S.lb i).length≤67108864):(mv S 2).lb 0=S.lb 0∧(mv S 2).lb 1=S.lb 0∧(mv S 2).lb 2=S.lb 2∧(mv S 2).lb 3=S.lb 2∧(mv S 2).ws=[]:=by
 have s0:((txtF S 0).size:Int)≤67108864:=by show(((S.lb 0).toArray.size:Nat):Int)≤_;rw[List.size_toArray];have:=hs 0 (by decide);omega
 have s1:((txtF S 1).size:Int)≤67108864:=by show(((S.lb 2).toArray.size:Nat):Int)≤_;rw[List.size_toArray];have:=hs 2 (by decide);omega
 have e1:mv S 1=⟨updF (updF (fun _=>[]) 0 (S.lb 0)) 1 (S.lb 0),[],-1,2,false⟩:=by
  show(synD (opD newD 0 0 (txtF S 0) false).2 0).2=_;rw[show opD newD 0 0 (txtF S 0) false=opD ⟨fun _=>[],[],-1,0,false⟩ 0 0 (txtF S 0) false from rfl,op_up (.inl rfl) s0,syn_up (.inl rfl)];have e:onL 0 (txtF S 0) false []=S.lb 0:=by rw[onL_new];rfl
  simp[foldF,othF,updF,e]
 have e2:mv S 2=⟨updF (updF (updF (updF (fun _=>[]) 0 (S.lb 0)) 1 (S.lb 0)) 2 (S.lb 2)) 3 (S.lb 2),[],-1,4,false⟩:=by
  show(synD (opD (mv S 1) 1 0 (txtF S 1) false).2 1).2=_;rw[e1];rw[op_up (.inr rfl) s1,syn_up (.inr rfl)];have e:onL 0 (txtF S 1) false []=S.lb 2:=by rw[onL_new];rfl
  simp[foldF,othF,updF,e]
 rw[e2];simp[updF]
theorem onL_ge:l.length≤(onL p t false l).length:=by
 rw[onL_len];simp;omega
theorem cp_at (l:Nat→List UInt8):cpL l 2 0=l 1∧cpL l 2 1=l 1∧cpL l 2 2=l 3∧cpL l 2 3=l 3:=by
 simp[cpL,updF]
theorem byt_cut (hq:q≤s.size)(hi:p+i<q):bytS (s.extract p q) i=bytS s (p+i):=by
 unfold bytS;have h1:i<(s.extract p q).size:=by rw[ByteArray.size_extract];omega
 rw[dif_pos h1,dif_pos (by omega),ByteArray.getElem_extract]
theorem byt_left {a b:ByteArray}(h:i<a.size):bytS (a++b) i=bytS a i:=by
 unfold bytS;rw[dif_pos (by rw[ByteArray.size_append];omega),dif_pos h,ByteArray.getElem_append_left h]
theorem byt_right {a b:ByteArray}:bytS (a++b) (a.size+i)=bytS b i:=by
 unfold bytS;by_cases h:i<b.size
 ·rw[dif_pos (by rw[ByteArray.size_append];omega),dif_pos h,ByteArray.getElem_append_right (by omega)]
  congr 2
  omega
 ·rw[dif_neg (by rw[ByteArray.size_append];omega),dif_neg h]
theorem four_num (h:n<4294967296):numB (fourB n) 0=n:=by
 have b0:bytS (fourB n) 0=n/16777216%256:=rfl;have b1:bytS (fourB n) 1=n/65536%256:=rfl;have b2:bytS (fourB n) 2=n/256%256:=rfl;have b3:bytS (fourB n) 3=n%256:=rfl;unfold numB numK numK numK numK numK;simp only[Nat.zero_add,b0,b1,b2,b3];omega
theorem num_same {a b:ByteArray}(h:∀i<4,bytS a (p+i)=bytS b (q+i)):numB a p=numB b q:=by
 unfold numB numK numK numK numK numK;rw[h 0 (by decide),h 1 (by decide),h 2 (by decide),h 3 (by decide)]
theorem half_num (hn:n<4294967296)(hf:f<4294967296)(hp:p<4294967296):numB (halfB n f p) 0=n∧numB (halfB n f p) 4=f∧numB (halfB n f p) 8=p:=by
 have s1:(fourB n++fourB f).size=8:=by rw[ByteArray.size_append];rfl
 refine⟨?_,?_,?_⟩
 ·refine(num_same (b:=fourB n) (q:=0) fun i hi=>?_).trans (four_num hn);show bytS (fourB n++fourB f++fourB p) (0+i)=_;rw[byt_left (by omega),byt_left (by rw[fourB_size];omega)]
 ·refine(num_same (b:=fourB f) (q:=0) fun i hi=>?_).trans (four_num hf);show bytS (fourB n++fourB f++fourB p) ((fourB n).size+i)=_;rw[byt_left (by rw[s1,fourB_size];omega),byt_right,Nat.zero_add]
 ·refine(num_same (b:=fourB p) (q:=0) fun i hi=>?_).trans (four_num hp);have e:(8:Nat)+i=(fourB n++fourB f).size+i:=by rw[s1]
  show bytS (fourB n++fourB f++fourB p) (8+i)=_;rw[e,byt_right,Nat.zero_add]
theorem txt_num (hn:n<4294967296)(hf:f<4294967296)(hp:p<4294967296):numB (txtB n f p) 0=n∧numB (txtB n f p) 4=f∧numB (txtB n f p) 8=p:=by
 obtain⟨h1,h2,h3⟩:=half_num hn hf hp;have k:∀q,q+4≤12→numB (txtB n f p) q=numB (halfB n f p) q:=fun q hq=>num_same fun i hi=>by
  unfold txtB;rw[byt_left (by rw[halfB_size];omega)]
 exact⟨(k 0 (by omega)).trans h1,(k 4 (by omega)).trans h2,(k 8 (by omega)).trans h3⟩
theorem told_of {head:ByteArray}(hs:q+24≤head.size)(h:head.extract q (q+24)=txtB n f p)(hn:1≤n∧n≤3)(hf:f<4294967296)(hp:p<4294967296)(hz:f=0∨64+1028*f≤size):toldA head q slot size=⟨slot,n,f,p⟩:=by
 obtain⟨h1,h2,h3⟩:=txt_num (n:=n) (by omega) hf hp;have k:∀d,d+4≤24→numB head (q+d)=numB (txtB n f p) d:=fun d hd=>num_same fun i hi=>by
  rw[←h,byt_cut hs (by omega),Nat.add_assoc]
 have e0:numB head q=n:=(k 0 (by omega)).trans h1;have e4:numB head (q+4)=f:=(k 4 (by omega)).trans h2;have e8:numB head (q+8)=p:=(k 8 (by omega)).trans h3;unfold toldA;rw[if_neg (by omega),e0,e4,e8,if_neg (fun hh=>hh hn),if_neg (fun hh=>hh h.symm),if_neg (by omega)]
theorem num_lt (s:ByteArray)(p:Nat):numB s p<4294967296:=numK_lt s p 4
theorem txt_second (hn:n<4294967296)(hf:f<4294967296)(hp:p<4294967296):numB (txtB n f p) 12=n:=by
 obtain⟨h1,_,_⟩:=half_num hn hf hp;refine(num_same (b:=halfB n f p) (q:=0) fun i hi=>?_).trans h1;have e:(12:Nat)+i=(halfB n f p).size+i:=by rw[halfB_size]
 unfold txtB;rw[e,byt_right,Nat.zero_add]
theorem told_second (head:ByteArray)(q slot size:Nat):(toldA head q slot size).number=0∨((toldA head q slot size).number=numB head (q+12)∧1≤numB head (q+12)):=by
 unfold toldA;by_cases h1:head.size<q+24
 ·rw[if_pos h1];exact .inl rfl
 ·rw[if_neg h1];by_cases h2:1≤numB head q∧numB head q≤3
  ·rw[if_neg (fun h=>h h2)];by_cases h3:txtB (numB head q) (numB head (q+4)) (numB head (q+8))=head.extract q (q+24)
   ·rw[if_neg (fun h=>h h3)];have k:numB head (q+12)=numB head q:=by
     refine Eq.trans ?_ (txt_second (num_lt head q) (num_lt head (q+4)) (num_lt head (q+8)));refine num_same fun i hi=>?_
     rw[h3,byt_cut (by omega) (by omega),Nat.add_assoc]
    split
    ·exact .inl rfl
    ·exact .inr ⟨k.symm,by omega⟩
   ·rw[if_pos h3];exact .inl rfl
  ·rw[if_pos h2];exact .inl rfl
def headP (log:List UInt8):ByteArray:=⟨((fil log 64).take 64).toArray⟩
theorem headP_size (log:List UInt8):(headP log).size=64:=by
 show((fil log 64).take 64).toArray.size=64;rw[List.size_toArray,List.length_take,fil_len];omega
theorem headP_long {log:List UInt8}(h:64≤log.length):headP log=headB log:=by
 unfold headP headB;rw[fil_le h]
def bL (l:List UInt8)(i:Nat):UInt8:=(l[i]?).getD 0
theorem bL_fil (l:List UInt8)(n i:Nat):bL (fil l n) i=bL l i:=by
 unfold bL fil;by_cases h:i<l.length
 ·rw[List.getElem?_append_left h]
 ·rw[List.getElem?_append_right (by omega),List.getElem?_replicate,List.getElem?_eq_none (by omega)];split<;>rfl
theorem headP_byt (log:List UInt8)(h:i<64):bytS (headP log) i=(bL log i).toNat:=by
 have hs:=headP_size log;rw[←bL_fil log 64 i];unfold bytS bL;rw[dif_pos (by omega)];have hl:i<((fil log 64).take 64).length:=by rw[List.length_take,fil_len];omega
 show(((fil log 64).take 64).toArray[i]'(by simpa using hl)).toNat=_;rw[List.getElem_toArray,List.getElem_take,List.getElem?_eq_getElem (by rw[fil_len];omega)];rfl
theorem bytS_ll (t:ByteArray)(i:Nat):(bL (ll t) i).toNat=bytS t i:=by
 unfold bytS bL ll;by_cases h:i<t.size
 ·rw[dif_pos h,List.getElem?_eq_getElem (show i<t.data.toList.length from h)];rfl
 ·rw[dif_neg h,List.getElem?_eq_none (show t.data.toList.length≤i from Nat.le_of_not_lt h)];rfl
theorem ext_byt {a b:ByteArray}(hs:a.size=b.size)(h:∀i,i<a.size→bytS a i=bytS b i):a=b:=by
 apply ByteArray.ext;apply Array.ext
 ·exact hs
 ·intro i h1 h2;have:=h i h1;unfold bytS at this;rw[dif_pos (show i<a.size from h1),dif_pos (show i<b.size from h2)] at this;exact UInt8.toNat_inj.1 this
theorem head_len {log:List UInt8}(h:log.length≤64):(headB log).size=log.length:=by
 show(log.take 64).toArray.size=log.length;rw[List.size_toArray,List.length_take];omega
theorem headB_byt {log:List UInt8}(h:log.length≤64)(i:Nat):bytS (headB log) i=(bL log i).toNat:=by
 rw[←bytS_ll];show(bL (log.take 64).toArray.toList i).toNat=_;rw[List.take_of_length_le h]
theorem pad_byte {log:List UInt8}(h:log.length≤64)(i:Nat):bytS (headP log) i=bytS (headB log) i:=by
 by_cases hi:i<64
 ·rw[headP_byt _ hi,headB_byt h]
 ·have h1:=headP_size log;have h2:=head_len h;unfold bytS;rw[dif_neg (by omega),dif_neg (by omega)]
theorem pad_num {log:List UInt8}(h:log.length≤64)(p:Nat):numB (headP log) p=numB (headB log) p:=num_same fun i _=>pad_byte h (p+i)
theorem pad_cut {log:List UInt8}(h:log.length≤64)(hb:b≤log.length):(headP log).extract a b=(headB log).extract a b:=by
 have h1:=headP_size log;have h2:=head_len h;refine ext_byt (by rw[ByteArray.size_extract,ByteArray.size_extract];omega) fun i hi=>?_
 rw[ByteArray.size_extract] at hi;rw[byt_cut (by omega) (by omega),byt_cut (by omega) (by omega),pad_byte h]
theorem pad_mark {log:List UInt8}(h:(40≤log.length∧log.length≤52)∨64≤log.length):isMark (headP log)=isMark (headB log):=by
 rcases h with h|h
 ·have h2:=head_len (log:=log) (by omega);unfold isMark;rw[pad_cut (by omega) (by omega),headP_size,h2]
  congr 1
  exact propext ⟨fun k=>⟨by omega,k.2⟩,fun k=>⟨by omega,k.2⟩⟩
 ·rw[headP_long h]
theorem num_far (h:s.size≤p):numB s p=0:=by
 have z:∀i,bytS s (p+i)=0:=fun i=>by unfold bytS;rw[dif_neg (by omega)]
 unfold numB;have z0:bytS s p=0:=z 0;simp[numK,z,z0]
theorem told_zero {head:ByteArray}(h:(toldA head q slot size).number=0):toldA head q slot size=cm0:=by
 revert h
 unfold toldA;split
 ·exact fun _=>rfl
 ·split
  ·exact fun _=>rfl
  ·rename_i _ hn
   split
   ·exact fun _=>rfl
   ·split
    ·exact fun _=>rfl
    ·intro h;exact absurd (fun k=>by have:numB head q=0:=h;omega) hn
theorem pad_told {log:List UInt8}(h:(40≤log.length∧log.length≤52)∨64≤log.length)(hs:slot≤1)(size:Nat):toldA (headP log) (16+24*slot) slot size=toldA (headB log) (16+24*slot) slot size:=by
 rcases h with h|h
 ·have h2:=head_len (log:=log) (by omega);have:slot=0∨slot=1:=by omega
  rcases this with rfl|rfl
  ·unfold toldA;rw[pad_num (by omega),pad_num (by omega),pad_num (by omega),pad_cut (by omega) (by omega),if_neg (show ¬(headP log).size<16+24*0+24 by rw[headP_size];omega),if_neg (show ¬(headB log).size<16+24*0+24 by rw[h2];omega)]
  ·have e:toldA (headB log) (16+24*1) 1 size=cm0:=by unfold toldA;rw[if_pos (by rw[h2];omega)]
   rw[e];apply told_zero;rcases told_second (headP log) (16+24*1) 1 size with k | ⟨_,k⟩
   ·exact k
   ·rw[pad_num (by omega),num_far (by rw[h2];omega)] at k;omega
 ·rw[headP_long h]
structure CurP (log:List UInt8) (c:Cm):Prop where
 len:(40≤log.length∧log.length≤52)∨64≤log.length
 mark:isMark (headP log)=true
 slot:c.slot≤1
 number:1≤c.number∧c.number≤3
 told:∀size,c.frames=0∨64+1028*c.frames≤size→toldA (headP log) (16+24*c.slot) c.slot size=c
 fits:c.frames=0∨64+1028*c.frames≤log.length
 other:∀size,(toldA (headP log) (16+24*(1-c.slot)) (1-c.slot) size).number=0∨nxN (toldA (headP log) (16+24*(1-c.slot)) (1-c.slot) size).number=c.number
theorem CurP.last {log:List UInt8}(h:CurP log c):lastC log=c:=by
 obtain⟨h0,h1,h2,h3,h4,h5,h6⟩:=h;have k4:=h4 log.length h5;have k6:=h6 log.length;rw[pad_mark h0] at h1;rw[pad_told h0 h2] at k4;rw[pad_told h0 (by omega)] at k6;unfold lastC;rw[if_pos h1];obtain⟨s,n,f,p⟩:=c
 dsimp only at *
 have hs:s=0∨s=1:=by omega
 unfold pickC;rcases hs with rfl | rfl
 ·rw[show(16:Nat)=16+24*0 from rfl,k4]
  dsimp only at *
  rw[if_neg];intro hh;rcases hh with hh | hh
  ·omega
  ·change _=nxN n at hh
   have e:(toldA (headB log) (16+24*(1-0)) (1-0) log.length).number=nxN n:=hh;unfold nxN at e k6;omega
 ·have e:toldA (headB log) 40 1 log.length=⟨1,n,f,p⟩:=k4;rw[e];refine if_pos ?_;rcases k6 with k | k
  ·exact .inl k
  ·exact .inr k.symm
theorem curP_of {log:List UInt8}(hl:(40≤log.length∧log.length≤52)∨64≤log.length)(hm:isMark (headP log)=true)(hs:c.slot≤1)(hn:1≤c.number∧c.number≤3)(hf:c.frames<4294967296)(hp:c.pages<4294967296)(hx:(headP log).extract (16+24*c.slot) (16+24*c.slot+24)=txtB c.number c.frames c.pages)(hz:c.frames=0∨64+1028*c.frames≤log.length)(ho:numB (headP log) (16+24*(1-c.slot)+12)=0∨nxN (numB (headP log) (16+24*(1-c.slot)+12))=c.number):CurP log c:=by
 refine⟨hl,hm,hs,hn,fun size h=>told_of (by rw[headP_size];omega) hx hn hf hp h,hz,fun size=>?_⟩;rcases told_second (headP log) (16+24*(1-c.slot)) (1-c.slot) size with h | ⟨h,h'⟩
 ·exact .inl h
 ·rcases ho with ho|ho
  ·omega
  ·rw[h];exact .inr ho
theorem onL_get (q:Nat)(t:ByteArray)(l:List UInt8)(i:Nat):bL (onL q t false l) i=if q≤i∧i<q+t.size then bL (ll t) (i-q) else bL l i:=by
 have hF:((fil l (q+t.size)).take q).length=q:=by rw[List.length_take,fil_len];omega
 have hT:(ll t).length=t.size:=rfl;have hg:=bL_fil l (q+t.size);unfold onL;rw[if_neg (by decide),List.append_assoc];by_cases h1:i<q
 ·rw[if_neg (by omega),←hg];unfold bL;rw[List.getElem?_append_left (by omega),List.getElem?_take_of_lt h1]
 ·by_cases h2:i<q+t.size
  ·rw[if_pos (by omega)];unfold bL;rw[List.getElem?_append_right (by omega),hF,List.getElem?_append_left (by omega)]
  ·rw[if_neg (by omega),←hg];unfold bL;rw[List.getElem?_append_right (by omega),hF,List.getElem?_append_right (by omega),hT,List.getElem?_drop]
   congr 2
   omega
theorem wr_in {log:List UInt8}(hq:q+t.size≤64):(headP (onL q t false log)).extract q (q+t.size)=t:=by
 have hs:=headP_size (onL q t false log);have he:((headP (onL q t false log)).extract q (q+t.size)).size=t.size:=by rw[ByteArray.size_extract];omega
 refine ext_byt he fun i hi=>?_
 rw[he] at hi;rw[byt_cut (by omega) (by omega),headP_byt _ (by omega),onL_get,if_pos (by omega),bytS_ll,show q+i-q=i by omega]
theorem wr_out {log:List UInt8}(hi:i<64)(h:i<q∨q+t.size≤i):bytS (headP (onL q t false log)) i=bytS (headP log) i:=by
 rw[headP_byt _ hi,headP_byt _ hi,onL_get,if_neg (by omega)]
theorem wr_cut {log:List UInt8}(hb:b≤64)(h:b≤q∨q+t.size≤a):(headP (onL q t false log)).extract a b=(headP log).extract a b:=by
 have h1:=headP_size (onL q t false log);have h2:=headP_size log;refine ext_byt (by rw[ByteArray.size_extract,ByteArray.size_extract,h1,h2]) fun i hi=>?_
 rw[ByteArray.size_extract] at hi;rw[byt_cut (by omega) (by omega),byt_cut (by omega) (by omega)];exact wr_out (by omega) (by omega)
theorem wr_num {log:List UInt8}(hp:p+4≤64)(h:p+4≤q∨q+t.size≤p):numB (headP (onL q t false log)) p=numB (headP log) p:=
 num_same fun i hi=>wr_out (by omega) (by omega)
theorem headP_ext (h:∀i,i<64→bL l' i=bL l i):headP l'=headP l:=by
 refine ext_byt (by rw[headP_size,headP_size]) fun i hi=>?_
 rw[headP_size] at hi;rw[headP_byt _ hi,headP_byt _ hi,h i hi]
structure TP (log:List UInt8) (c:Cm):Prop where
 len:(40≤log.length∧log.length≤52)∨64≤log.length
 mark:isMark (headP log)=true
 slot:c.slot≤1
 number:1≤c.number∧c.number≤3
 frames:c.frames<4294967296
 pages:c.pages<4294967296
 text:(headP log).extract (16+24*c.slot) (16+24*c.slot+24)=txtB c.number c.frames c.pages
 fits:c.frames=0∨64+1028*c.frames≤log.length
 other:numB (headP log) (16+24*(1-c.slot)+12)=0∨nxN (numB (headP log) (16+24*(1-c.slot)+12))=c.number
theorem TP.cur {log:List UInt8}(h:TP log c):CurP log c:=curP_of h.len h.mark h.slot h.number h.frames h.pages h.text h.fits h.other
theorem TP.last {log:List UInt8}(h:TP log c):lastC log=c:=h.cur.last
theorem TP.ok {log:List UInt8}(h:TP log c):okCm c:=by rw[←h.last];exact last_ok log
theorem TP.keep {log:List UInt8}(h:TP log c)(hb:∀i,i<64→bL log' i=bL log i)(hl:(40≤log'.length∧log'.length≤52)∨64≤log'.length)(hf:c.frames=0∨64+1028*c.frames≤log'.length):TP log' c:=by
 have e:=headP_ext hb;exact⟨hl,by rw[e];exact h.mark,h.slot,h.number,h.frames,h.pages,by rw[e];exact h.text,hf,by rw[e];exact h.other⟩
theorem mark_wr {log:List UInt8}(hq:16≤q):isMark (headP (onL q t false log))=isMark (headP log):=by
 unfold isMark;rw[headP_size,headP_size,wr_cut (by omega) (.inl hq)]
theorem TP.second {log:List UInt8}(h:TP log c):numB (headP log) (16+24*c.slot+12)=c.number:=by
 have hn:=h.number;refine Eq.trans ?_ (txt_second (n:=c.number) (by omega) h.frames h.pages);have hs:=headP_size log;have:=h.slot;refine num_same fun i hi=>?_
 rw[←h.text,byt_cut (by omega) (by omega),Nat.add_assoc]
theorem TP.whole {log:List UInt8}(h:TP log c)(fr pg:Nat)(h1:fr<4294967296)(h2:pg<4294967296)(hf:fr=0∨64+1028*fr≤log.length):TP (onL (16+24*(1-c.slot)) (txtB (nxN c.number) fr pg) false log) (flC c fr pg):=by
 have hs:=h.slot;have hn:=h.number;have ht:=txtB_size (nxN c.number) fr pg;have hlen:(onL (16+24*(1-c.slot)) (txtB (nxN c.number) fr pg) false log).length=max log.length (16+24*(1-c.slot)+24):=by rw[onL_len,ht];rfl
 have hL:=h.len;have e1:16+24*(1-c.slot)+24=16+24*(1-c.slot)+(txtB (nxN c.number) fr pg).size:=by rw[ht]
 refine⟨by rw[hlen];omega,by rw[mark_wr (by omega)];exact h.mark,by show 1-c.slot≤1;omega,by show 1≤c.number%3+1∧c.number%3+1≤3;omega,h1,h2,?_,?_,.inr ?_⟩
 ·show(headP _).extract (16+24*(1-c.slot)) (16+24*(1-c.slot)+24)=_;rw[e1];exact wr_in (by omega)
 ·show fr=0∨64+1028*fr≤_;rw[hlen];omega
 ·show nxN (numB _ (16+24*(1-(1-c.slot))+12))=nxN c.number;rw[show 1-(1-c.slot)=c.slot by omega,wr_num (by omega) (by rw[ht];omega),h.second]
theorem TP.half {log:List UInt8}(h:TP log c)(t:ByteArray)(ht:t.size=12):TP (onL (16+24*(1-c.slot)) t false log) c:=by
 have hs:=h.slot;have hlen:(onL (16+24*(1-c.slot)) t false log).length=max log.length (16+24*(1-c.slot)+12):=by rw[onL_len,ht];rfl
 have hL:=h.len;have hf:=h.fits;refine⟨by rw[hlen];omega,by rw[mark_wr (by omega)];exact h.mark,hs,h.number,h.frames,h.pages,?_,by rw[hlen];omega,?_⟩
 ·rw[wr_cut (by omega) (by rw[ht];omega)];exact h.text
 ·rw[wr_num (by omega) (by rw[ht];omega)];exact h.other
theorem cut_byt (hi:i<n):bytS ⟨((l.drop p).take n).toArray⟩ i=(bL l (p+i)).toNat:=by
 rw[←bytS_ll];show(bL ((l.drop p).take n).toArray.toList i).toNat=_;unfold bL;rw[List.getElem?_take_of_lt hi,List.getElem?_drop]
theorem frN_same {log:List UInt8}(h:∀j,j<4→bL log' (64+1028*i+j)=bL log (64+1028*i+j)):frN log' i=frN log i:=by
 refine num_same fun j hj=>?_
 unfold frT;rw[Nat.zero_add,cut_byt hj,cut_byt hj,h j hj]
theorem fndM_same {log log':List UInt8}{F:Int→Option Int}:∀{k:Nat},(∀j,64≤j→j<64+1028*k→bL log' j=bL log j)→fndM log' F k=fndM log F k
 | 0,_=>rfl
 | k + 1, h => by
  show updM (fndM log' F k) (frN log' k) k=updM (fndM log F k) (frN log k) k;rw[fndM_same (k:=k) (fun j h1 h2=>h j h1 (by omega)),frN_same (fun j hj=>h _ (by omega) (by omega))]
theorem fndM_lt {log:List UInt8}{x v:Int}:∀{k:Nat},fndM log (fun _=>none) k x=some v→0≤v∧v<k
 | 0,h=>by cases h
 | k + 1, h => by
  have h:updM (fndM log (fun _=>none) k) (frN log k) k x=some v:=h;unfold updM at h;split at h
  ·injection h with h;omega
  ·have:=fndM_lt h;omega
def noM:Int→Option Int:=fun _=>none
structure VwA (P log:List UInt8) (k:Nat) (F:Int→Option ByteArray) (n:Nat):Prop where
 inlog:∀v,fndM log noM k n=some v→∃t,F n=some t∧t.size=1024∧∀i,i<1024→bytS t i=(bL log (64+1028*v.toNat+4+i)).toNat
 place:fndM log noM k n=none→(∀t,F n=some t→t.size=1024∧1024*(n+1)≤P.length∧∀i,i<1024→bytS t i=(bL P (1024*n+i)).toNat)∧(F n=none→∀i,i<1024→bL P (1024*n+i)=0)
def VwN (P log:List UInt8)(k:Nat)(F:Int→Option ByteArray):Prop:=∀n,n<60000→VwA P log k F n
def PgK (P P':List UInt8)(n:Nat):Prop:=(∀i,i<1024→bL P' (1024*n+i)=bL P (1024*n+i))∧(1024*(n+1)≤P.length→1024*(n+1)≤P'.length)
theorem PgK.refl (P:List UInt8)(n:Nat):PgK P P n:=⟨fun _ _=>rfl,id⟩
theorem PgK.trans {Q R:List UInt8}(h:PgK P Q n)(k:PgK Q R n):PgK P R n:=⟨fun i hi=>(k.1 i hi).trans (h.1 i hi),fun hl=>k.2 (h.2 hl)⟩
theorem VwN.keep {log:List UInt8}(h:VwN P log k F)(hl:∀j,64≤j→j<64+1028*k→bL log' j=bL log j)(hp:∀n:Nat,n<60000→fndM log noM k n=none→PgK P P' n):VwN P' log' k F:=fun n hn=>by
 have e:=fndM_same (F:=noM) hl;refine⟨fun v hv=>?_,fun hv=>?_⟩
 ·rw[e] at hv;obtain⟨t,h1,h2,h3⟩:=(h n hn).inlog v hv;have hv':=fndM_lt hv;exact⟨t,h1,h2,fun i hi=>by rw[h3 i hi,hl _ (by omega) (by omega)]⟩
 ·rw[e] at hv;obtain⟨h1,h2⟩:=(h n hn).place hv;obtain⟨p1,p2⟩:=hp n hn hv;exact⟨fun t ht=>⟨(h1 t ht).1,p2 (h1 t ht).2.1,fun i hi=>by rw[(h1 t ht).2.2 i hi,p1 i hi]⟩,fun hF i hi=>by rw[p1 i hi];exact h2 hF i hi⟩
theorem frame_byt {log:List UInt8}(ht:t.size=1024)(hi:i<1028):(bL (onL (64+1028*k) (fourB n++t) false log) (64+1028*k+i)).toNat=bytS (fourB n++t) i:=by
 have hs:(fourB n++t).size=1028:=by rw[ByteArray.size_append,fourB_size,ht]
 rw[onL_get,if_pos (by omega),bytS_ll]
 congr 1
 omega
theorem frN_new {log:List UInt8}(ht:t.size=1024)(hn:n<4294967296):frN (onL (64+1028*k) (fourB n++t) false log) k=n:=by
 refine Eq.trans (num_same fun j hj=>?_) (four_num hn);unfold frT;rw[Nat.zero_add,cut_byt hj,frame_byt ht (by omega),byt_left (by rw[fourB_size];exact hj)]
theorem fndM_new {log:List UInt8}(ht:t.size=1024)(hn:n<4294967296):fndM (onL (64+1028*k) (fourB n++t) false log) noM (k+1)=updM (fndM log noM k) n k:=by
 show updM (fndM _ noM k) (frN _ k) k=_;rw[frN_new ht hn,fndM_same (log:=log)];intro j h1 h2;rw[onL_get,if_neg (by omega)]
theorem VwN.append {log:List UInt8}(h:VwN P log k F)(ht:t.size=1024)(hn:n<60000):VwN P (onL (64+1028*k) (fourB n++t) false log) (k+1) (wth F n t):=fun m hm=>by
 have e:=fndM_new (log:=log) (k:=k) ht (n:=n) (by omega);by_cases hmn:m=n
 ·subst hmn;have e1:fndM (onL (64+1028*k) (fourB m++t) false log) noM (k+1) m=some (k:Int):=by rw[e];unfold updM;rw[if_pos rfl]
  have w1:wth F m t m=some t:=by unfold wth updS;rw[if_pos rfl]
  refine⟨fun v hv=>?_,fun hv=>by rw[e1] at hv;cases hv⟩;rw[e1] at hv;injection hv with hv;subst hv;refine⟨t,w1,ht,fun i hi=>?_⟩;rw[Int.toNat_natCast,Nat.add_assoc,frame_byt ht (by omega)];rw[show 4+i=(fourB m).size+i by rw[fourB_size],byt_right]
 ·have hz:¬(m:Int)=(n:Int):=by omega
  have e1:fndM (onL (64+1028*k) (fourB n++t) false log) noM (k+1) m=fndM log noM k m:=by rw[e];unfold updM;rw[if_neg hz]
  have w1:wth F n t m=F m:=by unfold wth updS;rw[if_neg hz]
  refine⟨fun v hv=>?_,fun hv=>?_⟩
  ·rw[e1] at hv;obtain⟨t',h1,h2,h3⟩:=(h m hm).inlog v hv;have hv':=fndM_lt hv;refine⟨t',by rw[w1];exact h1,h2,fun i hi=>?_⟩;rw[h3 i hi,onL_get,if_neg (by omega)]
  ·rw[e1] at hv;rw[w1];exact(h m hm).place hv
theorem rd_ok (hf:f<2)(hl:p+n≤(lb (2*f)).length)(hz:(lb (2*f)).length≤67108864):rdE f p n lb false=0∧(rdS f p n lb false).size=n∧∀i,i<n→bytS (rdS f p n lb false) i=(bL (lb (2*f)) (p+i)).toNat:=by
 have ha:askE f p n false=0:=by
  unfold askE fitsD;rw[if_pos (by simp;omega)];rfl
 have hE:rdE f p n lb false=0:=by
  unfold rdE;rw[if_pos ha,if_neg (by simp;omega)]
 have e:rdS f p n lb false=⟨(((lb (2*f)).drop p).take n).toArray⟩:=by
  unfold rdS;rw[if_pos hE];rfl
 refine⟨hE,?_,fun i hi=>?_⟩
 ·rw[e];show(((lb (2*f)).drop p).take n).toArray.size=n;simp;omega
 ·rw[e,cut_byt hi]
def VwK (log:List UInt8)(k:Nat):Prop:=∀x v,fndM log noM k x=some v→0≤x∧x<60000
structure Vw (P log:List UInt8) (k:Nat) (F:Int→Option ByteArray):Prop where
 pg:VwN P log k F
 ks:VwK log k
theorem Vw.keep {log:List UInt8}(h:Vw P log k F)(hl:∀j,64≤j→j<64+1028*k→bL log' j=bL log j)(hp:∀n:Nat,n<60000→fndM log noM k n=none→PgK P P' n):Vw P' log' k F:=
 ⟨h.pg.keep hl hp,fun x v hv=>by rw[fndM_same (F:=noM) hl] at hv;exact h.ks x v hv⟩
theorem Vw.append {log:List UInt8}(h:Vw P log k F)(ht:t.size=1024)(hn:n<60000):Vw P (onL (64+1028*k) (fourB n++t) false log) (k+1) (wth F n t):=
 ⟨h.pg.append ht hn,fun x v hv=>by
  rw[fndM_new ht (by omega)] at hv;unfold updM at hv;split at hv
  ·omega
  ·exact h.ks x v hv⟩
theorem cut_get (hi:i<p+t.size):bL (onL p t true l) i=bL l i:=by
 unfold onL;rw[if_pos rfl,←bL_fil l (p+t.size)];unfold bL;rw[List.getElem?_take_of_lt hi]
structure EffL (a:Nat) (log log':List UInt8):Prop where
 same:∀i,i<a→bL log' i=bL log i
 len:log.length≤log'.length
 big:log'=log∨a≤log'.length
theorem EffL.refl (a:Nat)(log:List UInt8):EffL a log log:=⟨fun _ _=>rfl,Nat.le_refl _,.inl rfl⟩
theorem EffL.trans {l'':List UInt8}(h:EffL a l l')(k:EffL a l' l''):EffL a l l'':=by
 refine⟨fun i hi=>(k.same i hi).trans (h.same i hi),Nat.le_trans h.len k.len,?_⟩;rcases k.big with e | e
 ·rcases h.big with e'|e'
  ·exact .inl (e.trans e')
  ·exact .inr (by rw[e];exact e')
 ·exact .inr e
theorem eff_write (t:ByteArray)(l:List UInt8)(hp:a≤p):EffL a l (onL p t false l):=
 ⟨fun i hi=>by rw[onL_get,if_neg (by omega)],onL_ge,.inr (by rw[onL_len];simp;omega)⟩
theorem TP.eff {log:List UInt8}(h:TP log c)(he:EffL a log log')(ha:64≤a):TP log' c:=by
 refine h.keep (fun i hi=>he.same i (by omega)) ?_ ?_
 ·rcases he.big with e|e
  ·rw[e];exact h.len
  ·exact .inr (by omega)
 ·have:=he.len;rcases h.fits with e | e
  ·exact .inl e
  ·exact .inr (by omega)
def WtC (a:Nat)(K:Nat→Prop)(x:Chg):Prop:=
 (x.f=1∧x.c=false∧a≤x.p)∨(x.f=0∧x.c=false∧(∃n,K n∧x.p=1024*n)∧x.t.size≤1024)∨(x.f=0∧x.c=true∧61440000≤x.p∧∃n,K n)
def Wt (a:Nat)(K:Nat→Prop)(ws:List Chg):Prop:=∀x∈ws,WtC a K x
theorem Wt.nil (a:Nat)(K:Nat→Prop):Wt a K []:=fun _ h=>by cases h
theorem Wt.snoc (h:Wt a K ws)(hx:WtC a K x):Wt a K (ws++[x]):=fun y hy=>by
 rcases List.mem_append.1 hy with hy|hy
 ·exact h y hy
 ·obtain rfl:=List.mem_singleton.1 hy;exact hx
def noK:Nat→Prop:=fun _=>False
theorem Wt.more (h:Wt a noK ws):Wt a K ws:=fun x hx=>by
 rcases h x hx with h|⟨_,_,⟨n,hn,_⟩,_⟩|h
 ·exact .inl h
 ·cases hn
 ·obtain⟨_,_,_,n,hn⟩:=h;cases hn
theorem pg_write (ht:t.size≤1024)(h:¬n=m):PgK P (onL (1024*m) t false P) n:=
 ⟨fun i hi=>by rw[onL_get,if_neg (by omega)],fun hl=>Nat.le_trans hl onL_ge⟩
theorem pg_cut (hp:61440000≤p)(hn:n<60000):PgK P (onL p t true P) n:=
 ⟨fun i hi=>cut_get (by omega),fun _=>by rw[onL_len,if_pos rfl];omega⟩
theorem WtC.page (h:WtC a K x)(hf:x.f=0)(ht:t.size≤x.t.size)(P:List UInt8)(hn:n<60000)(hK:¬K n):PgK P (onL x.p t x.c P) n:=by
 rcases h with⟨h1,_⟩|⟨_,h2,⟨m,hm,hp⟩,h4⟩|⟨_,h2,h3,_⟩
 ·omega
 ·rw[h2,hp];exact pg_write (by omega) (fun e=>hK (e ▸ hm))
 ·rw[h2];exact pg_cut h3 hn
theorem WtC.log (h:WtC a K x)(hf:x.f=1)(t:ByteArray)(l:List UInt8):EffL a l (onL x.p t x.c l):=by
 rcases h with⟨_,h2,h3⟩|⟨h1,_⟩|⟨h1,_⟩
 ·rw[h2];exact eff_write t l h3
 ·omega
 ·omega
theorem WtC.file (h:WtC a K x):x.f=0∨x.f=1:=by
 rcases h with h|h|h
 ·exact .inr h.1
 ·exact .inl h.1
 ·exact .inl h.1
structure CrE (a:Nat) (K:Nat→Prop) (lb l:Nat→List UInt8):Prop where
 log:EffL a (lb 3) (l 3)
 page:∀n,n<60000→¬K n→PgK (lb 1) (l 1) n
theorem CrE.refl (a:Nat)(K:Nat→Prop)(lb:Nat→List UInt8):CrE a K lb lb:=⟨EffL.refl _ _,fun n _ _=>PgK.refl _ n⟩
theorem CrE.trans {l l' l'':Nat→List UInt8}(h:CrE a K l l')(k:CrE a K l' l''):CrE a K l l'':=⟨h.log.trans k.log,fun n hn hK=>(h.page n hn hK).trans (k.page n hn hK)⟩
theorem crS_eff (h:WtC a K x)(fa:Int)(l:Nat→List UInt8):CrE a K l (crS fa x l):=by
 have step:∀t:ByteArray,t.size≤x.t.size→CrE a K l (updF l (2*x.f+1) (onL x.p t x.c (l (2*x.f+1)))):=fun t ht=>by
  rcases h.file with e|e
  ·refine⟨?_,fun n hn hK=>?_⟩
   ·rw[e,updF_ne _ _ (by decide)];exact EffL.refl _ _
   ·have:=h.page e ht (l 1) hn hK;rw[e,updF_at];exact this
  ·refine⟨?_,fun n hn hK=>?_⟩
   ·have:=h.log e t (l 3);rw[e,updF_at];exact this
   ·rw[e,updF_ne _ _ (by decide)];exact PgK.refl _ n
 unfold crS;split
 ·exact step _ (Nat.le_refl _)
 ·split
  ·exact step _ (by rw[half_size];omega)
  ·exact CrE.refl _ _ _
theorem crL_eff (h:Wt a K ws)(fa:Nat→Int)(lb:Nat→List UInt8):∀i,i≤ws.length→CrE a K lb (crL fa ws lb i)
 | 0,_=>CrE.refl _ _ _
 | i + 1, hi => by
  rw[crL_succ (by omega)];exact(crL_eff h fa lb i (by omega)).trans (crS_eff (h _ (List.getElem_mem _)) _ _)
theorem crL_pre:∀i,i≤ws.length→crL fa (ws++[x]) lb i=crL fa ws lb i
 | 0,_=>rfl
 | i + 1, hi => by
  rw[crL_succ (by rw[List.length_append];omega),crL_succ (by omega),crL_pre i (by omega),List.getElem_append_left (by omega)]
theorem crL_snoc (fa:Nat→Int)(ws:List Chg)(x:Chg)(lb:Nat→List UInt8):crL fa (ws++[x]) lb (ws++[x]).length=crS (fa ws.length) x (crL fa ws lb ws.length):=by
 rw[show(ws++[x]).length=ws.length+1 by simp,crL_succ (by simp),crL_pre _ (Nat.le_refl _)];simp
theorem fold_eff:∀{ws:List Chg},Wt a K ws→∀l,EffL a l (foldF 1 ws l)
 | [],_,l=>EffL.refl _ _
 | x :: r, h, l => by
  have hr:Wt a K r:=fun y hy=>h y (List.mem_cons_of_mem _ hy)
  show EffL a l (foldF 1 r (if x.f=1 then onL x.p x.t x.c l else l));refine EffL.trans ?_ (fold_eff hr _);split
  ·rename_i e
   exact(h x (List.mem_cons_self ..)).log e _ _
  ·exact EffL.refl _ _
structure GoodS (S:DS) (F:Int→Option ByteArray) (c:Cm):Prop where
 tp:TP (S.lb 2) c
 vw:Vw (S.lb 0) (S.lb 2) c.frames F
 f0:S.lb 1=S.lb 0
 f1:S.lb 3=S.lb 2
 ws:S.ws=[]
 down:S.down=false
def CrOK (S:DS)(F:Int→Option ByteArray)(p q:Nat):Prop:=∀fa,∃c,(c.pages=p∧c.frames≤q)∧GoodS (crD fa S) F c
def CrOr (S:DS)(F:Int→Option ByteArray)(p:Nat)(F':Int→Option ByteArray)(p' q:Nat):Prop:=∀fa,(∃c,(c.pages=p∧c.frames≤q)∧GoodS (crD fa S) F c)∨∃c,(c.pages=p'∧c.frames≤q)∧GoodS (crD fa S) F' c
theorem CrOK.or (h:CrOK S F p q)(F':Int→Option ByteArray)(p':Nat):CrOr S F p F' p' q:=fun fa=>.inl (h fa)
theorem CrOK.same (h:CrOK S F p q)(h1:T.lb=S.lb)(h2:T.ws=S.ws):CrOK T F p q:=fun fa=>by
 obtain⟨c,hp,g⟩:=h fa;have e:(crD fa T).lb=(crD fa S).lb:=by unfold crD;rw[h1,h2]
 exact⟨c,hp,by rw[e];exact g.tp,by rw[e];exact g.vw,by rw[e];exact g.f0,by rw[e];exact g.f1,rfl,rfl⟩
theorem good_of (h1:TP (crL fa S.ws S.lb S.ws.length 3) c)(h2:Vw (crL fa S.ws S.lb S.ws.length 1) (crL fa S.ws S.lb S.ws.length 3) c.frames F):GoodS (crD fa S) F c:=by
 obtain⟨c0,c1,c2,c3⟩:=cp_at (crL fa S.ws S.lb S.ws.length);have e0:(crD fa S).lb 0=crL fa S.ws S.lb S.ws.length 1:=c0;have e1:(crD fa S).lb 1=crL fa S.ws S.lb S.ws.length 1:=c1;have e2:(crD fa S).lb 2=crL fa S.ws S.lb S.ws.length 3:=c2;have e3:(crD fa S).lb 3=crL fa S.ws S.lb S.ws.length 3:=c3;exact⟨by rw[e2];exact h1,by rw[e0,e2];exact h2,by rw[e0,e1],by rw[e2,e3],rfl,rfl⟩
theorem crash_wt (ht:TP (S.lb 3) c)(hv:Vw (S.lb 1) (S.lb 3) c.frames F)(hw:Wt (64+1028*c.frames) (fun n=>¬fndM (S.lb 3) noM c.frames n=none) S.ws)(hq:c.frames≤q):CrOK S F c.pages q:=fun fa=>by
 have he:=crL_eff hw fa S.lb S.ws.length (Nat.le_refl _);refine⟨c,⟨rfl,hq⟩,good_of (ht.eff he.log (by omega)) (hv.keep (fun j _ h2=>he.log.same j h2) (fun n hn h=>he.page n hn (fun k=>k h)))⟩
theorem crash_slot {fr pg:Nat}(ht:TP (S.lb 3) c)(hS:S.ws=ws++[⟨1,16+24*(1-c.slot),txtB (nxN c.number) fr pg,false⟩])(hw:Wt a noK ws)(h1:64+1028*c.frames≤a)(h2:64+1028*fr≤a)(hf1:fr<4294967296)(hp1:pg<4294967296)(hf:fr=0∨64+1028*fr≤(S.lb 3).length)(hv:Vw (S.lb 1) (S.lb 3) c.frames F)(hv':Vw (S.lb 1) (S.lb 3) fr F')(hq:c.frames≤q)(hq':fr≤q):CrOr S F c.pages F' pg q:=fun fa=>by
 have hs:=ht.slot;have he:=crL_eff hw fa S.lb ws.length (Nat.le_refl _);have hx:crL fa S.ws S.lb S.ws.length=crS (fa ws.length) ⟨1,16+24*(1-c.slot),txtB (nxN c.number) fr pg,false⟩ (crL fa ws S.lb ws.length):=by rw[hS];exact crL_snoc fa ws _ S.lb
 obtain⟨l,hl⟩:∃l,l=crL fa ws S.lb ws.length:=⟨_,rfl⟩;rw[←hl] at he hx;have ht':=ht.eff he.log (by omega);have hP:∀n,n<60000→PgK (S.lb 1) (l 1) n:=fun n hn=>he.page n hn (fun k=>k)
 have after:∀t:ByteArray,t.size≤24→∀j,64≤j→j<a→bL (onL (16+24*(1-c.slot)) t false (l 3)) j=bL (S.lb 3) j:=fun t hts j j1 j2=>by
  rw[onL_get,if_neg (by omega)];exact he.log.same j j2
 have hts:=txtB_size (nxN c.number) fr pg;unfold crS at hx;by_cases e1:fa ws.length=1
 ·rw[if_pos e1] at hx
  replace hx:crL fa S.ws S.lb S.ws.length=updF l 3 (onL (16+24*(1-c.slot)) (txtB (nxN c.number) fr pg) false (l 3)):=hx
  refine .inr ⟨flC c fr pg,⟨rfl,hq'⟩,good_of ?_ ?_⟩
  ·rw[hx,updF_at];exact ht'.whole fr pg hf1 hp1 (hf.imp id fun h=>Nat.le_trans h he.log.len)
  ·rw[hx,updF_at,updF_ne _ _ (by decide)];exact hv'.keep (fun j j1 j2=>after _ (by rw[hts];omega) j j1 (by omega)) (fun n hn _=>hP n hn)
 ·rw[if_neg e1] at hx;by_cases e2:fa ws.length=2
  ·rw[if_pos e2] at hx
   replace hx:crL fa S.ws S.lb S.ws.length=updF l 3 (onL (16+24*(1-c.slot)) (half (txtB (nxN c.number) fr pg)) false (l 3)):=hx
   refine .inl ⟨c,⟨rfl,hq⟩,good_of ?_ ?_⟩
   ·rw[hx,updF_at];exact ht'.half _ (by rw[half_size,hts])
   ·rw[hx,updF_at,updF_ne _ _ (by decide)];exact hv.keep (fun j j1 j2=>after _ (by rw[half_size,hts];omega) j j1 (by omega)) (fun n hn _=>hP n hn)
  ·rw[if_neg e2] at hx;refine .inl ⟨c,⟨rfl,hq⟩,good_of ?_ ?_⟩
   ·rw[hx];exact ht'
   ·rw[hx];exact hv.keep (fun j j1 j2=>he.log.same j (by omega)) (fun n hn _=>hP n hn)
theorem GoodS.again (h:GoodS S F c)(h1:T.lb=S.lb)(h2:T.ws=S.ws)(fa:Nat→Int):GoodS (crD fa T) F c:=by
 have e:∀j,crL fa T.ws T.lb T.ws.length j=S.lb j:=fun j=>by rw[h1,h2,h.ws];rfl
 refine good_of ?_ ?_
 ·rw[e,h.f1];exact h.tp
 ·rw[e,e,h.f1,h.f0];exact h.vw
end Go.Proofs.YtfjkockcgddgbaaGreat
