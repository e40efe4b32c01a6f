/- a part -/
import Derived.Test.YtfjkockcgddgbaaGreatP12
import Derived.Lib.SlKept
import Derived.Lib.SliceRun
import Derived.Lib.SlicesCompact
set_option maxRecDepth 100000
set_option maxHeartbeats 8000000
namespace Go.Proofs.YtfjkockcgddgbaaGreat
open Go.RowKit Go.Lib Go.Maps Go.Sort Go.Shelf
variable {P:PS}{left:Lit→Bool}{ls:List Int}{x:Int}{w X Y W:World}{n k B D Gp pk m bF g r G bp bf bC most free j fr:Nat}{V:PV}{C K F N:Pgs}{f:FrP}{S:DS}{L:LS}{b:Bk}
attribute [local go_sem ↓] Go.wp_at_zero Go.wp_at_succ
section
variable {ops:Array Oper}{rest:List Oper}{o:Oper}{a:Act}{Q:Exit→Act→World→Prop}
theorem wpList_next_ptr (w:World)(hg:o.guard=none)(it:Operand)(hop:o.op=Op.next it false)(b r n:Nat)(D:DataW Unit)(left:Lit→Bool)(cnt:Nat)(F:Int→Option Nat)(hK:∀x,i64 x→(Maps.has D (.int .i64 x)=(F x).isSome∧∀v,F x=some v→∀z,D.atKey (.int .i64 x) z=.lit (.int .i64 v)))(hL:∀x,i64 x→left (.int .i64 x)=true→Maps.has D (.int .i64 x)=true)(hit:a.eval it=.pointer (some ⟨r,0,none⟩))(h:w.ranges Tryz.prog 3 ptrElem b r n D left cnt)(hDone:cnt=0→(∀kl,left kl=false)→wpList Tryz.prog ops Q rest (a.put o.dst (.tuple #[.bool false])) w)(hMore:∀(x:Int) (v:Nat) (w':World) (cnt':Nat),i64 x→left (.int .i64 x)=true→F x=some v→w'.ranges Tryz.prog 3 ptrElem b r n D (fun z=>left z && !z.sameKey (.int .i64 x)) cnt'→cnt'<cnt→w.grownBy w' (some r)→w'.heap.size=w.heap.size→(Instr.entry (.pointer (some ⟨r,0,none⟩))).run Tryz.prog w'=.ok (.tuple #[.int .i64 x,.pointer (some ⟨v,0,none⟩)]) w'→wpList Tryz.prog ops Q rest (a.put o.dst (.tuple #[.bool true,.int .i64 x,.pointer (some ⟨v,0,none⟩)])) w'):wpList Tryz.prog ops Q (o::rest) a w:=
 wpList_next_ranges w hg it hop 3 lawI ptrElem (Value.int .i64) ptrO (fun key kl hkey=>by obtain⟨x,rfl,_⟩:=Maps.keyOf_int_inv Tryz.underlying3 hkey;exact⟨x,rfl⟩)
  (fun v y hv=>by
   unfold ptrElem at hv;split at hv
   ·exact⟨none,rfl⟩
   ·exact⟨some _,rfl⟩
   ·cases hv) b r n D left cnt hit h hDone (fun x c kl y w' cnt' hkey hlk hv hat hrg hlt hgr hsz hen=>by
   obtain⟨x',ex,rfl,hwx⟩:=Maps.keyOf_int_inv Tryz.underlying3 hkey;cases ex;obtain⟨k1,k2⟩:=hK x hwx;rw[hL x hwx hlk] at k1;obtain⟨v,hv'⟩:=Option.isSome_iff_exists.1 k1.symm;have e:=(hat .nil).symm.trans (k2 v hv' .nil);cases c with
   | none =>
    have hv:some (DataW.nil,[])=some y:=hv;injection hv with hv;rw[←hv] at e;cases e
   | some q =>
    have hv:some (DataW.lit (.int .i64 (q:Int)),[])=some y:=hv;injection hv with hv;rw[←hv] at e;have e:(DataW.lit (.int .i64 (q:Int)):DataW Unit)=.lit (.int .i64 (v:Int)):=e;injection e with e;injection e with _ e;obtain rfl:q=v:=by omega
    exact hMore x q w' cnt' hwx hlk hv' hrg hlt hgr hsz hen)
theorem wpList_next_unit (w:World)(hg:o.guard=none)(it:Operand)(hop:o.op=Op.next it false)(b r n:Nat)(D:DataW Unit)(left:Lit→Bool)(cnt:Nat)(hit:a.eval it=.pointer (some ⟨r,0,none⟩))(h:w.ranges Tryz.prog 3 unitElem b r n D left cnt)(hDone:cnt=0→(∀kl,left kl=false)→wpList Tryz.prog ops Q rest (a.put o.dst (.tuple #[.bool false])) w)(hMore:∀(x:Int) (w':World) (cnt':Nat),i64 x→left (.int .i64 x)=true→w'.ranges Tryz.prog 3 unitElem b r n D (fun z=>left z && !z.sameKey (.int .i64 x)) cnt'→cnt'<cnt→w.grownBy w' (some r)→w'.heap.size=w.heap.size→(Instr.entry (.pointer (some ⟨r,0,none⟩))).run Tryz.prog w'=.ok (.tuple #[.int .i64 x,.agg #[]]) w'→wpList Tryz.prog ops Q rest (a.put o.dst (.tuple #[.bool true,.int .i64 x,.agg #[]])) w'):wpList Tryz.prog ops Q (o::rest) a w:=
 wpList_next_ranges w hg it hop 3 lawI unitElem (Value.int .i64) (fun _:Unit=>.agg #[]) (fun key kl hkey=>by obtain⟨x,rfl,_⟩:=Maps.keyOf_int_inv Tryz.underlying3 hkey;exact⟨x,rfl⟩)
  (fun v y hv=>⟨(),(unitElem_inv hv).1⟩) b r n D left cnt hit h hDone (fun x c kl y w' cnt' hkey hlk hv hat hrg hlt hgr hsz hen=>by
   obtain⟨x',ex,rfl,hwx⟩:=Maps.keyOf_int_inv Tryz.underlying3 hkey;cases ex;exact hMore x w' cnt' hwx hlk hrg hlt hgr hsz hen)
end
structure Drt (P:PS) (left:Lit→Bool) (ls:List Int):Prop where
 nd:ls.Nodup
 mem:∀x,x∈ls↔(isD P x=true∧left (.int .i64 x)=false)
theorem Drt.skip (h:Drt P left ls)(hx:isD P x=false):Drt P (fun z=>left z && !z.sameKey (.int .i64 x)) ls:=
 ⟨h.nd,fun y=>by
  rw[h.mem y];by_cases e:y=x
  ·subst e;simp[hx]
  ·have:(Lit.int .i64 y).sameKey (.int .i64 x)=false:=sameKey_ne (fun h=>by injection h with _ h;exact e h);simp[this]⟩
theorem Drt.take (h:Drt P left ls)(hx:isD P x=true)(hl:left (.int .i64 x)=true):Drt P (fun z=>left z && !z.sameKey (.int .i64 x)) (ls++[x]):=by
 refine⟨?_,fun y=>?_⟩
 ·rw[List.nodup_append];refine⟨h.nd,by simp,fun a ha b hb e=>?_⟩;simp at hb;subst hb;subst e;have:=((h.mem a).1 ha).2;rw[hl] at this;cases this
 ·rw[List.mem_append,h.mem y,List.mem_singleton];by_cases e:y=x
  ·subst e;simp[hx,Lit.sameKey]
  ·have:(Lit.int .i64 y).sameKey (.int .i64 x)=false:=sameKey_ne (fun h=>by injection h with _ h;exact e h);simp[this,e]
theorem row_ne {base e size:Nat}{v:Value}{xs:List Value}(h:w.ownsRow base e size v n xs)(hk:k<base):some k≠v.ownBlock:=fun q=>by
 have:=(World.ownsRow.lt h k q.symm).1;omega
theorem cdirty (h:PO w B D Gp V C K pk m):Calls Tryz.prog 113 #[(.pointer (some ⟨Gp,0,none⟩))] w fun e w'=>∃(ls:List Int) (a:Option Addr) (c:Nat),e=.returned (.slice a ls.length c)∧ls.Nodup∧(∀x,x∈ls↔isD V.P x=true)∧w'.ownsRow w.heap.size 3 1 (.slice a ls.length c) ls.length (ls.map (Value.int .i64))∧Below w.heap.size w w':=by
 obtain⟨DF,hown,HKF⟩:=h.pp.fmap;have hbl:=hown.lt;have hsz:=hown.size_le;have HKK:=hide (HKF);obtain⟨c0,c1,c2,c3,c4,c5,c6,c7,c8,c9⟩:=h.pp.cells;have HPO:=hide (h);have HI:=hide (show ∀x,isD V.P x=true→i64 x from fun x hx=>by
  unfold isD at hx;cases hq:V.P.fs x with
  | none=>rw[hq] at hx;cases hx
  | some f=>have:=h.pi.held hq;have:=h.pi.pg;exact i64_in (by omega) (by omega))
 obtain⟨i0,hi,hz⟩:=Option.map_eq_some_iff.1 infoIntP;simp only[Prod.mk.injEq] at hz;obtain⟨hz0,hz1,hz2⟩:=hz;clear h HKF c0 c1 c2 c3 c5 c6 c7 c8 c9;go_enter Tryz.func113,Tryz.ntmps113;go_wp2_with (first
  | (at_range;refine wpList_range_own _ rfl _ 126 rfl 3 134 lawI Tryz.underlying126 _ V.b.bF 65 _ rfl hown ?_;intro w0 hrg0 hg0 hs0)
  | go_in)
 try go_frame
 have HB0:=hide (show Below w.heap.size w w0 from⟨hg0.os,hg0.tape,hg0.output,hg0.size,fun i hi=>hg0.block i hi (by simp)⟩);have HD0:=hide (show Drt V.P (Maps.has DF) [] from⟨by simp,fun x=>by
  constructor
  ·intro k;cases k
  ·rintro⟨k1,k2⟩;have:=(HKK.out x (HI.out x k1)).1;rw[k2] at this;unfold isD at k1;cases hq:V.P.fs x with
   | none=>rw[hq] at k1;cases k1
   | some f=>rw[hq] at this;cases this⟩)
 clear hg0
 go_loopw [3] (fun v wr=>∃(left:Lit→Bool) (cnt:Nat) (ls:List Int) (va:Option Addr) (vc:Nat),v=.slice va ls.length vc∧wr.ranges Tryz.prog 3 ptrElem V.b.bF w.heap.size 65 DF left cnt∧ls.length+cnt≤65∧w.heap.size<wr.heap.size∧Hid (∀x,i64 x→left (.int .i64 x)=true→Maps.has DF (.int .i64 x)=true)∧Hid (Drt V.P left ls)∧Hid (wr.ownsRow (w.heap.size+1) 3 1 (.slice va ls.length vc) ls.length (ls.map (Value.int .i64)))∧Hid (Below w.heap.size w wr)) (fun _ wr=>wr.rangeLeft V.b.bF w.heap.size)
 case atStart=>exact⟨_,_,[],none,0,rfl,hrg0,by simpa using hsz,by omega,hide (fun x _ h=>h),HD0,hide (World.ownsRow_nil _ _ _ _),HB0⟩
 case round =>
  obtain⟨left,cnt,ls,va,vc,rfl,hrg,hcnt,hlt0,HLF,HDR,HROW,HBr⟩:=hrel;clear hrg0 hs0 HD0 HB0;go_wp2_with (first
   | (at_next;refine wpList_next_ptr _ rfl _ rfl V.b.bF w.heap.size 65 DF left cnt _ HKK.out HLF.out rfl hrg ?_ ?_)
   | go_in)
  ·intro hc0 hl0;have HMEM:=hide (show ls.Nodup∧∀x,x∈ls↔isD V.P x=true from⟨HDR.out.nd,fun x=>by rw[HDR.out.mem x,hl0];simp⟩);rcases HROW.out.2 with⟨e0,h0⟩ | ⟨g,cap,cur,e0,hbs,hgg,hn1,hn2,hn3,hn4⟩
   ·injection e0 with ea el ec;subst ea ec;have hls:ls=[]:=List.length_eq_zero_iff.1 h0;subst hls;go_wp2_with fail
    refine(AnyM.slices_Sort_int_none Tryz.sortA none 0 wr).mono ?_;rintro e w1⟨rfl,hw⟩;rw[hw];clear hw;go_wp2;go_ret;exact⟨[],none,0,rfl,HMEM.out.1,HMEM.out.2,World.ownsRow_nil _ _ _ _,HBr.out⟩
   ·injection e0 with ea el ec;subst ea ec;have hH:=holds_of_blockI hgg (by rw[Nat.mul_one] at hn4;exact hn4);have HS:=hide (AnyM.slices_Sort_int Tryz.sortA g 0 vc ls wr hH (Array.getElem?_eq_some_iff.1 hgg).1 (by omega));have HG:=hide (show w.heap.size+1≤g∧wr.heap[g]?=some (.cells cur 3 (0,0))∧ls.length≤vc∧vc≤maxLen∧cur.size=vc*1 from⟨hbs,hgg,hn1,hn2,hn3⟩);clear hH hgg hn4;go_wp2_with fail
    refine HS.out.mono ?_;rintro e w2⟨rfl,q,os,rfl⟩;go_wp2;go_ret;have hperm:=List.mergeSort_perm ls (fun x y=>decide (x≤y));have hl:(ls.mergeSort (fun x y=>decide (x≤y))).length=ls.length:=hperm.length_eq;have hgs:=grownBy_sortedI (w:=wr) (g:=g) (n:=q) (os:=os) (ls.mergeSort (fun x y=>decide (x≤y))).toArray;refine⟨ls.mergeSort (fun x y=>decide (x≤y)),some ⟨g,0,none⟩,vc,by rw[hl];rfl,hperm.nodup_iff.2 HMEM.out.1,fun x=>by rw[hperm.mem_iff];exact HMEM.out.2 x,?_,?_⟩
    ·rw[hl];exact ownsRow_sortedI hl (by have:=HG.out.1;omega) HG.out.2.1 HG.out.2.2.1 HG.out.2.2.2.1 HG.out.2.2.2.2
    ·exact HBr.out.trans ⟨hgs.os,hgs.tape,hgs.output,hgs.size,fun i hi=>hgs.block i (Nat.lt_of_lt_of_le hi HBr.out.size) (fun e=>by injection e with e;have:=HG.out.1;omega)⟩
  ·intro x v w5 cnt1 hwx hlx f hf hfb hrg1 hlt hg1 hs1 hen;subst hfb;have h5:w.heap.size<w5.heap.size:=by omega
   have HSZ:=hide (h5);clear hs1 h5;have HB5:=hide (show Below w.heap.size w w5 from HBr.out.trans ⟨hg1.os,hg1.tape,hg1.output,hg1.size,fun i hi=>hg1.block i (Nat.lt_of_lt_of_le hi HBr.out.size) (fun e=>by injection e with e;omega)⟩);obtain⟨f0,f1,f2,-,-,-⟩:=(HPO.out.pp.below HB5.out).fcells hf;have HR5:=hide (show w5.ownsRow (w.heap.size+1) 3 1 (.slice va ls.length vc) ls.length (ls.map (Value.int .i64)) from row_keep HROW.out fun g hg=>hg1.block g (World.ownsRow.lt HROW.out g hg).2 (fun e=>by
    injection e with e;have:=(World.ownsRow.lt HROW.out g hg).1;omega))
   have hisd:isD V.P x=f.dirty:=by unfold isD;rw[hf]
   clear f0 f1;cases hd:f.dirty with
   | false =>
    rw[hd] at f2 hisd;have HS:=hide (HDR.out.skip hisd);have HLF2:=hide (show ∀y,i64 y→(left (.int .i64 y) && !(Lit.int .i64 y).sameKey (.int .i64 x))=true→Maps.has DF (.int .i64 y)=true from fun y hy k=>HLF.out y hy (by simp at k;exact k.1));clear hisd;go_wp2_with fail
    go_roundw
    case rel=>exact⟨_,cnt1,ls,va,vc,rfl,hrg1,by omega,HSZ.out,HLF2,HS,HR5,HB5⟩
    case measure=>rw[hrg1.left_eq,hrg.left_eq];exact hlt
   | true =>
    rw[hd] at f2 hisd;have HS:=hide (HDR.out.take hisd hlx);have HLF2:=hide (show ∀y,i64 y→(left (.int .i64 y) && !(Lit.int .i64 y).sameKey (.int .i64 x))=true→Maps.has DF (.int .i64 y)=true from fun y hy k=>HLF.out y hy (by simp at k;exact k.1));clear hisd;go_wp2_with (first
     | (at_builtin;refine wpList_append_own_at _ rfl _ _ 36 rfl (w.heap.size+1) 3 i0 (.int .i64 0) 1 8 Tryz.underlying36 hi hz0 hz1 hz2 rfl (by decide) (.slice va ls.length vc) ls.length (ls.map (Value.int .i64)) rfl (World.ownsRow.alloc HR5.out _) ⟨w5.heap.size,0,none⟩ 1 1 [.int .i64 x] rfl rfl (newsI _ _) (fun x hx=>by simp at hx;subst hx;rfl) (by unfold maxLen;omega) (by omega) (by have:=HSZ.out;simp;omega) ?_;intro v1 w6 ho1 hg6 hnil1 hown1;obtain⟨a1,cap1,rfl⟩:=owns_sliceI ho1;have hgA:w5.grownBy w6 (Value.slice va ls.length vc).ownBlock:=But.trans (World.grownBy_alloc w5 _ _) hg6;have HR6:=hide (show w6.ownsRow (w.heap.size+1) 3 1 (.slice a1 (ls++[x]).length cap1) (ls++[x]).length ((ls++[x]).map (Value.int .i64)) by rw[List.length_append,List.map_append];exact ho1);have hrg2:=hrg1.kept hgA (row_ne HR5.out (by omega)) (row_ne HR5.out (by omega));have HB6:=hide (show Below w.heap.size w w6 from HB5.out.trans ⟨hgA.os,hgA.tape,hgA.output,hgA.size,fun i hi=>hgA.block i (Nat.lt_of_lt_of_le hi HB5.out.size) (row_ne HR5.out (by omega))⟩);have hs6:=hgA.size;clear ho1 hg6 hnil1 hown1 hgA)
     | go_in)
    go_roundw
    case rel=>exact⟨_,cnt1,ls++[x],a1,cap1,by simp,hrg2,by simp;omega,Nat.lt_of_lt_of_le HSZ.out hs6,HLF2,HS,HR6,HB6⟩
    case measure=>rw[hrg2.left_eq,hrg.left_eq];exact hlt
theorem cpages (X:World)(B D G bp bf n:Nat)(L:LS)(S:DS)(h:PL X B D G bp bf n L S):Calls Tryz.prog 27 #[(.pointer (some ⟨G,0,none⟩))] X fun e w'=>e=.returned (.int .i64 L.last.pages)∧w'=X:=by
 obtain⟨c0,c1,c2,c3,c4,c5,c6,c7⟩:=h.cells;clear h;go_enter Tryz.func27,Tryz.ntmps27;go_wp2_with fail
 go_ret;exact⟨rfl,rfl⟩
theorem cframes (X:World)(B D G bp bf n:Nat)(L:LS)(S:DS)(h:PL X B D G bp bf n L S):Calls Tryz.prog 29 #[(.pointer (some ⟨G,0,none⟩))] X fun e w'=>e=.returned (.int .i64 L.fr)∧w'=X:=by
 obtain⟨c0,c1,c2,c3,c4,c5,c6,c7⟩:=h.cells;clear h;go_enter Tryz.func29,Tryz.ntmps29;go_wp2_with fail
 go_ret;exact⟨rfl,rfl⟩
theorem isD_some (h:isD P x=true):∃f,P.fs x=some f∧f.dirty=true:=by
 unfold isD at h;cases hq:P.fs x with
 | none=>rw[hq] at h;cases h
 | some f=>rw[hq] at h;exact⟨f,rfl,h⟩
theorem isD_mk (h:P.fs x=some f)(hd:f.dirty=true):isD P x=true:=by unfold isD;rw[h];exact hd
theorem drop_step {P':PS}{i:Nat}(hn:ls.Nodup)(hi:i<ls.length)(h:∀x,isD P x=true↔x∈ls.drop i)(hP:P'.fs=updR P.fs ls[i] { f with dirty:=false }):∀x,isD P' x=true↔x∈ls.drop (i+1):=by
 intro x;have hd:ls.drop i=ls[i]::ls.drop (i+1):=List.drop_eq_getElem_cons hi;have hnd:(ls.drop i).Nodup:=hn.sublist (List.drop_sublist i ls);rw[hd,List.nodup_cons] at hnd;by_cases e:x=ls[i]
 ·subst e;constructor
  ·intro k;unfold isD at k;rw[hP,updR_at] at k;cases k
  ·intro k;exact absurd k hnd.1
 ·have:isD P' x=isD P x:=by unfold isD;rw[hP,updR_ne _ _ e]
  rw[this,h x,hd,List.mem_cons];exact⟨fun k=>k.resolve_left e,.inr⟩
theorem cappendDirty (h:PO w B D Gp V C K pk m)(hm:m≤50000):Calls Tryz.prog 78 #[(.pointer (some ⟨Gp,0,none⟩))] w fun e w'=>∃V',PO w' B D Gp V' C K pk m∧St2 w w' B V V'∧V'.P.pages=V.P.pages∧V'.P.free=V.P.free∧((∃n f,e=.returned (.tuple #[.int .i64 n,.int .i64 0])∧V'.P.fs n=some f∧∀x,isD V'.P x=true→x=n)∨(e=.returned (.tuple #[.int .i64 0,.int .i64 2])∧V'.S.down=true)):=by
 have HP:=hide (h);have HDI:=hide (cdirty h);clear h;go_enter Tryz.func78,Tryz.ntmps78;go_wp2_with fail
 refine HDI.out.mono ?_;rintro e w1⟨ls,a,c,rfl,q1,q2,q3,q4⟩;obtain⟨p1,s1⟩:=HP.out.below q4;have HP1:=hide (p1);have HS1:=hide (s1);have hpg:=p1.pi.pg;clear HDI p1 s1;by_cases hl:ls=[]
 ·subst hl;have HND:=hide (show ∀x,isD V.P x=false from fun x=>by
   cases hq:isD V.P x with
   | false=>rfl
   | true=>exact absurd ((q2 x).2 hq) (List.not_mem_nil))
  have HU:=hide (cuse HP1.out hm 0 (by omega) (by omega));clear q1 q2 q3 q4;go_wp2_with fail
  refine HU.out.mono ?_;rintro e w2⟨V2,k1,k2,k3,k4,k5,(⟨f,k6,k7,rfl⟩ | ⟨rfl,k6⟩)⟩
  ·have HK:=hide (show PO w2 B D Gp V2 C K pk m∧St2 w w2 B V V2∧V2.P.pages=V.P.pages∧V2.P.free=V.P.free∧V2.P.fs 0=some f∧∀x,isD V2.P x=true→x=0 from⟨k1,HS1.out.trans k2,k3,k4,k6,fun x hx=>by
    obtain⟨g,hg,hd⟩:=isD_some hx;have:=isD_mk (k5 x g hg hd) hd;rw[HND.out x] at this;cases this⟩)
   clear k1 k2 k3 k4 k5 k6 k7 HU;go_wp2
   go_ret2
   exact⟨V2,HK.out.1,HK.out.2.1,HK.out.2.2.1,HK.out.2.2.2.1,.inl ⟨0,f,rfl,HK.out.2.2.2.2⟩⟩
  ·have HK:=hide (show PO w2 B D Gp V2 C K pk m∧St2 w w2 B V V2∧V2.P.pages=V.P.pages∧V2.P.free=V.P.free∧V2.S.down=true from⟨k1,HS1.out.trans k2,k3,k4,k6⟩);clear k1 k2 k3 k4 k5 k6 HU;go_wp2
   go_ret2
   exact⟨V2,HK.out.1,HK.out.2.1,HK.out.2.2.1,HK.out.2.2.2.1,.inr ⟨rfl,HK.out.2.2.2.2⟩⟩
 ·obtain⟨k,hk⟩:∃k,ls.length=k+1:=⟨ls.length-1,by
   cases ls with
   | nil=>exact absurd rfl hl
   | cons x r=>simp⟩
  obtain⟨g,cap,hv,hg1,hg2,hg3,hg4,hg5,hg6⟩:=holds_of_ownsRow q3 (fun e=>by injection e with _ e _;omega);injection hv with ea _ ec;subst ea ec;have hkl:k+1≤64:=by
   have h1:=nodup_len (l:=V.P.order) q1 (fun x hx=>(HP1.out.pi.keys x).2 (by obtain⟨f,hf,_⟩:=isD_some ((q2 x).1 hx);rw[hf];rfl));have:=HP1.out.pi.most;omega
  have HR1:=hide (q3);have HM1:=hide (show ls.Nodup∧∀x,isD V.P x=true↔x∈ls from⟨q1,fun x=>(q2 x).symm⟩);have hne2:(((k:Int)+1) == 0)=false:=by simp;omega
  have hcap:(k:Int)≤(c:Int):=by omega
  rw[hk];clear q1 q2 q3 q4 hl hg5 hg6 hg3 hg4;go_wp2_with fail
  go_loopw [29] (fun u wr=>∃(i:Nat) (Vi:PV),u=.int .i64 (i:Int)∧i≤k∧Hid (PO wr B D Gp Vi C K pk m)∧Hid (St2 w wr B V Vi)∧Hid (Vi.P.pages=V.P.pages∧Vi.P.free=V.P.free∧∀x,isD Vi.P x=true↔x∈ls.drop i)∧Hid (wr.ownsRow w.heap.size 3 1 (.slice (some ⟨g,0,none⟩) ls.length c) ls.length (ls.map (Value.int .i64)))) (fun u _=>k-(intOf u).toNat)
  case atStart=>exact⟨0,V,rfl,Nat.zero_le _,HP1,HS1,hide ⟨rfl,rfl,by rw[List.drop_zero];exact HM1.out.2⟩,HR1⟩
  case round =>
   obtain⟨i,Vi,rfl,hik,HPi,HSi,HKi,HRi⟩:=hrel;obtain⟨g',cap',hv',t1,t2,t3,t4,t5,t6⟩:=holds_of_ownsRow HRi.out (fun e=>by injection e with e _ _;cases e);injection hv' with ea' _ ec';injection ea' with ea';injection ea' with ea' _ _;subst ea' ec';by_cases hlt:i<k
   ·have hx:=holds_cell t6 i (by omega);rw[getD_at (show i<ls.length by omega)] at hx;have hlt':(i:Int)<(k:Int):=by omega
    obtain⟨f,hf,hd⟩:=isD_some ((HKi.out.2.2 ls[i]).2 (by rw[List.drop_eq_getElem_cons (show i<ls.length by omega)];exact List.mem_cons_self ..));have HT:=hide (ctoLog HPi.out hm ls[i] f hf hd);have HST:=hide (fun(P':PS) (hP:P'.fs=updR Vi.P.fs ls[i] { f with dirty:=false })=>drop_step (P':=P') HM1.out.1 (show i<ls.length by omega) HKi.out.2.2 hP);generalize ls[i]=x at *;clear t1 t2 t3 t4 t5 t6 hf hd;go_wp2_with fail
    refine HT.out.mono ?_;rintro e w3⟨V3,j1,j2,j3,-,(⟨rfl,j4⟩ | ⟨rfl,j4,j5⟩)⟩
    ·have HP3:=hide (j1);have HS3:=hide (HSi.out.trans j2);have HK3:=hide (show V3.P.pages=V.P.pages∧V3.P.free=V.P.free∧∀x,isD V3.P x=true↔x∈ls.drop (i+1) from⟨by rw[j4];exact HKi.out.1,by rw[j4];exact HKi.out.2.1,HST.out V3.P (by rw[j4])⟩);have HR3:=hide (show w3.ownsRow w.heap.size 3 1 (.slice (some ⟨g,0,none⟩) ls.length c) ls.length (ls.map (Value.int .i64)) from row_keep HRi.out fun g' hg'=>by
      rcases HRi.out.2 with⟨e0,_⟩|⟨g2,cap2,cur2,e0,_,hgg,_⟩
      ·cases e0
      ·rw[e0] at hg';injection hg' with hg';have hg':g2=g':=hg';subst hg';exact j3 g2 cur2 hgg)
     clear j1 j2 j3 j4 HT HST;go_wp2_with fail
     go_roundw
     case rel=>exact⟨i+1,V3,by go_num,by omega,HP3,HS3,HK3,HR3⟩
     case measure=>simp[intOf];omega
    ·have HK:=hide (show PO w3 B D Gp V3 C K pk m∧St2 w w3 B V V3∧V3.P.pages=V.P.pages∧V3.P.free=V.P.free∧V3.S.down=true from⟨j1,HSi.out.trans j2,by rw[j5];exact HKi.out.1,by rw[j5];exact HKi.out.2.1,j4⟩);clear j1 j2 j3 j4 j5 HT HST;go_wp2
     go_ret2
     exact⟨V3,HK.out.1,HK.out.2.1,HK.out.2.2.1,HK.out.2.2.2.1,.inr ⟨rfl,HK.out.2.2.2.2⟩⟩
   ·obtain rfl:i=k:=by omega
    have hx:=holds_cell t6 i (by omega);rw[getD_at (show i<ls.length by omega)] at hx;have hdr:ls.drop i=[ls[i]]:=by
     rw[List.drop_eq_getElem_cons (show i<ls.length by omega),List.drop_of_length_le (by omega)]
    obtain⟨f,hf,hd⟩:=isD_some ((HKi.out.2.2 ls[i]).2 (by rw[hdr];exact List.mem_cons_self ..));have HK:=hide (show Vi.P.fs ls[i]=some f∧∀x,isD Vi.P x=true→x=ls[i] from⟨hf,fun x hx=>by have:=(HKi.out.2.2 x).1 hx;rw[hdr] at this;exact List.mem_singleton.1 this⟩);generalize ls[i]=x at *;clear t1 t2 t3 t4 t5 t6 hf hd hdr;go_wp2
    go_ret2
    exact⟨Vi,HPi.out,HSi.out,HKi.out.1,HKi.out.2.1,.inl ⟨x,rfl,⟨f,HK.out.1⟩,HK.out.2⟩⟩
structure AfP (w w':World) (B D:Nat) (V:PV) (C K:Pgs) (pk:Nat) (S':DS):Prop where
 ex:∃K2,CrOr S' K pk K2 V.P.pages 1000∧∀n:Int,0≤n→n<V.P.pages→K2 n=C n
 ds:PDs w' B D S'
 ok:okS S' 100000
 down:S'.down=true
 bel:∃M',BelP V.b.M M' B w w'
theorem CrOr.more {F F':Int→Option ByteArray}{p p' q q':Nat}(h:CrOr S F p F' p' q)(hq:q≤q'):CrOr S F p F' p' q':=fun fa=>(h fa).imp (fun⟨c,⟨a,b⟩,g⟩=>⟨c,⟨a,Nat.le_trans b hq⟩,g⟩) (fun⟨c,⟨a,b⟩,g⟩=>⟨c,⟨a,Nat.le_trans b hq⟩,g⟩)
theorem PO.crash (h:PO w B D Gp V C K pk m):CrOK V.S K pk m:=by
 obtain⟨j,k,h1,h2,-⟩:=h.pi.inv;have:=(h1.mono (show j≤m by omega)).crash;rw[h.pi.last] at this;exact this
theorem PO.okd (h:PO w B D Gp V C K pk m)(hm:m≤20000):okS V.S 100000:=by
 obtain⟨j,k,h1,h2,h3,h4⟩:=h.pi.inv;exact h3.mono (by omega)
theorem PI.same (h:PI P L S C K N pk m)(hc:∀x,i64 x→P.chg x=false):pk=P.pages∧∀n:Int,0≤n→n<P.pages→K n=C n:=by
 have hpg:=h.pg;have hi:∀n:Int,0≤n→n<P.pages→i64 n:=fun n n0 n1=>i64_in (by omega) (by omega)
 refine⟨?_,fun n n0 n1=>?_⟩
 ·have:=(h.chg (P.pages-1:Int) (hc _ (hi _ (by omega) (by omega))) (by omega) (by omega)).1;omega
 ·obtain⟨a1,a2,a3⟩:=h.chg n (hc n (hi n n0 n1)) n0 n1;obtain⟨t,c1,c2,c3,c4⟩:=h.cur n n0 n1;rw[←a2,c1];cases hf:P.fs n with
  | none=>exact c4 hf
  | some f=>rw[h.clean n f hf (a3 f hf),c3 f hf]
theorem PI.told (h:PI P L S C K N pk m){n:Int}(hf:P.fs n=some f)(hd:∀x,isD P x=true→x=n):∀x:Int,0≤x→x<P.pages→wth N n f.text x=C x:=fun x x0 x1=>by
 by_cases e:x=n
 ·subst e;rw[wth_at];exact(h.held hf).2.2.2.1.symm
 ·rw[wth_ne _ _ e];obtain⟨t,c1,c2,c3,c4⟩:=h.cur x x0 x1;rw[c1];cases hq:P.fs x with
  | none=>exact c4 hq
  | some g =>
   have hg:g.dirty=false:=by
    cases hz:g.dirty with
    | false=>rfl
    | true=>exact absurd (hd x (isD_mk hq hz)) e
   rw[h.clean x g hq hg,c3 g hq]
theorem ccommitP (h:PO w B D Gp V C K pk m)(hm:m≤990):Calls Tryz.prog 40 #[(.pointer (some ⟨Gp,0,none⟩))] w fun e w'=>(∃V' K',e=.returned (.int .i64 0)∧PO w' B D Gp V' C K' V.P.pages (m+1)∧St2 w w' B V V'∧V'.P.pages=V.P.pages∧V'.P.free=V.P.free∧∀n:Int,0≤n→n<V.P.pages→K' n=C n)∨(∃S',e=.returned (.int .i64 2)∧(NoF V.S→NoF S')∧AfP w w' B D V C K pk S'):=by
 obtain⟨c0,c1,c2,c3,c4,c5,c6,c7,c8,c9⟩:=h.pp.cells;obtain⟨kl,hlen,hl1,hl2⟩:=h.pp.chm.len 3;have HP:=hide (h);by_cases hz:kl=0
 ·subst hz;have hs:=h.pi.same (hl2.1 rfl);have HR:=hide (show PO w B D Gp V C K V.P.pages (m+1)∧∀n:Int,0≤n→n<V.P.pages→K n=C n from⟨hs.1 ▸ h.mono (by omega),hs.2⟩);clear h c0 c1 c2 c3 c4 c5 c7 c8 c9 hs hl2;go_enter Tryz.func40,Tryz.ntmps40;go_wp2;go_ret;exact .inl ⟨V,K,rfl,HR.out.1,St2.refl _ _ _,rfl,rfl,HR.out.2⟩
 ·have hz1:((kl:Int) == 0)=false:=by simp;omega
  have HA:=hide (cappendDirty h (by omega));have hmm:=@run_makeMap Tryz.prog;clear h c0 c1 c2 c3 c4 c5 c7 c8 c9 hl2;go_enter Tryz.func40,Tryz.ntmps40;go_wp2_with fail
  refine HA.out.mono ?_;rintro e w1⟨V1,k1,k2,k3,k4,(⟨n,f,rfl,k5,k6⟩ | ⟨rfl,k5⟩)⟩
  ·obtain⟨g1,g2,g3,g4,g5⟩:=k1.pi.held k5;have hpg:=k1.pi.pg;obtain⟨n,rfl⟩:∃k:Nat,n=k:=⟨n.toNat,by omega⟩;have hn:i64 (n:Int):=i64_in (by omega) (by omega);have hlk:=k1.pp.fmap.look1 hn;simp only[k5,Option.map_some,ptrO] at hlk;obtain⟨d0,d1,d2,d3,d4,d5,d6,d7,d8,d9⟩:=k1.pp.cells;obtain⟨f0,f1,f2,z0,z2,hlt⟩:=k1.pp.fcells k5;obtain⟨j,kk,i1,i2,i3,i4⟩:=k1.pi.inv;have hfr:=i1.fr;have HC:=hide (fun(W:World) (hW:Below w1.heap.size w1 W)=>ccommit (n:Int) f.text (V1.P.pages:Int) W B D V1.b.G V1.b.bp V1.b.bf 60000 kk V1.L V1.S (k1.pp.log.below hW) (Nat.le_trans k1.lo hW.size) (by decide) i3 (by omega) (by omega) i1.pre.tp.ok);have hok:=cmL_ok (L:=V1.L) i3 n f.text V1.P.pages;have hnf:NoF V1.S→NoF (cmL V1.L V1.S n f.text V1.P.pages).2.2:=fun h=>cmL_nf h _ _ _
   have HP1:=hide (k1);have HS1:=hide (k2);have HK1:=hide (show V1.P.pages=V.P.pages∧V1.P.free=V.P.free∧V1.P.fs n=some f∧∀x,isD V1.P x=true→x=(n:Int) from⟨k3,k4,k5,k6⟩);rcases cm_out i1 (by omega) (by omega:n<60000) g5 (by omega:1≤V1.P.pages) (by omega) with⟨L2,S2,e2,v2,cr2⟩ | ⟨L2,S2,e2,v2,lp2,I2⟩
   ·rw[e2] at HC hok hnf;have HAF:=hide (show CrOr S2 K pk (wth V1.N n f.text) V.P.pages 1000∧(∀x:Int,0≤x→x<V.P.pages→wth V1.N n f.text x=C x)∧okS S2 100000∧S2.down=true∧(NoF V1.S→NoF S2) from⟨by rw[←k3,←k1.pi.last];exact cr2.more (by omega),by rw[←k3];exact k1.pi.told k5 k6,hok.mono (by omega),v2,hnf⟩);clear k1 k2 k3 k4 k5 k6 hok hnf e2 v2 cr2 i1 i2 i3 i4 d1 d3 d5 d6 d7 d8 d9 f1 f2 z0 z2 hfr HA c6 hlen;go_wp2_with fail
    go_region_with (go_at_call 16;refine(HC.out _ ((Below.refl _ _).drew)).mono ?_;rintro e w5⟨rfl,hp5,hb5⟩)
    all_goals
     have HF5:=hide (show BelL V1.b.G V1.b.bp V1.b.bf B w1 w5 from(below_log ((Below.refl _ _).drew) HP1.out.lo _ _ _).trans hb5);have HD5:=hide (hp5.dsk);clear hp5 hb5;go_wp2;go_ret;exact .inr ⟨S2,rfl,fun hn=>HAF.out.2.2.2.2 (HS1.out.nf hn),⟨⟨_,HAF.out.1,HAF.out.2.1⟩,HD5.out,HAF.out.2.2.1,HAF.out.2.2.2.1,_,HS1.out.bel.trans (HP1.out.pp.belL HF5.out)⟩⟩
   ·rw[e2] at HC hok hnf;have HI:=hide (show PI { V1.P with fs:=updR V1.P.fs n { f with dirty:=false },chg:=fun _=>false } L2 S2 C (wth V1.N n f.text) (wth V1.N n f.text) V1.P.pages (m+1)∧(∀x:Int,0≤x→x<V.P.pages→wth V1.N n f.text x=C x)∧(NoF V1.S→NoF S2) from⟨by
     refine k1.pi.commit (updR V1.P.fs n { f with dirty:=false }) (fun x=>?_) (fun x g hx=>?_) (k1.pi.told k5 k6) I2 (by omega) hok (by omega) lp2
     ·by_cases e:x=(n:Int)
      ·rw[e,updR_at,k5];rfl
      ·rw[updR_ne _ _ e]
     ·by_cases e:x=(n:Int)
      ·rw[e,updR_at] at hx;injection hx with hx;rw[←hx];exact⟨rfl,f,by rw[e];exact k5,rfl⟩
      ·rw[updR_ne _ _ e] at hx;refine⟨?_,g,hx,rfl⟩;cases hz:g.dirty with
       | false=>rfl
       | true=>exact absurd (k6 x (isD_mk hx hz)) e,by rw[←k3];exact k1.pi.told k5 k6,hnf⟩)
    have HSM:=hide (show(∀x,(L2.pl x).isSome=true→0≤x∧x<((60000:Nat):Int))∧∀x,(L2.fh x).isSome=true→0≤x∧x<((60000:Nat):Int) from⟨I2.pos,I2.posF⟩);have hfr2:L2.fr<1000:=by have:=I2.fr;omega
    have hfr3:(L2.fr:Int)<1000:=by omega
    clear k1 k2 k3 k4 k5 k6 hok hnf e2 v2 lp2 I2 i1 i2 i3 i4 d1 d3 d5 d6 d7 d8 d9 f1 f2 z0 z2 hfr HA c6 hlen hfr2;go_wp2_with fail
    go_region_with (go_at_call 16;refine(HC.out _ ((Below.refl _ _).drew)).mono ?_;rintro e w5⟨rfl,hp5,hb5⟩)
    all_goals
     have HF5:=hide (show BelL V1.b.G V1.b.bp V1.b.bf B w1 w5 from(below_log ((Below.refl _ _).drew) HP1.out.lo _ _ _).trans hb5);have HP5:=hide (show PP w5 B D Gp V1.b V1.P L2 S2 from HP1.out.pp.logs HF5.out (hp5.small HSM.out.1 HSM.out.2));have hg:=set_grown w5 f.blk 2 (.bool false);have hp6:PP (w5.setCell ⟨f.blk,2,none⟩ (.bool false)) B D Gp V1.b { V1.P with fs:=updR V1.P.fs n { f with dirty:=false }} L2 S2:=HP5.out.frame HK1.out.2.2.1 rfl hg (by rw[set_blk (HP5.out.frs n f HK1.out.2.2.1).1];rfl);have hb6:=(HP1.out.pp.belL HF5.out).trans (HP5.out.frame_bel HK1.out.2.2.1 hg (Nat.le_trans HP1.out.lo HF5.out.size));obtain⟨hp7,hb7⟩:=hp6.newset (Nat.le_trans HP1.out.lo hb6.size);have hGp:=HP5.out.lt;have hz5:(w5.setCell ⟨f.blk,2,none⟩ (.bool false)).heap.size=w5.heap.size:=by simp
     rw[World.setCell_alloc_past _ _ _ _ (by rw[hz5];exact hGp),hz5] at hp7 hb7;have HP7:=hide (hp7);have HB7:=hide (hb6.trans hb7);have HFR:=hide (fun(W:World) (hW:PP W B D Gp { V1.b with bC:=w5.heap.size } { V1.P with fs:=updR V1.P.fs n { f with dirty:=false },chg:=fun _=>false } L2 S2)=>cframes W B D V1.b.G V1.b.bp V1.b.bf 60000 L2 S2 hW.log);obtain⟨q0,q1,q2,y0,y2,hlt5⟩:=HP5.out.fcells HK1.out.2.2.1;obtain⟨p0,p1,p2,p3,p4,p5,p6,p7,p8,p9⟩:=HP5.out.cells;have z6:=HP5.out.unfrozen 6;have hne:¬Gp=f.blk:=fun e=>ne_CC ⟨_,(HP5.out.frs n f HK1.out.2.2.1).1⟩ ⟨_,HP5.out.blk⟩ (by decide) e
     clear hp5 hb5 hg hp6 hb6 hp7 hb7 hz5 q0 q1 y0 p1 p2 p3 p4 p5 p7 p8 p9;go_wp2_with fail
     refine(HFR.out _ ?hPP).mono ?_
     case hPP=>exact HP7.out
     rintro e w9⟨rfl,hw⟩;rw[hw];clear hw;go_wp2;go_ret;have hk:=HK1.out;exact .inl ⟨⟨{ V1.b with bC:=w5.heap.size },{ V1.P with fs:=updR V1.P.fs n { f with dirty:=false },chg:=fun _=>false },L2,S2,wth V1.N n f.text⟩,_,rfl,⟨HP7.out,by rw[←hk.1];exact HI.out.1,Nat.le_trans HP1.out.lo HB7.out.size⟩,HS1.out.trans ⟨HB7.out,HI.out.2.2⟩,hk.1,hk.2.1,HI.out.2.1⟩
  ·have HK:=hide (show PO w1 B D Gp V1 C K pk m∧St2 w w1 B V V1∧V1.P.pages=V.P.pages∧V1.S.down=true from⟨k1,k2,k3,k5⟩);clear k1 k2 k3 k4 k5 HA;go_wp2;go_ret;refine .inr ⟨V1.S,rfl,HK.out.2.1.nf,⟨⟨C,(HK.out.1.crash.or _ _).more (by omega),fun _ _ _=>rfl⟩,HK.out.1.pp.log.dsk,HK.out.1.okd (by omega),HK.out.2.2.2,_,HK.out.2.1.bel⟩⟩
theorem cisGone0 {F:Int→Option Nat}(c4:X.cell? ⟨Gp,4,none⟩=some (.map (some bF)))(hM:MF X bF k F)(n:Int)(hn:i64 n):Calls Tryz.prog 117 #[(.pointer (some ⟨Gp,0,none⟩)),.int .i64 n] X fun e w'=>e=.returned (.bool (!(F n).isSome))∧w'=X:=by
 have hl:=hM.look hn;generalize (F n).isSome=q at *;generalize ptrO (F n)=v at *;clear hM;go_enter Tryz.func117,Tryz.ntmps117;go_wp2;go_ret;exact⟨rfl,rfl⟩
theorem cindexG0 (fv:Value)(a:Option Addr)(c:Nat)(w:World):Calls Tryz.prog 115 #[.slice a 0 c,fv] w fun e w'=>e=.returned (.int .i64 (-1))∧w'=w:=by
 go_enter Tryz.func115,Tryz.ntmps115;go_wp2_with fail
 go_loop [5,8] (fun _ i=>i=.int .i64 0) (fun _ _=>0)
 case atStart=>rfl
 case round =>
  subst hrel;go_wp2;go_ret;exact⟨rfl,rfl⟩
theorem ccontains (h:PO w B D Gp V C K pk m):Calls Tryz.prog 79 #[V.b.vo,.func (.func 80) #[(.pointer (some ⟨Gp,0,none⟩))] #[]] w fun e w'=>e=.returned (.bool false)∧w'=w:=by
 have hmo:=h.pi.most;have hpg:=h.pi.pg;have HI:Hid (Calls Tryz.prog 115 #[V.b.vo,.func (.func 80) #[(.pointer (some ⟨Gp,0,none⟩))] #[]] w fun e w'=>e=.returned (.int .i64 (-1))∧w'=w):=by
  by_cases he:V.P.order=[]
  ·obtain⟨a,c,hv⟩:=h.pp.vo;rw[hv,he];exact cindexG0 _ a c w
  ·obtain⟨g,cap,e,h1,h2,h3,h4,h5⟩:=h.pp.row he;rw[e];have:=cindexP (.pointer (some ⟨Gp,0,none⟩)) (fun _=>false) g 0 V.P.order.length cap V.P.order w rfl (by omega) (fun j hj=>by rw[Nat.zero_add];exact holds_cell h5 j hj) (fun x hx=>by
    obtain⟨f,hf⟩:=Option.isSome_iff_exists.1 ((h.pi.keys x).1 hx);have:=h.pi.rng x hx;exact cisPinned h.pp hf (i64_in (by omega) (by omega)))
   rw[idxF_none (fun _ _=>rfl)] at this;exact this
 obtain⟨a,c,hv⟩:=h.pp.vo;rw[hv] at HI ⊢;clear h hv;go_enter Tryz.func79,Tryz.ntmps79;go_wp2_with fail
 refine HI.out.mono ?_;rintro e w1⟨rfl,hw⟩;rw[hw];clear hw;go_wp2;go_ret;exact⟨rfl,rfl⟩
theorem zeroI2 (w:World):(zeroValue 3).run Tryz.prog w=.ok (.int .i64 0) w:=by kernel_rfl
theorem grownBy_put (d:Array Int):w.grownBy (putRow (Value.int .i64) w g 0 d) (some g):=by
 have:=grownBy_sortedI (w:=w) (g:=g) (n:=0) (os:=#[]) d;rw[grow_empty,ahead_zero] at this;exact this
theorem cdelG {cap:Nat}{F:Int→Option Nat}(d:Array Int)(c4:∀W,X.grownBy W (some g)→W.cell? ⟨Gp,4,none⟩=some (.map (some bF))∧MF W bF k F)(hH:Holds (Value.int .i64) X g 0 d)(hsz:d.size≤1000)(hcap:d.size≤cap)(hi:∀x∈d.toList,i64 x):Calls Tryz.prog 116 #[.slice (some ⟨g,0,none⟩) d.size cap,.func (.func 117) #[(.pointer (some ⟨Gp,0,none⟩))] #[]] X fun e w'=>e=.returned (.slice (some ⟨g,0,none⟩) (d.toList.filter fun x=>(F x).isSome).length cap)∧w'=putRow (Value.int .i64) X g 0 ((d.toList.filter fun x=>(F x).isSome)++List.replicate (d.size-(d.toList.filter fun x=>(F x).isSome).length) 0).toArray:=by
 have tl:∀j,j<d.size→d.toList.getD j 0=d[j]!:=fun j hj=>by rw[getD_at (by simpa using hj),getElem!_pos d j hj];simp
 have hrefl:X.grownBy X (some g):=But.refl X (some g);have hIF:=cindexG (.pointer (some ⟨Gp,0,none⟩)) (fun x=>!(F x).isSome) g 0 d.size cap d.toList X (by simp) (by omega) (fun j hj=>by rw[(hH j hj).1,tl j hj]) (fun x hx=>cisGone0 (c4 X hrefl).1 (c4 X hrefl).2 x (hi x hx));obtain⟨kp,HK⟩:∃kp:Nat→Bool,Hid (kp=fun j=>(F d[j]!).isSome):=⟨_,rfl⟩;have hfil:(d.toList.filter fun x=>(F x).isSome)=keptUpTo kp d d.size:=by rw[HK.out];exact(keptUpTo_filter (fun x=>(F x).isSome) d).symm
 rw[hfil];have HH:=hide (hH);rcases idxF_spec (q:=fun x=>!(F x).isSome) (l:=d.toList) with⟨e1,hall⟩ | ⟨a,x,r,e0,h2,h3,e1⟩
 ·rw[e1] at hIF;have hkeep:∀j,j<d.size→kp j=true:=fun j hj=>by
   rw[HK.out];have:=hall d[j]! (by rw[getElem!_pos d j hj];simp);simpa using this
  have e3:keptUpTo kp d d.size=d.toList:=by
   rw[←hfil,List.filter_eq_self];intro y hy;have:=hall y hy;simpa using this
  have HI:=hide (hIF);rw[e3];clear hH hIF hfil tl hrefl c4 hall;go_enter Tryz.func116,Tryz.ntmps116;go_wp2_with fail
  refine HI.out.mono ?_;rintro e w1⟨rfl,hw⟩;rw[hw];clear hw;go_wp2;go_ret;refine⟨by simp,?_⟩;simp only[Array.length_toList,Nat.sub_self,List.replicate_zero,List.append_nil,Array.toArray_toList];exact(putRow_self (Value.int .i64) X g 0 d HH.out).symm
 ·rw[e1] at hIF;have hk0:a.length<d.size:=by
   have:=congrArg List.length e0;simp at this;omega
  have hat:∀j,j<d.size→d[j]! = (a++x::r).getD j 0:=fun j hj=>by rw[←tl j hj,e0]
  have hkeep:∀j,j<a.length→kp j=true:=fun j hj=>by
   rw[HK.out];show(F d[j]!).isSome=true;rw[hat j (by omega)];have:(a++x::r).getD j 0=a[j]:=by simp[List.getD,List.getElem?_append_left hj,List.getElem?_eq_getElem hj]
   rw[this];have:=h2 a[j] (List.getElem_mem hj);simpa using this
  have hdrop:kp a.length=false:=by
   rw[HK.out];show(F d[a.length]!).isSome=false;rw[hat a.length hk0];have:(a++x::r).getD a.length 0=x:=by simp[List.getD]
   rw[this];simpa using h3
  have hne1:((a.length:Int) == -1)=false:=beq_eq_false_iff_ne.2 (by omega);have HC:=hide (show ∀(dk:Array Int) (u:Int),i64 u→Calls Tryz.prog 117 #[(.pointer (some ⟨Gp,0,none⟩)),.int .i64 u] (putRow (Value.int .i64) X g 0 dk) fun e w'=>e=.returned (.bool (!(F u).isSome))∧w'=putRow (Value.int .i64) X g 0 dk from fun dk u hu=>cisGone0 (c4 _ (grownBy_put dk)).1 (c4 _ (grownBy_put dk)).2 u hu);have HI:=hide (hIF);have HU:=hide (show ∀j,j<d.size→i64 d[j]! from fun j hj=>hi _ (by rw[getElem!_pos d j hj];simp));generalize a.length=k0 at *;clear hH hIF hfil tl hrefl c4 hat e0 h2 h3 e1 hi;go_enter Tryz.func116,Tryz.ntmps116;go_wp2_with fail
  refine HI.out.mono ?_;rintro e w1⟨rfl,hw⟩;rw[hw];clear hw;go_wp2_with fail
  go_loopw [5,6,7] (fun s5 s6 _ wr=>∃(i j:Nat) (dk:Array Int),s5=.int .i64 i∧s6=.int .i64 j∧j≤d.size∧wr=putRow (Value.int .i64) X g 0 dk∧Hid (KeptInv kp d j i dk)) (fun _ s6 _ _=>d.size-(intOf s6).toNat)
  case atStart=>exact⟨k0,k0+1,d,rfl,by go_num,by omega,(putRow_self (Value.int .i64) X g 0 d HH.out).symm,hide (KeptInv.start hkeep hdrop)⟩
  case round =>
   obtain⟨i,j,dk,rfl,rfl,hjd,hwr,I2⟩:=hrel;have hI:=I2.out;have hij:=hI.lt;have hds:=hI.size;have hHk:Holds (Value.int .i64) wr g 0 dk:=by rw[hwr];exact holds_putRow (Value.int .i64) _ g 0 d dk HH.out hds
   have W2:=hide (hwr);by_cases hlt:j<d.size
   ·have hltz:(j:Int)<(d.size:Int):=by omega
    obtain⟨cj,_⟩:=hHk j (by omega);obtain⟨ci,fi⟩:=hHk i (by omega);rw[hI.high j (by omega),Nat.zero_add] at cj;rw[Nat.zero_add] at ci fi;have hcall:=HC.out dk d[j]! (HU.out j hlt);rw[←hwr] at hcall;clear hHk hI hwr;generalize hu:d[j]! = u at cj hcall;generalize dk[i]! = old at ci;have C:=hide (hu);have HCL:=hide (hcall);clear hu hcall;cases hq:(F u).isSome with
    | true =>
     rw[hq] at HCL;go_wp2_with fail
     refine HCL.out.mono ?_;rintro e w1⟨rfl,hw⟩;rw[hw];clear hw;go_wp2_with fail
     go_roundw
     case rel =>
      refine⟨i+1,j+1,dk.setIfInBounds i u,by go_num,by go_num,by omega,?_,hide ?_⟩
      ·have:=putRow_set (Value.int .i64) X g 0 dk i u (by omega);rw[Nat.zero_add] at this;rw[W2.out,this]
      ·have:=I2.out.keep hlt (by rw[HK.out];show(F d[j]!).isSome=true;rw[C.out,hq])
       rwa [C.out] at this
     case measure=>simp[intOf];omega
    | false =>
     rw[hq] at HCL;go_wp2_with fail
     refine HCL.out.mono ?_;rintro e w1⟨rfl,hw⟩;rw[hw];clear hw;go_wp2_with fail
     go_roundw
     case rel=>exact⟨i,j+1,dk,rfl,by go_num,by omega,W2.out,hide (I2.out.skip (by rw[HK.out];show(F d[j]!).isSome=false;rw[C.out,hq]))⟩
     case measure=>simp[intOf];omega
   ·obtain rfl:j=d.size:=by omega
    have hltz:¬(d.size:Int)<(d.size:Int):=by omega
    have hcl:∀ty,(Builtin.clear_ #[36] ty #[.slice (some ⟨g,i,none⟩) (d.size-i) (cap-i)]).run Tryz.prog wr=.ok (.tuple #[]) (wr.setCells g i (List.replicate (d.size-i) (.int .i64 0))):=
     fun ty=>Lib.run_clear_slice wr _ _ ty _ Tryz.underlying36 zeroI2 rfl rfl g i _ _ (by omega) (fun t ht=>by have:=(hHk (i+t) (by omega)).1;rw[Nat.zero_add] at this;rw[this];rfl) (fun t ht=>by have:=(hHk (i+t) (by omega)).2;rw[Nat.zero_add] at this;exact this)
    have hci:(i:Int)≤(cap:Int):=by omega
    have hci2:(i:Int)≤(d.size:Int):=by omega
    clear hHk hI hwr;go_wp2;go_ret;have hI:=I2.out;refine⟨by rw[hI.len];rfl,?_⟩;have:=putRow_setCells (Value.int .i64) X g 0 (List.replicate (d.size-i) 0) dk i (by simp;omega);rw[Nat.zero_add] at this;rw[hI.len,←hI.done 0,←this,←W2.out,List.map_replicate]
theorem PP.iter (h:PP X B D Gp b P L S)(hg:X.grownBy Y (some r))(h1:∀cs t f,¬X.heap[r]?=some (.cells cs t f))(h2:∀es k,¬X.heap[r]?=some (.map es k)):PP Y B D Gp b P L S:=by
 obtain⟨k1,k2,k3,k4,k5,k6,k7,k8⟩:=h.kinds;have nC:∀{c:Nat} {t:TypeId},isC X c t→¬c=r:=fun hc e=>by obtain⟨cs,hc⟩:=hc;subst e;exact h1 _ _ _ hc
 have nM:∀{c:Nat},isM X c→¬c=r:=fun hc e=>by obtain⟨es,q,hc⟩:=hc;subst e;exact h2 _ _ hc
 have st:∀d,¬d=r→d<X.heap.size→Y.heap[d]?=X.heap[d]?:=fun d hd hl=>hg.block d hl (fun e=>by injection e with e;exact hd e)
 exact⟨(st _ (nC k1) h.lt).trans h.blk,h.log.other hg (fun cur e fz he=>absurd he (h1 _ _ _)) (nC k2) (nM k3) (nM k4),h.fmap.keep (st _ (nM k5) h.fmap.lt),h.chm.keep (st _ (nM k6) h.chm.lt),fun n f hf=>⟨(st _ (nC (k7 n f hf)) (h.fcells hf).2.2.2.2.2).trans (h.frs n f hf).1,(h.frs n f hf).2⟩,h.inj,row_keep h.ord fun g hg'=>st _ (nC (k8 g hg')) (h.rowblk hg').2.2,h.low,h.dif⟩
theorem ranges_iter {P':Program}{kt:TypeId}{R:Value→Option (DataW Unit×List MemPlace)}{bb cnt:Nat}{D':DataW Unit}(h:X.ranges P' kt R bb r n D' left cnt):(∀cs t f,¬X.heap[r]?=some (.cells cs t f))∧∀es k,¬X.heap[r]?=some (.map es k):=by
 obtain⟨es,clock,since,seen,c0,-,-,-,-,hr,-⟩:=h;exact⟨(fun cs t f e=>by rw[hr] at e;cases e),(fun es k e=>by rw[hr] at e;cases e)⟩
theorem cdelP (h:PP X B D Gp b P L S)(hl:P.order.length≤64)(hi:∀x∈P.order,i64 x):Calls Tryz.prog 116 #[b.vo,.func (.func 117) #[(.pointer (some ⟨Gp,0,none⟩))] #[]] X fun e w'=>∃a c,e=.returned (.slice a (P.order.filter fun x=>(P.fs x).isSome).length c)∧w'.ownsRow B 3 1 (.slice a (P.order.filter fun x=>(P.fs x).isSome).length c) (P.order.filter fun x=>(P.fs x).isSome).length ((P.order.filter fun x=>(P.fs x).isSome).map (Value.int .i64))∧X.grownBy w' b.vo.ownBlock∧(Value.slice a (P.order.filter fun x=>(P.fs x).isSome).length c).ownBlock=b.vo.ownBlock:=by
 by_cases he:P.order=[]
 ·obtain⟨a,c,hv⟩:=h.vo;have ho:=h.ord;rw[he] at hv ho ⊢;rw[hv] at ho ⊢;go_enter Tryz.func116,Tryz.ntmps116;go_wp2_with fail
  refine(cindexG0 _ a c X).mono ?_;rintro e w1⟨rfl,hw⟩;rw[hw];clear hw;go_wp2;go_ret;exact⟨a,c,rfl,ho,But.refl _ _,rfl⟩
 ·obtain⟨g,cap,e,h1,h2,h3,h4,h5⟩:=h.row he;have hg:b.vo.ownBlock=some g:=by rw[e];rfl
  have ho:=h.ord;rw[e] at ho;obtain⟨k1,k2,k3,k4,k5,k6,k7,k8⟩:=h.kinds;have:=cdelG (Gp:=Gp) (bF:=b.bF) (k:=65) (F:=fun n=>(P.fs n).map (·.blk)) (cap:=cap) P.order.toArray (fun W hW=>⟨by
    have hb:=(hW.block Gp h.lt (fun e=>by injection e with e;exact ne_CC (k8 g hg) k1 (by decide) e)).trans h.blk;simp[World.cell?,hb,poolC],h.fmap.keep (hW.block _ h.fmap.lt (fun e=>by injection e with e;exact ne_CM (k8 g hg) k5 e))⟩) h5 (by simp;omega) (by simpa using h3) (by simpa using hi)
  have hF:∀x,((P.fs x).map (·.blk)).isSome=(P.fs x).isSome:=fun x=>by cases P.fs x<;>rfl
  simp only[hF,List.size_toArray] at this;rw[e];refine this.mono ?_;rintro r w'⟨rfl,rfl⟩;generalize hll:(P.order.filter fun x=>(P.fs x).isSome)=l at *;have hlen:l.length≤P.order.length:=by rw[←hll];exact List.length_filter_le ..
  have hrow:=ownsRow_putRow (q:=0) (k:=l.length) (ys:=l++List.replicate (P.order.length-l.length) 0) ho (by simp;omega) hlen;rw[List.take_left' rfl,ahead_zero] at hrow;exact⟨_,cap,rfl,hrow,grownBy_put _,rfl⟩
def fsL (P:PS)(left:Lit→Bool):Int→Option FrP:=fun n=>if P.chg n=true∧left (.int .i64 n)=false then none else P.fs n
theorem fsL_next (hx:P.chg x=true):fsL P (fun z=>left z && !z.sameKey (.int .i64 x))=delR (fsL P left) x:=by
 funext n;unfold fsL delR;by_cases e:n=x
 ·subst e;simp[hx,Lit.sameKey]
 ·have:(Lit.int .i64 n).sameKey (.int .i64 x)=false:=sameKey_ne (fun h=>by injection h with _ h;exact e h);simp[this,e]
def fgP (P:PS):PS:={ P with fs:=fun n=>if P.chg n=true then none else P.fs n,order:=P.order.filter (fun n=>!P.chg n),chg:=fun _=>false }
theorem cforget (h:PP X B D Gp b P L S)(hB:B≤X.heap.size)(hl:P.order.length≤64)(hi:∀x∈P.order,i64 x∧(P.fs x).isSome=true)(hc:∀x,P.chg x=true→i64 x):Calls Tryz.prog 81 #[(.pointer (some ⟨Gp,0,none⟩))] X fun e w'=>∃b',e=.returned (.tuple #[])∧PP w' B D Gp b' (fgP P) L S∧BelP b.M b'.M B X w'∧b'.G=b.G∧b'.bp=b.bp∧b'.bf=b.bf:=by
 obtain⟨DU,hown,HKU⟩:=h.chm;have hbl:=hown.lt;have HKK:=hide (HKU);have HP:=hide (h);have HB0:=hide (hB);have HI:=hide (hi);have HCH:=hide (hc);have hmm:=@run_makeMap Tryz.prog;obtain⟨c0,c1,c2,c3,c4,c5,c6,c7,c8,c9⟩:=h.cells;clear h HKU c0 c1 c2 c3 c4 c5 c7 c8 c9 hi hc hB;go_enter Tryz.func81,Tryz.ntmps81;go_wp2_with (first
  | (at_range;refine wpList_range_own _ rfl _ 127 rfl 3 168 lawI Tryz.underlying127 _ b.bC 60000 _ rfl hown ?_;intro w0 hrg0 hg0 hs0)
  | go_in)
 try go_frame
 have hb0:Below X.heap.size X w0:=⟨hg0.os,hg0.tape,hg0.output,hg0.size,fun i hi=>hg0.block i hi (by simp)⟩;have HP0:=hide (show PP w0 B D Gp b { P with fs:=fsL P (Maps.has DU)} L S from by
  have hfs:fsL P (Maps.has DU)=P.fs:=by
   funext n;unfold fsL;rw[if_neg];rintro⟨k1,k2⟩;have:=HKK.out n (HCH.out n k1);rw[k2,k1] at this;cases this
  rw[hfs];exact HP.out.below hb0)
 have HBL0:=hide (show BelP b.M b.M B X w0 from below_belP hb0 HB0.out _);clear hg0 hb0
 go_loopw [2] (fun _ wr=>∃(left:Lit→Bool) (cnt:Nat),wr.ranges Tryz.prog 3 unitElem b.bC X.heap.size 60000 DU left cnt∧Hid (∀x,i64 x→left (.int .i64 x)=true→Maps.has DU (.int .i64 x)=true)∧Hid (PP wr B D Gp b { P with fs:=fsL P left } L S)∧Hid (BelP b.M b.M B X wr)) (fun _ wr=>wr.rangeLeft b.bC X.heap.size)
 case atStart=>exact⟨_,_,hrg0,hide (fun x _ h=>h),HP0,HBL0⟩
 case round =>
  obtain⟨left,cnt,hrg,HLF,HPr,HBr⟩:=hrel;clear hrg0 hs0 HP0 HBL0;go_wp2_with (first
   | (at_next;refine wpList_next_unit _ rfl _ rfl b.bC X.heap.size 60000 DU left cnt rfl hrg ?_ ?_)
   | go_in)
  ·intro hc0 hl0;have hPF:PP wr B D Gp b { P with fs:=fun n=>if P.chg n=true then none else P.fs n } L S:=by
    have:fsL P left=fun n=>if P.chg n=true then none else P.fs n:=by
     funext n;unfold fsL;rw[hl0];simp
    have h1:=HPr.out;rw[this] at h1;exact h1
   have HPF:=hide (hPF);have HDP:=hide (cdelP hPF hl (fun x hx=>(HI.out x hx).1));have hfil:(P.order.filter fun x=>(if P.chg x=true then none else P.fs x:Option FrP).isSome)=P.order.filter (fun n=>!P.chg n):=List.filter_congr fun x hx=>by
    have:=(HI.out x hx).2;cases hq:P.chg x<;>simp[this]
   dsimp only at HDP
   rw[hfil] at HDP;generalize hll:(P.order.filter fun n=>!P.chg n)=l at *;have HLL:=hide (hll);clear hll;obtain⟨d0,d1,d2,d3,d4,d5,d6,d7,d8,d9⟩:=hPF.cells;obtain⟨oa,oc,hvo⟩:=hPF.vo
   dsimp only at hvo
   rw[hvo] at d5;have HVO:=hide (hvo);rw[hvo] at HDP;have HLB:=hide (show B≤wr.heap.size from Nat.le_trans HB0.out HBr.out.size);clear hPF hfil d0 d1 d2 d3 d4 d7 d8 d9 hvo hrg HLF HPr;go_wp2_with fail
   refine HDP.out.mono ?_;rintro e w6⟨a6,c6,rfl,q1,q2,q3⟩;have hr:=HPF.out.reord (l:=l) HLB.out (by rw[HVO.out];exact q2) q1 (.inl (by rw[HVO.out];exact q3));have hbG:w6.heap[Gp]?=some (.cells (poolC b { P with fs:=fun n=>if P.chg n=true then none else P.fs n }) 131 (0,0)):=by
    refine(q2.block Gp HPF.out.lt (fun e=>?_)).trans HPF.out.blk;exact ne_CC (HPF.out.kinds.2.2.2.2.2.2.2 Gp (by rw[HVO.out];exact e.symm)) HPF.out.kinds.1 (by decide) rfl
   have x5:=hr.2.2.1;rw[HVO.out] at x5;have y5:=hr.2.2.2.1;have hGp:=hr.2.2.2.2;have x6:w6.cell? ⟨Gp,6,none⟩=some (.map (some b.bC)):=by simp[World.cell?,hbG,poolC]
   have y6:w6.frozen? ⟨Gp,6,none⟩=false:=by simp[World.frozen?,hbG]
   obtain⟨hp7,hb7⟩:=hr.1.newset (Nat.le_trans HLB.out hr.2.1.size);have hz5:(w6.setCell ⟨Gp,5,none⟩ (.slice a6 l.length c6)).heap.size=w6.heap.size:=by simp
   rw[World.setCell_alloc_past _ _ _ _ (by rw[hz5];exact hGp),hz5] at hp7 hb7;have HP7:=hide (hp7);have HB7:=hide (HBr.out.trans (hr.2.1.trans hb7));clear hr hp7 hb7 hz5 hbG q1 q2 q3 HDP d5 d6;go_wp2;go_end0;exact⟨_,rfl,by unfold fgP;rw[HLL.out];exact HP7.out,HB7.out,rfl,rfl,rfl⟩
  ·intro x w5 cnt1 hwx hlx hrg1 hlt hg1 hs1 hen;have HCX:=hide (show P.chg x=true by rw[←HKK.out x hwx];exact HLF.out x hwx hlx);have hP5:=HPr.out.iter hg1 (ranges_iter hrg).1 (ranges_iter hrg).2;obtain⟨Y,hrun,hM,hgY⟩:=hP5.fmap.drop (x:=x) hwx 0;have HPY:=hide (show PP Y B D Gp b { P with fs:=fsL P (fun z=>left z && !z.sameKey (.int .i64 x))} L S from by
    rw[fsL_next HCX.out];exact hP5.drop hgY hM)
   have HB5:=hide (show BelP b.M b.M B X Y from(HBr.out.other hg1 (Nat.le_refl _) HB0.out).trans (hP5.fmaps_bel hgY (Nat.le_trans HB0.out (Nat.le_trans HBr.out.size hg1.size))));have hrg2:=hrg1.kept hgY (fun e=>by injection e with e;exact hP5.dif.1 e.symm) (fun e=>by injection e with e;have:=HP.out.fmap.lt;omega);have HLF2:=hide (show ∀y,i64 y→(left (.int .i64 y) && !(Lit.int .i64 y).sameKey (.int .i64 x))=true→Maps.has DU (.int .i64 y)=true from fun y hy k=>HLF.out y hy (by simp at k;exact k.1));obtain⟨d0,d1,d2,d3,d4,d5,d6,d7,d8,d9⟩:=hP5.cells;clear hP5 hM hgY d0 d1 d2 d3 d5 d6 d7 d8 d9 hs1;go_wp2_with fail
   go_roundw
   case rel=>exact⟨_,cnt1,hrg2,HLF2,HPY,HB5⟩
   case measure=>rw[hrg2.left_eq,hrg.left_eq];exact hlt
theorem crollback (h:PO w B D Gp V C K pk m)(hm:m≤49000){frk:Nat}(hf:frk≤2147483647)(hK:K 0=some (pgB 4 frk)):Calls Tryz.prog 41 #[(.pointer (some ⟨Gp,0,none⟩))] w fun e w'=>∃V',PO w' B D Gp V' K K pk m∧St2 w w' B V V'∧V'.P.pages=pk∧((e=.returned (.int .i64 0)∧V'.P.free=frk)∨(e=.returned (.int .i64 2)∧V'.S.down=true)):=by
 obtain⟨c0,c1,c2,c3,c4,c5,c6,c7,c8,c9⟩:=h.pp.cells;obtain⟨oa,oc,hvo⟩:=h.pp.vo;rw[hvo] at c5;have HCN:=hide (ccontains h);rw[hvo] at HCN;have HP:=hide (h);have hpg:=h.pi.pg;have hmo:=h.pi.most;have HBK:=hide (cback w B D V.b.G V.b.bp V.b.bf 60000 V.L V.S h.pp.log h.lo);have HKK:=hide (hK);clear h c1 c2 c3 c4 c6 c7 c8 c9 hvo hK;go_enter Tryz.func41,Tryz.ntmps41;go_wp2_with fail
 refine HCN.out.mono ?_;rintro e w1⟨rfl,hw⟩;rw[hw];clear hw;go_wp2_with fail
 refine HBK.out.mono ?_;rintro e w2⟨rfl,hp2,hb2⟩;have hP2:PP w2 B D Gp V.b V.P (bkL V.L) V.S:=HP.out.pp.logs hb2 hp2;have HB2:=hide (HP.out.pp.belL hb2);have hr:=HP.out.pi.rng;have HFG:=hide (cforget hP2 (Nat.le_trans HP.out.lo HB2.out.size) (by omega) (fun x hx=>⟨by have:=hr x hx;exact i64_in (by omega) (by omega),(HP.out.pi.keys x).1 hx⟩) (fun x hx=>by have:=HP.out.pi.chr x hx;exact i64_in (by omega) (by omega)));clear hp2 hb2 hP2 HBK HCN hr;go_wp2_with fail
 refine HFG.out.mono ?_;rintro e w3⟨b',rfl,q1,q2,q3,q4,q5⟩;obtain⟨d0,d1,d2,d3,d4,d5,d6,d7,d8,d9⟩:=q1.cells;have z2:=q1.unfrozen 2;have hlst:(bkL V.L).last.pages=pk:=HP.out.pi.last;have HPG:=hide (cpages w3 B D b'.G b'.bp b'.bf 60000 (bkL V.L) V.S q1.log);rw[hlst] at HPG;have HQ1:=hide (q1);have HQ2:=hide (HB2.out.trans q2);have h4:PP (w3.setCell ⟨Gp,2,none⟩ (.int .i64 (pk:Int))) B D Gp b' { fgP V.P with pages:=pk } (bkL V.L) V.S:=q1.own rfl rfl rfl rfl;have hO4:PO (w3.setCell ⟨Gp,2,none⟩ (.int .i64 (pk:Int))) B D Gp ⟨b',{ fgP V.P with pages:=pk },bkL V.L,V.S,K⟩ K K pk m:=⟨h4,HP.out.pi.back,Nat.le_trans HP.out.lo (Nat.le_trans HQ2.out.size (set_grown w3 Gp 2 _).size)⟩;have HO4:=hide (hO4);have HS4:=hide (show St2 w (w3.setCell ⟨Gp,2,none⟩ (.int .i64 (pk:Int))) B V ⟨b',{ fgP V.P with pages:=pk },bkL V.L,V.S,K⟩ from⟨HQ2.out.trans (q1.own_bel 2 _ (Nat.le_trans HP.out.lo HQ2.out.size)),id⟩);have HOP:=hide (copened hO4 (by omega) 0 (by omega) (by show(0:Int)<(pk:Int);omega) (kd:=4) (lk:=frk) ⟨by decide,by decide⟩ hf HKK.out);clear q1 q2 q3 q4 q5 h4 hO4 HFG d1 d3 d4 d5 d6 d7 d8 d9 hlst c0 c5;generalize hW4:w3.setCell ⟨Gp,2,none⟩ (.int .i64 (pk:Int))=w4 at *;go_wp2_with fail
 refine HPG.out.mono ?_;rintro e w3⟨rfl,hw⟩;rw[hw];clear hw;go_wp2_with fail
 refine HOP.out.mono ?_;rintro e w5⟨V5,k1,k2,k3,k4,(⟨a,c,rfl⟩ | ⟨rfl,k5⟩)⟩
 ·have hp6:=(k1.below (show Below w5.heap.size w5 (w5.alloc (.cells #[.int .i64 4,.int .i64 frk,.slice a 0 c] 123)) from((Below.refl _ _).alloc (Nat.le_refl _) _)));obtain⟨e0,e1,e2,e3,e4,e5,e6,e7,e8,e9⟩:=k1.pp.cells;have z3:=k1.pp.unfrozen 3;have hG5:=k1.pp.lt;have hp7:PO ((w5.alloc (.cells #[.int .i64 4,.int .i64 frk,.slice a 0 c] 123)).setCell ⟨Gp,3,none⟩ (.int .i64 (frk:Int))) B D Gp ⟨V5.b,{ V5.P with free:=frk },V5.L,V5.S,V5.N⟩ K K pk m:=⟨hp6.1.pp.own rfl rfl rfl rfl,hp6.1.pi.stat _ _ _ _,Nat.le_trans hp6.1.lo (set_grown _ Gp 3 _).size⟩;have hs7:St2 w ((w5.alloc (.cells #[.int .i64 4,.int .i64 frk,.slice a 0 c] 123)).setCell ⟨Gp,3,none⟩ (.int .i64 (frk:Int))) B V ⟨V5.b,{ V5.P with free:=frk },V5.L,V5.S,V5.N⟩:=(HS4.out.trans (k2.trans hp6.2)).trans (⟨hp6.1.pp.own_bel 3 _ hp6.1.lo,id⟩:St2 _ _ B V5 ⟨V5.b,{ V5.P with free:=frk },V5.L,V5.S,V5.N⟩);rw[World.setCell_alloc_past _ _ _ _ hG5] at hp7 hs7;have HP7:=hide (hp7);have HS7:=hide (hs7);have HK:=hide (show V5.P.pages=pk from k3);clear k1 k2 k3 k4 hp6 hp7 hs7 HOP e0 e1 e2 e4 e5 e6 e7 e8 e9;go_wp2;go_ret;exact⟨_,HP7.out,HS7.out,HK.out,.inl ⟨rfl,rfl⟩⟩
 ·have HP5:=hide (k1);have HK:=hide (show St2 w w5 B V V5∧V5.P.pages=pk∧V5.S.down=true from⟨HS4.out.trans k2,k3,k5⟩);clear k1 k2 k3 k4 k5 HOP;go_wp2;go_ret;exact⟨V5,(HP5.out.below (((Below.refl _ _).alloc (Nat.le_refl _) _))).1,HK.out.1.trans (HP5.out.below (((Below.refl _ _).alloc (Nat.le_refl _) _))).2,HK.out.2.1,.inr ⟨rfl,HK.out.2.2⟩⟩
def newP (most pages free:Nat):PS:=⟨most,pages,free,fun _=>none,[],fun _=>false,0,0,0⟩
theorem PP.fresh {pages:Nat}(h:PL W B D G bp bf 60000 L S)(hB:B≤W.heap.size)(hY:Below W.heap.size W Y)(h1:W.heap.size≤Gp)(h2:W.heap.size≤bF)(h3:W.heap.size≤bC)(hne:¬bF=bC)(m1:Y.heap[bF]?=some (.map #[] 0))(m2:Y.heap[bC]?=some (.map #[] 0))(hb:Y.heap[Gp]?=some (.cells (poolC ⟨G,bp,bf,bF,bC,.slice none 0 0⟩ (newP most pages free)) 131 (0,0))):PP Y B D Gp ⟨G,bp,bf,bF,bC,.slice none 0 0⟩ (newP most pages free) L S:=by
 have a1:=h.mp.lt;have a2:=h.mf.lt;refine⟨hb,h.below hY,?_,?_,(fun n f hf=>by cases hf),(fun n n' f f' hf=>by cases hf),World.ownsRow_nil _ _ _ _,⟨by omega,by show B≤bF;omega,by show B≤bC;omega⟩,⟨hne,by show ¬bF=bp;omega,by show ¬bF=bf;omega,by show ¬bC=bp;omega,by show ¬bC=bf;omega⟩⟩
 ·exact⟨.map [],⟨#[],0,m1,⟨by simp,MapKept.stamped_empty 0,by simp⟩,Nat.zero_le _,rfl⟩,fun _ _=>⟨rfl,fun v h=>by cases h⟩⟩
 ·exact⟨.map [],⟨#[],0,m2,⟨by simp,MapKept.stamped_empty 0,by simp⟩,Nat.zero_le _,rfl⟩,fun _ _=>rfl⟩
theorem open_pack (h:PL w B D G bp bf 60000 L S)(hB:B≤w.heap.size)(o:Obj)(most pages free:Nat)(hbb:(bF=w.heap.size+1∧bC=w.heap.size+1+1)∨(bF=w.heap.size+1+1∧bC=w.heap.size+1)):PP ((((w.alloc o).alloc (.map #[] 0)).alloc (.map #[] 0)).alloc (.cells #[(.pointer (some ⟨G,0,none⟩)),.int .i64 (most:Int),.int .i64 (pages:Int),.int .i64 (free:Int),.map (some bF),.slice none 0 0,.map (some bC),.int .i64 0,.int .i64 0,.int .i64 0] 131)).drew B D (w.heap.size+1+1+1) ⟨G,bp,bf,bF,bC,.slice none 0 0⟩ (newP most pages free) L S∧Below w.heap.size w ((((w.alloc o).alloc (.map #[] 0)).alloc (.map #[] 0)).alloc (.cells #[(.pointer (some ⟨G,0,none⟩)),.int .i64 (most:Int),.int .i64 (pages:Int),.int .i64 (free:Int),.map (some bF),.slice none 0 0,.map (some bC),.int .i64 0,.int .i64 0,.int .i64 0] 131)).drew:=by
 generalize hpc:(Obj.cells #[(.pointer (some ⟨G,0,none⟩)),.int .i64 (most:Int),.int .i64 (pages:Int),.int .i64 (free:Int),.map (some bF),.slice none 0 0,.map (some bC),.int .i64 0,.int .i64 0,.int .i64 0] 131)=pc;have s1:(w.alloc o).heap.size=w.heap.size+1:=by simp
 have s2:((w.alloc o).alloc (.map #[] 0)).heap.size=w.heap.size+1+1:=by simp
 have s3:(((w.alloc o).alloc (.map #[] 0)).alloc (.map #[] 0)).heap.size=w.heap.size+1+1+1:=by simp
 have hb:Below w.heap.size w ((((w.alloc o).alloc (.map #[] 0)).alloc (.map #[] 0)).alloc pc).drew:=(((((Below.refl _ _).alloc (Nat.le_refl _) _).alloc (by omega) _).alloc (by omega) _).alloc (by omega) _).drew;have e1:((((w.alloc o).alloc (.map #[] 0)).alloc (.map #[] 0)).alloc pc).drew.heap[w.heap.size+1]?=some (.map #[] 0):=by
  show((((w.alloc o).alloc (.map #[] 0)).alloc (.map #[] 0)).alloc pc).heap[w.heap.size+1]?=_;rw[heap_alloc_old _ _ (by omega),heap_alloc_old _ _ (by omega),←s1];exact heap_alloc_new _ _
 have e2:((((w.alloc o).alloc (.map #[] 0)).alloc (.map #[] 0)).alloc pc).drew.heap[w.heap.size+1+1]?=some (.map #[] 0):=by
  show((((w.alloc o).alloc (.map #[] 0)).alloc (.map #[] 0)).alloc pc).heap[w.heap.size+1+1]?=_;rw[heap_alloc_old _ _ (by omega),←s2];exact heap_alloc_new _ _
 have e3:((((w.alloc o).alloc (.map #[] 0)).alloc (.map #[] 0)).alloc pc).drew.heap[w.heap.size+1+1+1]?=some pc:=by
  show((((w.alloc o).alloc (.map #[] 0)).alloc (.map #[] 0)).alloc pc).heap[w.heap.size+1+1+1]?=_;rw[←s3];exact heap_alloc_new _ _
 refine⟨PP.fresh h hB hb (by omega) (by omega) (by omega) (by omega) ?_ ?_ (by rw[e3,←hpc];rfl),hb⟩
 ·rcases hbb with⟨rfl,rfl⟩|⟨rfl,rfl⟩
  ·exact e1
  ·exact e2
 ·rcases hbb with⟨rfl,rfl⟩|⟨rfl,rfl⟩
  ·exact e2
  ·exact e1
theorem PI.fresh (hI:Inv L S F F j)(hj:j≤m)(hk:okS S k)(hk':k≤4*m+20)(hmo:8≤most∧most≤64)(hpg:1≤L.last.pages∧L.last.pages≤59000)(hkd:∀n:Int,0≤n→n<L.last.pages→∃t,F n=some t∧t.size=1024):PI (newP most L.last.pages free) L S F F F L.last.pages m:=by
 have hd:dct (newP most L.last.pages free)=0:=rfl;refine⟨⟨j,k,hI,by rw[hd];omega,hk,by rw[hd];omega⟩,List.nodup_nil,fun n=>?_,(fun n hn=>by cases hn),⟨Nat.zero_le _,hmo.1,hmo.2⟩,⟨hpg.1,Nat.le_refl _,hpg.2⟩,rfl,fun n n0 n1=>?_,(fun n f hf=>by cases hf),fun n _ n0 n1=>⟨n1,rfl,(fun f hf=>by cases hf)⟩,(fun n hn=>by cases hn),hkd⟩
 ·constructor
  ·intro k;cases k
  ·intro k;cases k
 ·obtain⟨t,h1,h2⟩:=hkd n n0 n1;exact⟨t,h1,h2,(fun f hf=>by cases hf),fun _=>h1⟩
theorem copenP {Z:Nat}{L0:LS}{S0:DS}(most:Nat)(hmo:8≤most∧most≤64)(hO:Calls Tryz.prog 7 #[(.pointer (some ⟨D,0,none⟩))] X fun e w'=>∃G bp bf,e=.returned (.tuple #[(.pointer (some ⟨G,0,none⟩)),.int .i64 0])∧PL w' B D G bp bf 60000 L0 S0∧Below Z X w')(hG:∀G bp bf W,PL W B D G bp bf 60000 L0 S0→B≤W.heap.size→Calls Tryz.prog 71 #[(.pointer (some ⟨G,0,none⟩))] W fun e w'=>e=.returned (.int .i64 0)∧PL w' B D G bp bf 60000 L S∧Below B W w'∧Below (min Z W.heap.size) W w')(hB:B≤X.heap.size)(hZ:Z≤X.heap.size)(hI:Inv L S F F j)(hj:j≤m)(hm:m≤60000)(hk:okS S k)(hk':k≤4*m+20)(hpg:1≤L.last.pages∧L.last.pages≤59000)(hkd:∀n:Int,0≤n→n<L.last.pages→∃t,F n=some t∧t.size=1024)(hf:fr≤2147483647)(hF:F 0=some (pgB 4 fr))(hd:S.down=false):Calls Tryz.prog 31 #[(.pointer (some ⟨D,0,none⟩)),.int .i64 (most:Int)] X fun e w'=>∃Gp V,e=.returned (.tuple #[(.pointer (some ⟨Gp,0,none⟩)),.int .i64 0])∧PO w' B D Gp V F F L.last.pages m∧V.S=S∧V.P.pages=L.last.pages∧V.P.free=fr∧Below Z X w':=by
 have HO:=hide (hO);have HG:=hide (hG);have HB:=hide (hB);have HZ:=hide (hZ);have HI:=hide (hI);have HPI:=hide (PI.fresh (most:=most) (free:=fr) hI hj hk hk' hmo hpg hkd);have HD:=hide (hd);have HF:=hide (hF);have m1:¬(most:Int)<8:=by omega
 have m2:¬(64:Int)<(most:Int):=by omega
 have hmm:=@run_makeMap Tryz.prog;clear hO hG hB hZ hI hk hkd hd hF;go_enter Tryz.func31,Tryz.ntmps31;go_wp2_with fail
 refine HO.out.mono ?_;rintro e w1⟨G,bp,bf,rfl,p1,b1⟩;have HB1:=hide (b1);have hB1:B≤w1.heap.size:=Nat.le_trans HB.out b1.size;have HBG:=hide (HG.out G bp bf w1 p1 hB1);clear p1 b1 HO HG;go_wp2_with fail
 refine HBG.out.mono ?_;rintro e w2⟨rfl,p2,b2,b3⟩;have HB2:=hide (show Below Z X w2 from HB1.out.trans (b3.mono (by have:=HB1.out.size;have:=HZ.out;omega)));have hB2:=hide (show B≤w2.heap.size from Nat.le_trans hB1 b2.size);have hrd:=rd_out HI.out (by omega) (by omega:0<60000) HF.out (p2.dsk.len 0 (by decide)) (p2.dsk.len 2 (by decide));have hrd:rdL L S 0=(pgB 4 fr,0):=hrd.resolve_right (fun k=>by rw[HD.out] at k;cases k.1);have HRD:=hide (creadL 0 w2 B D G bp bf 60000 L S p2 (HI.out.okp (by omega)) (HI.out.okf (by omega)));rw[hrd] at HRD;have HP2:=hide (p2);clear p2 b2 b3 hrd HBG HB1 hB1;go_wp2_with fail
 refine HRD.out.mono ?_;rintro e w3⟨rfl,b3⟩;have HP3:=hide (HP2.out.below b3);have HB3:=hide (HB2.out.trans (b3.mono (Nat.le_trans HZ.out (Nat.le_trans (Nat.le_refl _) (by have:=HB2.out.size;exact this)))));have hB3:=hide (show B≤w3.heap.size from Nat.le_trans hB2.out b3.size);clear b3 HRD HP2;go_wp2_with fail
 refine(copenB (K:=4) (Lk:=fr) ⟨by decide,by decide⟩ hf _).mono ?_;rintro e w4⟨⟨a,c,rfl⟩,b4⟩;have HP4:=hide (HP3.out.below b4);have HB4:=hide (HB3.out.trans (b4.mono (Nat.le_trans HZ.out (by have:=HB3.out.size;exact this))));have hB4:=hide (show B≤w4.heap.size from Nat.le_trans hB3.out b4.size);have HPG:=hide (fun(W:World) (hW:Below w4.heap.size w4 W)=>cpages W B D G bp bf 60000 L S (HP4.out.below hW));clear b4 HP3;go_wp2_with fail
 go_region_with (go_at_call 27;refine(HPG.out _ ?hb).mono ?_;(case hb=>first | exact(((Below.refl _ _).alloc (Nat.le_refl _) _)).drew | exact((((Below.refl _ _).alloc (Nat.le_refl _) _).alloc (by simp) _)).drew | exact(((((Below.refl _ _).alloc (Nat.le_refl _) _).alloc (by simp) _).alloc (by simp;omega) _)).drew | exact((Below.refl _ _).alloc (Nat.le_refl _) _) | exact(((Below.refl _ _).alloc (Nat.le_refl _) _).alloc (by simp) _) | exact((((Below.refl _ _).alloc (Nat.le_refl _) _).alloc (by simp) _).alloc (by simp;omega) _));rintro e w9⟨rfl,hw⟩;rw[hw];clear hw)
 all_goals
  go_wp2
  go_ret2
  first
  | exact⟨_,⟨⟨G,bp,bf,_,_,.slice none 0 0⟩,newP most L.last.pages fr,L,S,F⟩,rfl,⟨(open_pack HP4.out hB4.out _ most L.last.pages fr (.inl ⟨rfl,rfl⟩)).1,HPI.out,Nat.le_trans hB4.out (open_pack HP4.out hB4.out _ most L.last.pages fr (.inl ⟨rfl,rfl⟩)).2.size⟩,rfl,rfl,rfl,HB4.out.trans ((open_pack HP4.out hB4.out _ most L.last.pages fr (.inl ⟨rfl,rfl⟩)).2.mono (Nat.le_trans HZ.out HB4.out.size))⟩
  | exact⟨_,⟨⟨G,bp,bf,_,_,.slice none 0 0⟩,newP most L.last.pages fr,L,S,F⟩,rfl,⟨(open_pack HP4.out hB4.out _ most L.last.pages fr (.inr ⟨rfl,rfl⟩)).1,HPI.out,Nat.le_trans hB4.out (open_pack HP4.out hB4.out _ most L.last.pages fr (.inr ⟨rfl,rfl⟩)).2.size⟩,rfl,rfl,rfl,HB4.out.trans ((open_pack HP4.out hB4.out _ most L.last.pages fr (.inr ⟨rfl,rfl⟩)).2.mono (Nat.le_trans HZ.out HB4.out.size))⟩
theorem cbegin_old (h:PL W B D G bp bf n L S)(hp:1≤L.last.pages):Calls Tryz.prog 71 #[(.pointer (some ⟨G,0,none⟩))] W fun e w'=>e=.returned (.int .i64 0)∧w'=W:=by
 have hp':(0:Int)<(L.last.pages:Int):=by omega
 have HC:=hide (cpages W B D G bp bf n L S h);clear h;go_enter Tryz.func71,Tryz.ntmps71;go_wp2_with fail
 refine HC.out.mono ?_;rintro e w1⟨rfl,hw⟩;rw[hw];clear hw;go_wp2;go_ret;exact⟨rfl,rfl⟩
def L00:LS:=⟨⟨0,1,0,0⟩,0,fun _=>none,fun _=>none⟩
def K00:Pgs:=wth noP 0 (pgB 4 0)
theorem new_cm:∃L1 S1,cmL L00 newS ((0:Nat):Int) (pgB 4 0) ((1:Nat):Int)=(0,L1,S1)∧L1.last.pages=1∧Inv L1 S1 K00 K00 1∧NoF S1∧okS S1 8:=by
 have hn:NoF newS:=⟨rfl,rfl⟩;have hnf:=cmL_nf (L:=L00) hn ((0:Nat):Int) (pgB 4 0) ((1:Nat):Int);have hok:=cmL_ok (L:=L00) (S:=newS) (k:=4) ⟨⟨by decide,by decide⟩,by decide,by decide,by decide⟩ ((0:Nat):Int) (pgB 4 0) ((1:Nat):Int);rcases cm_out (n:=0) (pg:=1) inv_new (by omega) (by omega) (pgB_size 4 0) (by omega) (by omega) with⟨L1,S1,e1,d1,-⟩ | ⟨L1,S1,e1,d1,p1,I1⟩
 ·exfalso;have e1:cmL L00 newS ((0:Nat):Int) (pgB 4 0) ((1:Nat):Int)=(2,L1,S1):=e1;rw[e1] at hnf;have:=hnf.2;rw[d1] at this;cases this
 ·have e1:cmL L00 newS ((0:Nat):Int) (pgB 4 0) ((1:Nat):Int)=(0,L1,S1):=e1;rw[e1] at hnf hok;exact⟨L1,S1,e1,p1,I1,hnf,hok⟩
theorem cbegin_new (h:PL W B D G bp bf 60000 L00 newS)(hB:B≤W.heap.size){L1:LS}{S1:DS}(hc:cmL L00 newS ((0:Nat):Int) (pgB 4 0) ((1:Nat):Int)=(0,L1,S1))(hI:Inv L1 S1 K00 K00 1):Calls Tryz.prog 71 #[(.pointer (some ⟨G,0,none⟩))] W fun e w'=>e=.returned (.int .i64 0)∧PL w' B D G bp bf 60000 L1 S1∧Below B W w':=by
 have HC:=hide (cpages W B D G bp bf 60000 L00 newS h);have HP:=hide (h);have HB:=hide (hB);have HM:=hide (hc);have HI:=hide (hI);clear h hB hc hI;go_enter Tryz.func71,Tryz.ntmps71;go_wp2_with fail
 refine HC.out.mono ?_;rintro e w1⟨rfl,hw⟩;rw[hw];clear hw;have e0:((L00.last.pages:Nat):Int)=0:=rfl;rw[e0];go_wp2_with fail
 refine(csealB (K:=4) (Lk:=0) ⟨by decide,by decide⟩ (by decide) none 0 _).mono ?_;rintro e w2⟨rfl,b2⟩;have HP2:=hide (HP.out.below b2);have HB2:=hide (show B≤w2.heap.size from Nat.le_trans HB.out b2.size);have HBW:=hide (show Below B W w2 from b2.mono HB.out);have HCM:=hide (ccommit ((0:Nat):Int) (pgB 4 0) ((1:Nat):Int) w2 B D G bp bf 60000 4 L00 newS HP2.out HB2.out (by decide) ⟨⟨by decide,by decide⟩,by decide,by decide,by decide⟩ (by decide) (by decide) inv_new.pre.tp.ok);rw[HM.out] at HCM;clear b2;go_wp2_with fail
 refine HCM.out.mono ?_;rintro e w3⟨rfl,p3,b3⟩;have HP3:=hide (p3.small HI.out.pos HI.out.posF);have HB3:=hide (HBW.out.trans b3.toBelow);clear p3 b3 HCM;go_wp2;go_ret;exact⟨rfl,HP3.out,HB3.out⟩
theorem copen_first (h:PDs X B D newD)(hB:B≤X.heap.size):Calls Tryz.prog 31 #[(.pointer (some ⟨D,0,none⟩)),.int .i64 8] X fun e w'=>∃Gp V,e=.returned (.tuple #[(.pointer (some ⟨Gp,0,none⟩)),.int .i64 0])∧PO w' B D Gp V K00 K00 1 1∧NoF V.S∧V.P.pages=1∧V.P.free=0∧Below B X w':=by
 obtain⟨L1,S1,hc,p1,hI,hnf,hok⟩:=new_cm;obtain⟨T1,T2,T3,hS⟩:=beg_new;have:=copenP (X:=X) (B:=B) (D:=D) (Z:=B) (L0:=L00) (L:=L1) (S0:=newS) (S:=S1) (F:=K00) (j:=1) (k:=8) (m:=1) (fr:=0) 8 ⟨by decide,by decide⟩
  ((copen_new X B D 0 newD T1 T2 T3 newS h hB ⟨⟨by decide,by decide⟩,by decide,by decide,by decide⟩ (by decide) rfl new_last 0 rfl hS).mono (by
   rintro e w'⟨G,bp,bf,rfl,hL,hb⟩;exact⟨G,bp,bf,rfl,hL.mono (by omega),hb.toBelow⟩))
  (fun G bp bf W hW hBW=>(cbegin_new hW hBW hc hI).mono (by
   rintro e w'⟨rfl,hL,hb⟩;exact⟨rfl,hL,hb,hb.mono (by omega)⟩))
  hB hB hI (Nat.le_refl _) (by decide) hok (by decide) ⟨by omega,by omega⟩ (fun n n0 n1=>⟨pgB 4 0,by
   have:n=0:=by omega
   subst this;exact wth_at _ _ _,pgB_size _ _⟩) (by decide) (wth_at _ _ _) hnf.2
 refine this.mono ?_;rintro e w'⟨Gp,V,rfl,q1,q2,q3,q4,q5⟩;rw[p1] at q1 q3;exact⟨Gp,V,rfl,q1,by rw[q2];exact hnf,q3,q4,q5⟩
theorem copen_again {c:Cm}(h:PDs X B D S)(hB:B≤X.heap.size)(hG:GoodS { S with left:=-1 } F c)(hd:S.down=false)(hfm:c.frames≤m)(hm:m≤60000)(hk:okS S k)(hk':k≤4*m+20)(hpg:1≤c.pages∧c.pages≤59000)(hkd:∀n:Int,0≤n→n<c.pages→∃t,F n=some t∧t.size=1024)(hf:fr≤2147483647)(hF:F 0=some (pgB 4 fr)):Calls Tryz.prog 31 #[(.pointer (some ⟨D,0,none⟩)),.int .i64 8] X fun e w'=>∃Gp V,e=.returned (.tuple #[(.pointer (some ⟨Gp,0,none⟩)),.int .i64 0])∧PO w' B D Gp V F F c.pages m∧V.S=S∧V.P.pages=c.pages∧V.P.free=fr∧Below X.heap.size X w':=by
 obtain⟨hI,hl⟩:=good_inv hG;have hI:Inv (opnL (S.lb 2)) S F F c.frames:=hI.same rfl rfl;have hl:(opnL (S.lb 2)).last=c:=hl;have hlc:lastC (S.lb 2)=c:=hl;have hnum:=hG.tp.number;have:=copenP (X:=X) (B:=B) (D:=D) (Z:=X.heap.size) (L0:=opnL (S.lb 2)) (L:=opnL (S.lb 2)) (S0:=S) (S:=S) (F:=F) (j:=c.frames) (k:=k) (m:=m) (fr:=fr) 8 ⟨by decide,by decide⟩
  ((copen X B D S h hB hd (by rw[hlc];omega)).mono (by
   rintro e w'⟨G,bp,bf,rfl,hL,hb⟩;exact⟨G,bp,bf,rfl,(hL.small hI.pos hI.posF),hb⟩))
  (fun G bp bf W hW hBW=>(cbegin_old hW (by rw[hl];exact hpg.1)).mono (by
   rintro e w'⟨rfl,rfl⟩;exact⟨rfl,hW,Below.refl _ _,Below.refl _ _⟩))
  hB (Nat.le_refl _) hI hfm hm hk hk' (by rw[hl];exact hpg) (by rw[hl];exact hkd) hf hF hd
 rw[hl] at this;exact this
end Go.Proofs.YtfjkockcgddgbaaGreat
