/- a part -/
import Derived.Test.YtfjkockcgddgbaaGreatP13
set_option maxRecDepth 100000
set_option maxHeartbeats 8000000
namespace Go.Proofs.YtfjkockcgddgbaaGreat
open Go.RowKit Go.Lib Go.Maps
variable {w w' X w6 w7:World}{b a:Nat×Nat}{n B D Gp mb nm pk m fr pg c kb nb nn q frk mK p:Nat}{V V':PV}{T C K C' TN TK:Pgs}{u s:ByteArray}{cs:Array Value}{t:TypeId}{S':DS}
attribute [local go_sem ↓] Go.wp_at_zero Go.wp_at_succ
theorem MS.keepP {b:Nat}(h:MS w b n T)(hb:¬b∈V.b.M)(hs:St2 w w' B V V'):MS w' b n T∧¬b∈V'.b.M:=
 ⟨h.keep (hs.bel.far b h.lt (h.far tyQ) hb),fun k=>(hs.bel.maps b k).elim hb (fun k=>by have:=h.lt;omega)⟩
def agree (C T:Pgs)(pg:Nat):Prop:=∀(x:Int) (t:ByteArray),1≤x→x<pg→T x=some t→C x=some t
def readPost (w:World)(B D Gp:Nat)(V:PV)(C K T:Pgs)(pk m:Nat)(e:Ending)(w':World):Prop:=∃V' r,e=.returned (.bool r)∧PO w' B D Gp V' C K pk m∧St2 w w' B V V'∧V'.P.pages=V.P.pages∧V'.P.free=V.P.free∧(agree C T V.P.pages→r=false→V'.S.down=true)∧(NoF V.S→r=true→agree C T V.P.pages)
theorem kread (h:PO w B D Gp V C K pk m)(hm:m≤50000)(hT:MS w mb nm T)(hb:¬mb∈V.b.M):Calls Tryz.prog 42 #[(.pointer (some ⟨Gp,0,none⟩)),.agg #[.int .i64 (V.P.pages:Int),.map (some mb)]] w fun e w'=>readPost w B D Gp V C K T pk m e w':=by
 have hb1:Below w.heap.size w (w.alloc (.cells #[.int .i64 (V.P.pages:Int),.map (some mb)] 66)):=((Below.refl _ _).alloc (Nat.le_refl _) _);obtain⟨p1,s1⟩:=h.below hb1;have hpg:=h.pi.pg;have HP1:=hide (p1);have HS1:=hide (s1);have HT1:=hide (hT.keepP hb s1);have HX1:=hide (show(w.alloc (.cells #[.int .i64 (V.P.pages:Int),.map (some mb)] 66)).heap[w.heap.size]?=some (.cells #[.int .i64 (V.P.pages:Int),.map (some mb)] 66 (0,0)) from heap_alloc_new _ _);clear h hT hb p1 s1 hb1;go_enter Tryz.func42,Tryz.ntmps42;go_wp2_with fail
 go_loopw [5] (fun u wr=>∃(i:Nat) (Vi:PV),u=.int .i64 (i:Int)∧1≤i∧i≤V.P.pages∧Hid (PO wr B D Gp Vi C K pk m)∧Hid (St2 w wr B V Vi)∧Hid (Vi.P.pages=V.P.pages∧Vi.P.free=V.P.free∧(NoF V.S→∀(x:Int) (t:ByteArray),1≤x→x<i→T x=some t→C x=some t))∧Hid (MS wr mb nm T∧¬mb∈Vi.b.M)∧Hid (wr.heap[w.heap.size]?=some (.cells #[.int .i64 (V.P.pages:Int),.map (some mb)] 66 (0,0)))) (fun u _=>V.P.pages-(intOf u).toNat)
 case atStart=>exact⟨1,V,rfl,Nat.le_refl _,by omega,HP1,HS1,hide ⟨rfl,rfl,fun _ x t h1 h2=>by omega⟩,HT1,HX1⟩
 case round =>
  clear HP1 HS1 HT1 HX1;obtain⟨i,Vi,rfl,hi1,hi2,HPi,HSi,HKi,HTi,HXi⟩:=hrel;have x0:wr.cell? ⟨w.heap.size,0,none⟩=some (.int .i64 (V.P.pages:Int)):=by simp[World.cell?,HXi.out]
  have x1:wr.cell? ⟨w.heap.size,1,none⟩=some (.map (some mb)):=by simp[World.cell?,HXi.out]
  by_cases hlt:i<V.P.pages
  ·have hlt':(i:Int)<(V.P.pages:Int):=by omega
   have hik:i64 (i:Int):=i64_in (by omega) (by omega);have hlk:=HTi.out.1.look hik;have HR:=hide (creadP HPi.out hm (i:Int) (by omega) (by have:=HKi.out.1;omega));cases hTi:T (i:Int) with
   | none =>
    simp only[hTi,Option.getD_none,Option.isSome_none] at hlk;have HTN:=hide (hTi);clear hTi;go_wp2_with fail
    refine HR.out.mono ?_;rintro e w2⟨V2,k1,k2,k3,k4,hres⟩;have HP2:=hide (k1);have HS2:=hide (HSi.out.trans k2);have HK2:=hide (show V2.P.pages=V.P.pages∧V2.P.free=V.P.free from⟨by rw[k3];exact HKi.out.1,by rw[k4];exact HKi.out.2.1⟩);have HT2:=hide (HTi.out.1.keepP HTi.out.2 k2);have HX2:=hide (HPi.out.stay k2 HXi.out (by decide));clear k1 k2 k3 k4 HR;rcases hres with⟨t,ht,rfl⟩ | ⟨rfl,hdn⟩
    ·go_wp2_with fail
     go_roundw
     case rel=>exact⟨i+1,V2,by go_num,by omega,by omega,HP2,HS2,hide ⟨HK2.out.1,HK2.out.2,fun hn x t h1 h2 h3=>by
      by_cases e:x=(i:Int)
      ·rw[e,HTN.out] at h3;cases h3
      ·exact HKi.out.2.2 hn x t h1 (by omega) h3⟩,HT2,HX2⟩
     case measure=>simp[intOf];omega
    ·go_wp2_with fail
     go_roundw
     case rel=>exact⟨i+1,V2,by go_num,by omega,by omega,HP2,HS2,hide ⟨HK2.out.1,HK2.out.2,fun hn x t h1 h2 h3=>by
      by_cases e:x=(i:Int)
      ·rw[e,HTN.out] at h3;cases h3
      ·exact HKi.out.2.2 hn x t h1 (by omega) h3⟩,HT2,HX2⟩
     case measure=>simp[intOf];omega
   | some u =>
    simp only[hTi,Option.getD_some,Option.isSome_some] at hlk;have HTU:=hide (hTi);clear hTi;go_wp2_with fail
    refine HR.out.mono ?_;rintro e w2⟨V2,k1,k2,k3,k4,hres⟩;have HP2:=hide (k1);have HS2:=hide (HSi.out.trans k2);have HK2:=hide (show V2.P.pages=V.P.pages∧V2.P.free=V.P.free from⟨by rw[k3];exact HKi.out.1,by rw[k4];exact HKi.out.2.1⟩);have HT2:=hide (HTi.out.1.keepP HTi.out.2 k2);have HX2:=hide (HPi.out.stay k2 HXi.out (by decide));clear k1 k2 k3 k4 HR;rcases hres with⟨t,ht,rfl⟩ | ⟨rfl,hdn⟩
    ·by_cases htu:t=u
     ·subst htu;have HCT:=hide (ht);clear ht;go_wp2_with fail
      go_roundw
      case rel=>exact⟨i+1,V2,by go_num,by omega,by omega,HP2,HS2,hide ⟨HK2.out.1,HK2.out.2,fun hn x t' h1 h2 h3=>by
       by_cases e:x=(i:Int)
       ·rw[e,HTU.out] at h3;rw[e,HCT.out];exact h3
       ·exact HKi.out.2.2 hn x t' h1 (by omega) h3⟩,HT2,HX2⟩
      case measure=>simp[intOf];omega
     ·have hne:=str_neq htu;have hne2:¬t=u:=htu;have HBAD:=hide (show agree C T V.P.pages→False from fun ha=>by
       have:=ha (i:Int) u (by omega) hlt' HTU.out;rw[ht] at this;injection this with this;exact htu this)
      clear ht;go_wp2;go_ret;unfold readPost;exact⟨V2,false,rfl,HP2.out,HS2.out,HK2.out.1,HK2.out.2,fun ha _=>(HBAD.out ha).elim,fun _ h=>by cases h⟩
    ·have HDN:=hide (hdn);clear hdn;go_wp2;go_ret;unfold readPost;exact⟨V2,false,rfl,HP2.out,HS2.out,HK2.out.1,HK2.out.2,fun _ _=>HDN.out,fun _ h=>by cases h⟩
  ·have hlt':¬(i:Int)<(V.P.pages:Int):=by omega
   go_wp2;go_ret;unfold readPost;exact⟨Vi,true,rfl,HPi.out,HSi.out,HKi.out.1,HKi.out.2.1,(fun _ h=>by cases h),fun hn _ x t h1 h2 h3=>HKi.out.2.2 hn x t h1 (by omega) h3⟩
def wout (F:Pgs)(n:Int):Pgs:=fun x=>if x=n then none else F x
def woutL (F:Pgs)(n:Int)(left:Lit→Bool):Pgs:=fun x=>if x=n then none else if left (.int .i64 x)=true then none else F x
theorem cwithoutK (b N:Nat)(F:Pgs)(n:Int)(X:World)(h:MS X b N F)(hN:N≤100000)(hF:∀x v,F x=some v→v.size≤1048576):Calls Tryz.prog 38 #[.map (some b),.int .i64 n] X fun e w'=>e=.returned (.map (some X.heap.size))∧MS w' X.heap.size N (wout F n)∧Below X.heap.size X w':=by
 obtain⟨DF,hown,HK⟩:=h;have hbl:=hown.lt;have HKK:Hid _:=HK;have hmm:=@run_makeMap Tryz.prog;have hsz:=hown.size_le;clear HK;go_enter Tryz.func38,Tryz.ntmps38;have hownY:(X.alloc (.map #[] 0)).ownsMap Tryz.prog 3 (plainElem Tryz.prog 9) b N DF:=hown.alloc _;have HBY:Hid (Below X.heap.size X (X.alloc (.map #[] 0))):=hide (((Below.refl _ _).alloc (Nat.le_refl _) _));have HMY:Hid (MS (X.alloc (.map #[] 0)) X.heap.size 0 (fun _=>none)):=MS.made X;have hszY:(X.alloc (.map #[] 0)).heap.size=X.heap.size+1:=by simp
 generalize hY:X.alloc (.map #[] 0)=Y at *;have HSZ:=hide (hszY);clear hszY;go_wp2_with (first
  | (at_range;refine wpList_range_own _ rfl _ 64 rfl 3 9 lawI Tryz.underlying64 _ b N _ rfl hownY ?_;intro w0 hrg0 hg0 hs0)
  | go_in)
 try go_frame
 have HM0:Hid (MS w0 X.heap.size 0 (woutL F n (Maps.has DF))):=by
  refine MS.congr (HMY.out.keep (hg0.block _ HMY.out.lt (by simp))) (fun x hx=>?_);have k:=(HKK.out x hx).1;unfold woutL;by_cases e:x=n
  ·rw[if_pos e]
  ·rw[if_neg e];cases hq:F x with
   | none=>split<;>rfl
   | some v=>rw[k,hq];rfl
 have HB0:Hid (Below X.heap.size X w0):=HBY.out.trans (Below.mono ⟨hg0.os,hg0.tape,hg0.output,hg0.size,fun i hi=>hg0.block i hi (by simp)⟩ (by have:=HSZ.out;omega));clear hg0 hs0 hmm HMY HBY
 go_loopw [6] (fun _ wr=>∃(left:Lit→Bool) (cnt M:Nat),wr.ranges Tryz.prog 3 (plainElem Tryz.prog 9) b Y.heap.size N DF left cnt∧M+cnt≤N∧Hid (∀x,i64 x→left (.int .i64 x)=true→Maps.has DF (.int .i64 x)=true)∧Hid (MS wr X.heap.size M (woutL F n left))∧Hid (Below X.heap.size X wr)) (fun _ wr=>wr.rangeLeft b Y.heap.size)
 case atStart=>exact⟨_,_,0,hrg0,by omega,fun x _ h=>h,HM0,HB0⟩
 case round =>
  obtain⟨left,cnt,M,hrg,hM,HLF,HMr,HBr⟩:=hrel;have hne1:¬Y.heap.size=X.heap.size:=by have:=HSZ.out;omega
  have hlt1:X.heap.size<Y.heap.size:=by have:=HSZ.out;omega
  have HLT1:=hide (hlt1);clear hlt1;go_wp2_with (first
   | (at_next;refine wpList_next_ranges_is _ rfl _ rfl 3 9 .i64 lawI Tryz.underlying3 Tryz.underlying9 b Y.heap.size N _ _ _ rfl hrg ?_ ?_)
   | go_in)
  ·intro hc0 hl0;go_wp2;go_ret;refine⟨rfl,(HMr.out.mono (by omega)).congr (fun x _=>?_),HBr.out⟩;unfold wout woutL;rw[hl0,if_neg (show ¬(false=true) by decide)]
  ·intro x c w5 cnt1 hwx hwc hlx hat hrg1 hlt hg1 hs1 hen;have HX:Hid (F x=some c):=by
    show F x=some c;have k:=HKK.out x hwx;rw[HLF.out x hwx hlx] at k;cases hq:F x with
    | none=>rw[hq] at k;cases k.1
    | some v =>
     have:=(k.2 v hq .nil).symm.trans (hat .nil);simp at this;exact congrArg some (ll_inj (by unfold ll;rw[this]))
   have HM5:Hid (MS w5 X.heap.size M (woutL F n left)):=HMr.out.keep (hg1.block _ HMr.out.lt (fun e=>by injection e with e;exact hne1 e.symm));have HB5:Hid (Below X.heap.size X w5):=⟨hg1.os.trans HBr.out.os,hg1.tape.trans HBr.out.tape,hg1.output.trans HBr.out.output,Nat.le_trans HBr.out.size hg1.size,fun i hi=>(hg1.block i (Nat.lt_of_lt_of_le hi HBr.out.size) (fun e=>by injection e with e;have:=HLT1.out;omega)).trans (HBr.out.block i hi)⟩;by_cases hxn:x=n
   ·subst hxn;have HS:Hid (MS w5 X.heap.size M (woutL F x (fun z=>left z && !z.sameKey (.int .i64 x)))):=HM5.out.congr (fun y _=>by
     unfold woutL;by_cases e:y=x
     ·rw[if_pos e,if_pos e]
     ·rw[if_neg e,if_neg e];have:(Lit.int .i64 y).sameKey (.int .i64 x)=false:=sameKey_ne (fun h=>by injection h with _ h;exact e h);show(if(left (.int .i64 y) && !(Lit.int .i64 y).sameKey (.int .i64 x))=true then none else F y)=_;rw[this,Bool.not_false,Bool.and_true])
    go_wp2
    go_roundw
    case rel=>exact⟨_,cnt1,M,hrg1,by omega,fun y hy h=>HLF.out y hy (by simp at h;exact h.1),HS,HB5⟩
    case measure=>rw[hrg1.left_eq,hrg.left_eq];exact hlt
   ·have hxn':(x != n)=true:=by simpa using hxn
    obtain⟨Z,hrun,hMZ,hgZ⟩:=HM5.out.put (by omega) hwx (hF x c HX.out);have HS:Hid (MS Z X.heap.size (M+1) (woutL F n (fun z=>left z && !z.sameKey (.int .i64 x)))):=hMZ.congr (fun y _=>by
     unfold woutL updS;by_cases e:y=x
     ·rw[if_pos e,if_neg (by rw[e];exact hxn),e,HX.out];exact if_neg (by simp[Lit.sameKey])
     ·rw[if_neg e];have:(Lit.int .i64 y).sameKey (.int .i64 x)=false:=sameKey_ne (fun h=>by injection h with _ h;exact e h);show(if y=n then none else if(left (.int .i64 y) && !(Lit.int .i64 y).sameKey (.int .i64 x))=true then none else F y)=_;rw[this,Bool.not_false,Bool.and_true])
    have hrg2:=hrg1.kept hgZ (fun e=>by injection e with e;omega) (fun e=>by injection e with e;exact hne1 e);have HBZ:Hid (Below X.heap.size X Z):=⟨hgZ.os.trans HB5.out.os,hgZ.tape.trans HB5.out.tape,hgZ.output.trans HB5.out.output,Nat.le_trans HB5.out.size hgZ.size,fun i hi=>(hgZ.block i (Nat.lt_of_lt_of_le hi HB5.out.size) (fun e=>by injection e with e;omega)).trans (HB5.out.block i hi)⟩;clear hMZ hgZ;go_wp2
    go_roundw
    case rel=>exact⟨_,cnt1,M+1,hrg2,by omega,fun y hy h=>HLF.out y hy (by simp at h;exact h.1),HS,HBZ⟩
    case measure=>rw[hrg2.left_eq,hrg.left_eq];exact hlt
def Ch (C:Pgs):Nat→List Nat→Prop
 | fr,[]=>fr=0
 | fr,x::l=>fr=x∧∃nx:Nat,C (x:Int)=some (pgB 3 nx)∧Ch C nx l
theorem Ch.congr:∀{l:List Nat} {fr:Nat},Ch C fr l→(∀x∈l,C' (x:Int)=C (x:Int))→Ch C' fr l
 | [],_,h,_=>h
 | x::l,fr,⟨h1,nx,h2,h3⟩,h=>⟨h1,nx,by rw[h x (List.mem_cons_self ..)];exact h2,Ch.congr h3 (fun y hy=>h y (List.mem_cons_of_mem _ hy))⟩
structure FL (C:Pgs) (pg fr:Nat) (T:Pgs):Prop where
 zero:C 0=some (pgB 4 fr)
 ch:∃l:List Nat,Ch C fr l∧l.Nodup∧∀x∈l,1≤x∧x<pg∧T (x:Int)=none
 tx:∀(x:Int) (t:ByteArray),T x=some t→1≤x∧x<pg∧C x=some t∧t.size=1024
theorem Ch.head {l:List Nat}(h:Ch C fr l)(hb:∀x∈l,1≤x∧x<60000):fr<60000∧(fr=0↔l=[]):=by
 cases l with
 | nil=>exact⟨by have:fr=0:=h;omega,fun _=>rfl,fun _=>h⟩
 | cons x l =>
  have:=hb x (List.mem_cons_self ..);have h1:=h.1;exact⟨by omega,fun k=>by omega,fun k=>by cases k⟩
theorem FL.small (h:FL C pg fr T)(hp:pg≤59000):fr≤2147483647:=by
 obtain⟨l,h1,h2,h3⟩:=h.ch;have:=(h1.head (fun x hx=>by have:=h3 x hx;omega)).1;omega
theorem FL.congr (h:FL C pg fr T)(hp:1≤pg)(he:∀n:Int,0≤n→n<pg→C' n=C n):FL C' pg fr T:=by
 obtain⟨l,h1,h2,h3⟩:=h.ch;exact⟨by rw[he 0 (by omega) (by omega)];exact h.zero,⟨l,h1.congr (fun x hx=>he x (by omega) (by have:=h3 x hx;omega)),h2,h3⟩,fun x t ht=>by
  obtain⟨a,b,c,d⟩:=h.tx x t ht;exact⟨a,b,by rw[he x (by omega) b];exact c,d⟩⟩
theorem FL.agree (h:FL C pg fr T)(q:Nat):agree C T q:=fun x t _ _ ht=>(h.tx x t ht).2.2.1
theorem FL.write (h:FL C pg fr T){n:Int}(hn:T n=some u)(hs:s.size=1024):FL (wth C n s) pg fr (wth T n s):=by
 obtain⟨a,b,c,d⟩:=h.tx n u hn;obtain⟨l,h1,h2,h3⟩:=h.ch;have hl:∀x∈l,¬(x:Int)=n:=fun x hx e=>by have:=(h3 x hx).2.2;rw[e,hn] at this;cases this
 refine⟨by rw[wth_ne _ _ (by omega)];exact h.zero,⟨l,h1.congr (fun x hx=>wth_ne _ _ (hl x hx)),h2,fun x hx=>⟨(h3 x hx).1,(h3 x hx).2.1,by rw[wth_ne _ _ (hl x hx)];exact(h3 x hx).2.2⟩⟩,fun x t ht=>?_⟩;by_cases e:x=n
 ·subst e;rw[wth_at] at ht ⊢;injection ht with ht;subst ht;exact⟨a,b,rfl,hs⟩
 ·rw[wth_ne _ _ e] at ht ⊢;exact h.tx x t ht
theorem FL.free (h:FL C pg fr T)(hn:T (n:Int)=some u):FL (wth (wth C n (pgB 3 fr)) 0 (pgB 4 n)) pg n (wout T n):=by
 obtain⟨a,b,c,d⟩:=h.tx n u hn;obtain⟨l,h1,h2,h3⟩:=h.ch;have hl:∀x∈l,¬(x:Int)=n:=fun x hx e=>by have:=(h3 x hx).2.2;rw[e,hn] at this;cases this
 have hnl:¬n∈l:=fun k=>hl n k rfl
 refine⟨wth_at _ _ _,⟨n::l,⟨rfl,fr,by rw[wth_ne _ _ (by omega),wth_at],h1.congr (fun x hx=>by rw[wth_ne _ _ (by have:=h3 x hx;omega),wth_ne _ _ (hl x hx)])⟩,List.nodup_cons.2 ⟨hnl,h2⟩,fun x hx=>?_⟩,fun x t ht=>?_⟩
 ·rcases List.mem_cons.1 hx with rfl|hx
  ·exact⟨by omega,by omega,by unfold wout;rw[if_pos rfl]⟩
  ·exact⟨(h3 x hx).1,(h3 x hx).2.1,by unfold wout;rw[if_neg (hl x hx)];exact(h3 x hx).2.2⟩
 ·unfold wout at ht;by_cases e:x=(n:Int)
  ·rw[if_pos e] at ht;cases ht
  ·rw[if_neg e] at ht;obtain⟨a',b',c',d'⟩:=h.tx x t ht;exact⟨a',b',by rw[wth_ne _ _ (by omega),wth_ne _ _ e];exact c',d'⟩
theorem FL.pop (h:FL C pg fr T)(hp:pg≤59000)(hf:¬fr=0):∃nx,C (fr:Int)=some (pgB 3 nx)∧nx≤2147483647∧1≤fr∧fr<pg∧∀s:ByteArray,s.size=1024→FL (wth (wth (wth C 0 (pgB 4 nx)) fr (pgB 3 0)) fr s) pg nx (wth T fr s):=by
 obtain⟨l,h1,h2,h3⟩:=h.ch;cases l with
 | nil=>exact absurd h1 hf
 | cons x l =>
  obtain⟨rfl,nx,c1,c2⟩:=h1;obtain⟨n1,n2⟩:=List.nodup_cons.1 h2;have hx:=h3 fr (List.mem_cons_self ..);have h3':∀y∈l,1≤y∧y<pg∧T (y:Int)=none:=fun y hy=>h3 y (List.mem_cons_of_mem _ hy)
  have hnx:=(c2.head (fun y hy=>by have:=h3' y hy;omega)).1;have hne:∀y∈l,¬(y:Int)=(fr:Int):=fun y hy e=>n1 (by have:y=fr:=(by omega);rw[←this];exact hy)
  refine⟨nx,c1,by omega,hx.1,hx.2.1,fun s hs=>⟨by rw[wth_ne _ _ (by omega),wth_ne _ _ (by omega),wth_at],⟨l,c2.congr (fun y hy=>by rw[wth_ne _ _ (hne y hy),wth_ne _ _ (hne y hy),wth_ne _ _ (by have:=h3' y hy;omega)]),n2,fun y hy=>⟨(h3' y hy).1,(h3' y hy).2.1,by rw[wth_ne _ _ (hne y hy)];exact(h3' y hy).2.2⟩⟩,fun y t ht=>?_⟩⟩;by_cases e:y=(fr:Int)
  ·subst e;rw[wth_at] at ht ⊢;injection ht with ht;subst ht;exact⟨by omega,by omega,rfl,hs⟩
  ·rw[wth_ne _ _ e] at ht;obtain⟨a',b',c',d'⟩:=h.tx y t ht;exact⟨a',b',by rw[wth_ne _ _ e,wth_ne _ _ e,wth_ne _ _ (by omega)];exact c',d'⟩
theorem FL.grow (h:FL C pg 0 T)(hp:pg≤59000)(hp1:1≤pg)(hs:s.size=1024):FL (wth (wth C pg (pgB 3 0)) pg s) (pg+1) 0 (wth T pg s):=by
 obtain⟨l,h1,h2,h3⟩:=h.ch;have hl:l=[]:=(h1.head (fun x hx=>by have:=h3 x hx;omega)).2.1 rfl;subst hl;refine⟨by rw[wth_ne _ _ (by omega),wth_ne _ _ (by omega)];exact h.zero,⟨[],rfl,List.nodup_nil,(fun x hx=>by cases hx)⟩,fun y t ht=>?_⟩;by_cases e:y=(pg:Int)
 ·subst e;rw[wth_at] at ht ⊢;injection ht with ht;subst ht;exact⟨by omega,by omega,rfl,hs⟩
 ·rw[wth_ne _ _ e] at ht;obtain⟨a',b',c',d'⟩:=h.tx y t ht;exact⟨a',by omega,by rw[wth_ne _ _ e,wth_ne _ _ e];exact c',d'⟩
theorem FL.first:FL K00 1 0 noP:=by
 unfold K00;exact⟨wth_at _ _ _,⟨[],rfl,List.nodup_nil,(fun x hx=>by cases hx)⟩,(fun x t ht=>by cases ht)⟩
def shC (a:Nat×Nat):Array Value:=#[.int .i64 (a.1:Int),.map (some a.2)]
structure Sh3 (w:World) (kb nb mb:Nat) (a b c:Nat×Nat):Prop where
 k:w.heap[kb]?=some (.cells (shC a) 66 (0,0))
 n:w.heap[nb]?=some (.cells (shC b) 66 (0,0))
 m:w.heap[mb]?=some (.cells (shC c) 66 (0,0))
 d:¬kb=nb∧¬kb=mb∧¬nb=mb
theorem sh_cells (h:w.heap[c]?=some (.cells (shC a) 66 (0,0))):w.cell? ⟨c,0,none⟩=some (.int .i64 (a.1:Int))∧w.cell? ⟨c,1,none⟩=some (.map (some a.2))∧w.frozen? ⟨c,0,none⟩=false∧w.frozen? ⟨c,1,none⟩=false∧c<w.heap.size:=by
 refine⟨?_,?_,?_,?_,(Array.getElem?_eq_some_iff.1 h).1⟩
 ·simp[World.cell?,h,shC]
 ·simp[World.cell?,h,shC]
 ·simp[World.frozen?,h]
 ·simp[World.frozen?,h]
def set2 (w:World)(c:Nat)(a:Nat×Nat):World:=(w.setCell ⟨c,0,none⟩ (.int .i64 (a.1:Int))).setCell ⟨c,1,none⟩ (.map (some a.2))
theorem set2_grown (w:World)(c:Nat)(a:Nat×Nat):w.grownBy (set2 w c a) (some c):=((But.refl w (some c)).set 0 _).set 1 _
theorem set2_blk (h:w.heap[c]?=some (.cells (shC b) 66 (0,0))):(set2 w c a).heap[c]?=some (.cells (shC a) 66 (0,0)):=by
 unfold set2;rw[set_blk (set_blk h)];rfl
theorem set1_blk {x:Nat}(h:w.heap[c]?=some (.cells (shC b) 66 (0,0))):(w.setCell ⟨c,1,none⟩ (.map (some x))).heap[c]?=some (.cells (shC (b.1,x)) 66 (0,0)):=by
 rw[set_blk h];rfl
theorem other_blk {d:Nat}{o:Obj}(hg:w.grownBy w' (some c))(h:w.heap[d]?=some o)(hn:¬d=c):w'.heap[d]?=some o:=(hg.block d (Array.getElem?_eq_some_iff.1 h).1 (fun e=>by injection e with e;exact hn e)).trans h
theorem MS.other {b:Nat}(h:MS w b n T)(hg:w.grownBy w' (some c))(hc:w.heap[c]?=some (.cells cs t (0,0))):MS w' b n T:=by
 obtain⟨es,k,hm⟩:=h.isMap;refine h.keep (hg.block b h.lt (fun e=>?_));injection e with e;subst e;rw[hm] at hc;cases hc
theorem PO.stayB {M':List Nat}(h:PO w B D Gp V C K pk m)(hs:BelP V.b.M M' B w w')(hc:w.heap[c]?=some (.cells cs t (0,0)))(ht:tyQ t=false):w'.heap[c]?=some (.cells cs t (0,0)):=by
 obtain⟨k1,k2,k3,k4,k5,k6,k7,k8⟩:=h.pp.kinds;refine(hs.far c (Array.getElem?_eq_some_iff.1 hc).1 (fun cur e fz he=>?_) (fun hm=>?_)).trans hc
 ·rw[hc] at he;injection he with he;injection he with _ he _;rw[←he];exact ht
 ·simp only[Bk.M,List.mem_cons,List.not_mem_nil,or_false] at hm;rcases hm with rfl | rfl | rfl | rfl
  ·exact ne_CM ⟨_,hc⟩ k3 rfl
  ·exact ne_CM ⟨_,hc⟩ k4 rfl
  ·exact ne_CM ⟨_,hc⟩ k5 rfl
  ·exact ne_CM ⟨_,hc⟩ k6 rfl
structure LWr (X w:World) (D Gp kb nb mb m:Nat) (V:PV) (C K TN TK:Pgs) (pk nn:Nat) (a b c:Nat×Nat):Prop where
 po:PO w X.heap.size D Gp V C K pk m
 sh:Sh3 w kb nb mb a b c
 tn:MS w b.2 nn TN
 tk:MS w a.2 nn TK
 dn:¬b.2∈V.b.M
 dk:¬a.2∈V.b.M
 bel:Below X.heap.size X w
 ge:X.heap.size≤kb∧X.heap.size≤nb∧X.heap.size≤mb
section
variable {m':Nat}{K':Pgs}{pk':Nat}{c:Nat×Nat}
theorem LWr.below (h:LWr X w D Gp kb nb mb m V C K TN TK pk nn a b c)(hb:Below w.heap.size w w'):LWr X w' D Gp kb nb mb m V C K TN TK pk nn a b c:=by
 have s:∀{d:Nat} {o:Obj},w.heap[d]?=some o→w'.heap[d]?=some o:=fun hd=>(hb.block _ (Array.getElem?_eq_some_iff.1 hd).1).trans hd
 exact⟨(h.po.below hb).1,⟨s h.sh.k,s h.sh.n,s h.sh.m,h.sh.d⟩,h.tn.keep (hb.block _ h.tn.lt),h.tk.keep (hb.block _ h.tk.lt),h.dn,h.dk,h.bel.trans (hb.mono h.bel.size),h.ge⟩
theorem LWr.step (h:LWr X w D Gp kb nb mb m V C K TN TK pk nn a b c)(hs:St2 w w' X.heap.size V V')(po:PO w' X.heap.size D Gp V' C' K' pk' m'):LWr X w' D Gp kb nb mb m' V' C' K' TN TK pk' nn a b c:=by
 obtain⟨n1,n2⟩:=h.tn.keepP h.dn hs;obtain⟨k1,k2⟩:=h.tk.keepP h.dk hs;exact⟨po,⟨h.po.stay hs h.sh.k (by decide),h.po.stay hs h.sh.n (by decide),h.po.stay hs h.sh.m (by decide),h.sh.d⟩,n1,k1,n2,k2,h.bel.trans hs.bel.toBelow,h.ge⟩
theorem LWr.up (h:LWr X w D Gp kb nb mb m V C K TN TK pk nn a b c)(hq:nn≤q)(hm:m≤m'):LWr X w D Gp kb nb mb m' V C K TN TK pk q a b c:=⟨h.po.mono hm,h.sh,h.tn.mono hq,h.tk.mono hq,h.dn,h.dk,h.bel,h.ge⟩
theorem bel_set {c:Nat}(h:Below X.heap.size X w)(hg:w.grownBy w' (some c))(hc:X.heap.size≤c):Below X.heap.size X w':=h.trans ⟨hg.os,hg.tape,hg.output,hg.size,fun i hi=>hg.block i (Nat.lt_of_lt_of_le hi h.size) (fun e=>by injection e with e;omega)⟩
theorem LWr.setM (h:LWr X w D Gp kb nb mb m V C K TN TK pk nn a b c)(v:Nat×Nat):LWr X (set2 w mb v) D Gp kb nb mb m V C K TN TK pk nn a b v:=by
 have hg:=set2_grown w mb v;exact⟨h.po.other hg ⟨_,h.sh.m⟩ (by decide),⟨other_blk hg h.sh.k h.sh.d.2.1,other_blk hg h.sh.n h.sh.d.2.2,set2_blk h.sh.m,h.sh.d⟩,h.tn.other hg h.sh.m,h.tk.other hg h.sh.m,h.dn,h.dk,bel_set h.bel hg h.ge.2.2,h.ge⟩
theorem LWr.setN (h:LWr X w D Gp kb nb mb m V C K TN TK pk nn a b c)(v:Nat×Nat)(hT:MS w v.2 nn T)(hv:¬v.2∈V.b.M):LWr X (set2 w nb v) D Gp kb nb mb m V C K T TK pk nn a v c:=by
 have hg:=set2_grown w nb v;exact⟨h.po.other hg ⟨_,h.sh.n⟩ (by decide),⟨other_blk hg h.sh.k h.sh.d.1,set2_blk h.sh.n,other_blk hg h.sh.m (fun e=>h.sh.d.2.2 e.symm),h.sh.d⟩,hT.other hg h.sh.n,h.tk.other hg h.sh.n,hv,h.dk,bel_set h.bel hg h.ge.2.1,h.ge⟩
theorem LWr.setN1 (h:LWr X w D Gp kb nb mb m V C K TN TK pk nn a b c)(x:Nat)(hT:MS w x nn T)(hv:¬x∈V.b.M):LWr X (w.setCell ⟨nb,1,none⟩ (.map (some x))) D Gp kb nb mb m V C K T TK pk nn a (b.1,x) c:=by
 have hg:=set_grown w nb 1 (.map (some x));exact⟨h.po.other hg ⟨_,h.sh.n⟩ (by decide),⟨other_blk hg h.sh.k h.sh.d.1,set1_blk h.sh.n,other_blk hg h.sh.m (fun e=>h.sh.d.2.2 e.symm),h.sh.d⟩,hT.other hg h.sh.n,h.tk.other hg h.sh.n,hv,h.dk,bel_set h.bel hg h.ge.2.1,h.ge⟩
theorem LWr.setK (h:LWr X w D Gp kb nb mb m V C K TN TK pk nn a b c):LWr X (set2 w kb b) D Gp kb nb mb m V C K TN TN pk nn b b c:=by
 have hg:=set2_grown w kb b;exact⟨h.po.other hg ⟨_,h.sh.k⟩ (by decide),⟨set2_blk h.sh.k,other_blk hg h.sh.n (fun e=>h.sh.d.1 e.symm),other_blk hg h.sh.m (fun e=>h.sh.d.2.1 e.symm),h.sh.d⟩,h.tn.other hg h.sh.k,h.tn.other hg h.sh.k,h.dn,h.dn,bel_set h.bel hg h.ge.1,h.ge⟩
end
theorem PP.disk {Y:World}{b:Bk}{P:PS}{L:LS}{S:DS}(h:PP X B D Gp b P L S)(hb:BelT tyP B X Y)(hd:PDs Y B D S'):PP Y B D Gp b P L S':=h.logs (hb.log _ _ _) (h.log.disk hb hd)
theorem PO.fail (h:PO w B D Gp V C K pk m){n:Int}(hn:0≤n∧n<1000)(hb:BelT tyP B w w')(hd:PDs w' B D { V.S with left:=n }):PO w' B D Gp ⟨V.b,V.P,V.L,{ V.S with left:=n },V.N⟩ C K pk m:=by
 obtain⟨j,k,h1,h2,h3,h4⟩:=h.pi.inv;exact⟨h.pp.disk hb hd,⟨⟨j,k,h1.same rfl rfl,h2,⟨⟨by show _≤n;omega,by show n≤_;omega⟩,h3.2.1,h3.2.2.1,h3.2.2.2⟩,h4⟩,h.pi.nd,h.pi.keys,h.pi.rng,h.pi.most,h.pi.pg,h.pi.last,h.pi.cur,h.pi.clean,h.pi.chg,h.pi.chr,h.pi.kd⟩,Nat.le_trans h.lo hb.size⟩
def kdP (K:Pgs)(pk:Nat):Prop:=∀n:Int,0≤n→n<pk→∃t,K n=some t∧t.size=1024
def AfL (X w:World)(D kb mb:Nat)(S:DS):Prop:=∃(K M TK TM:Pgs) (frk frm nn:Nat) (a c:Nat×Nat),PDs w X.heap.size D S∧okS S 100000∧CrOr S K a.1 M c.1 1000∧(FL K a.1 frk TK∧kdP K a.1∧1≤a.1∧a.1≤59000)∧(FL M c.1 frm TM∧kdP M c.1∧1≤c.1∧c.1≤59000)∧(w.heap[kb]?=some (.cells (shC a) 66 (0,0))∧w.heap[mb]?=some (.cells (shC c) 66 (0,0)))∧(MS w a.2 nn TK∧MS w c.2 nn TM)∧Below X.heap.size X w
theorem LWr.after (h:LWr X w D Gp kb nb mb m V C K TN TK pk nn (pk,mK) b (pk,mK))(hf:FL K pk frk TK)(hm:m≤1000):AfL X w D kb mb V.S:=
 ⟨K,K,TK,TK,frk,frk,nn,(pk,mK),(pk,mK),h.po.pp.log.dsk,h.po.okd (by omega),(h.po.crash.or _ _).more (by omega),⟨hf,h.po.pi.kd,h.po.pi.pg.1,by have:=h.po.pi.pg;show pk≤59000;omega⟩,⟨hf,h.po.pi.kd,h.po.pi.pg.1,by have:=h.po.pi.pg;show pk≤59000;omega⟩,⟨h.sh.k,h.sh.m⟩,⟨h.tk,h.tk⟩,h.bel⟩
theorem LWr.lost {mN:Nat}(h:LWr X w D Gp kb nb mb m V C K TN TK pk nn (pk,mK) (V.P.pages,mN) (V.P.pages,mN))(hf:FL K pk frk TK)(hc:FL C V.P.pages V.P.free TN)(ha:AfP w w' X.heap.size D V C K pk S'):AfL X w' D kb mb S':=by
 obtain⟨K2,cr,he⟩:=ha.ex;obtain⟨M',hb⟩:=ha.bel;have hpg:=h.po.pi.pg;have stm:∀{q n:Nat} {T:Pgs},MS w q n T→¬q∈V.b.M→MS w' q n T:=fun hq hm=>hq.keep (hb.far _ hq.lt (hq.far tyQ) hm)
 exact⟨K,K2,TK,TN,frk,V.P.free,nn,(pk,mK),(V.P.pages,mN),ha.ds,ha.ok,cr,⟨hf,h.po.pi.kd,hpg.1,by show pk≤59000;omega⟩,⟨hc.congr (by omega) he,fun n n0 n1=>by
   obtain⟨t,c1,c2,-⟩:=h.po.pi.cur n n0 n1;exact⟨t,by rw[he n n0 n1];exact c1,c2⟩,by show 1≤V.P.pages;omega,hpg.2.2⟩,⟨h.po.stayB hb h.sh.k (by decide),h.po.stayB hb h.sh.m (by decide)⟩,⟨stm h.tk h.dk,stm h.tn h.dn⟩,h.bel.trans hb.toBelow⟩
def KeepO (w w':World):Prop:=∀(e:Nat) (cs:Array Value) (t:TypeId),w.heap[e]?=some (.cells cs t (0,0))→tyQ t=false→w'.heap[e]?=some (.cells cs t (0,0))
theorem PO.keepO (h:PO w B D Gp V C K pk m)(hs:St2 w w' B V V'):KeepO w w':=fun _ _ _ hc ht=>h.stay hs hc ht
theorem PO.mlt (h:PO w B D Gp V C K pk m):∀x∈V.b.M,x<w.heap.size:=fun x hx=>by
 obtain⟨k1,k2,k3,k4,k5,k6,k7,k8⟩:=h.pp.kinds;have:isM w x:=by
  simp only[Bk.M,List.mem_cons,List.not_mem_nil,or_false] at hx;rcases hx with rfl | rfl | rfl | rfl
  ·exact k3
  ·exact k4
  ·exact k5
  ·exact k6
 obtain⟨es,q,hq⟩:=this;exact(Array.getElem?_eq_some_iff.1 hq).1
theorem LWr.with2 {c:Nat×Nat}(h:LWr X w D Gp kb nb mb m V C K TN TK pk nn a b c)(h6:Below w.heap.size w w6)(h7:Below w6.heap.size w6 w7)(hM:MS w7 w6.heap.size (nn+1) T)(p:Nat):LWr X (set2 w7 nb (p,w6.heap.size)) D Gp kb nb mb m V C K T TK pk (nn+1) a (p,w6.heap.size) c:=
 (((h.below h6).below h7).up (Nat.le_succ nn) (Nat.le_refl m)).setN (p,w6.heap.size) hM (fun k=>by have:=h.po.mlt _ k;have:=h6.size;omega)
theorem LWr.with1 {n7:Nat}{c:Nat×Nat}(h:LWr X w D Gp kb nb mb m V C K TN TK pk nn a b c)(h6:Below w.heap.size w w6)(h7:Below w6.heap.size w6 w7)(hM:MS w7 w6.heap.size n7 T)(hn:n7≤nn+1):LWr X (w7.setCell ⟨nb,1,none⟩ (.map (some w6.heap.size))) D Gp kb nb mb m V C K T TK pk (nn+1) a (b.1,w6.heap.size) c:=
 (((h.below h6).below h7).up (Nat.le_succ nn) (Nat.le_refl m)).setN1 w6.heap.size (hM.mono hn) (fun k=>by have:=h.po.mlt _ k;have:=h6.size;omega)
section
variable {c:Nat×Nat}
theorem kalloc (h:LWr X w D Gp kb nb mb m V C K TN TK pk nn a b c)(hf:FL C V.P.pages V.P.free TN)(hm:m≤40000)(hp:V.P.pages<58000):Calls Tryz.prog 34 #[(.pointer (some ⟨Gp,0,none⟩))] w fun e w'=>(∃(n:Nat) (V':PV) (C':Pgs),e=.returned (.tuple #[.int .i64 (n:Int),.int .i64 0])∧LWr X w' D Gp kb nb mb (m+2) V' C' K TN TK pk nn a b c∧1≤n∧n≤V.P.pages∧n<V'.P.pages∧V'.P.pages=max V.P.pages (n+1)∧KeepO w w'∧∀s:ByteArray,s.size=1024→FL (wth C' n s) V'.P.pages V'.P.free (wth TN n s))∨(∃V' C',e=.returned (.tuple #[.int .i64 0,.int .i64 2])∧V'.S.down=true∧LWr X w' D Gp kb nb mb (m+2) V' C' K TN TK pk nn a b c):=by
 have hpg:=h.po.pi.pg;by_cases h0:V.P.free=0
 ·refine(calloc_new h.po (by omega) (by omega) h0).mono ?_;rintro e w'⟨V',k1,k2,(⟨rfl,k3,k4⟩ | ⟨rfl,k3,k4⟩)⟩
  ·refine .inl ⟨V.P.pages,V',_,rfl,h.step k1 (k4.mono (by omega)),by omega,by omega,by omega,by omega,h.po.keepO k1,fun s hs=>?_⟩;rw[k3,k2,h0];rw[h0] at hf;exact hf.grow (by omega) (by omega) hs
  ·exact .inr ⟨V',_,rfl,k3,h.step k1 (k4.mono (by omega))⟩
 ·obtain⟨nx,c1,c2,c3,c4,c5⟩:=hf.pop (by omega) h0;refine(calloc_old h.po (by omega) (by omega) c4 c2 c1 hf.zero).mono ?_;rintro e w'⟨V',C',k1,k2,k3,(⟨rfl,k4,rfl⟩ | ⟨rfl,k4⟩)⟩
  ·refine .inl ⟨V.P.free,V',_,rfl,h.step k1 k3,c3,by omega,by omega,by omega,h.po.keepO k1,fun s hs=>?_⟩;rw[k2,k4];exact c5 s hs
  ·exact .inr ⟨V',C',rfl,k4,h.step k1 k3⟩
theorem kwrite (h:LWr X w D Gp kb nb mb m V C K TN TK pk nn a b c)(hm:m≤40000)(n:Nat)(n0:1≤n)(n1:n<V.P.pages)(s:ByteArray)(hs:s.size=1024):Calls Tryz.prog 37 #[(.pointer (some ⟨Gp,0,none⟩)),.int .i64 (n:Int),.string s] w fun e w'=>(∃V',e=.returned (.int .i64 0)∧LWr X w' D Gp kb nb mb (m+1) V' (wth C n s) K TN TK pk nn a b c∧V'.P.pages=V.P.pages∧V'.P.free=V.P.free)∨(∃V',e=.returned (.int .i64 2)∧V'.S.down=true∧LWr X w' D Gp kb nb mb (m+1) V' C K TN TK pk nn a b c):=by
 refine(cwriteP h.po (by omega) (n:Int) (by omega) (by omega) s hs).mono ?_;rintro e w'⟨V',k1,k2,k3,(⟨rfl,k4⟩ | ⟨rfl,k4,k5⟩)⟩
 ·exact .inl ⟨V',rfl,h.step k1 k4,k2,k3⟩
 ·exact .inr ⟨V',rfl,k4,h.step k1 (k5.mono (by omega))⟩
theorem kfree (h:LWr X w D Gp kb nb mb m V C K TN TK pk nn a b c)(hf:FL C V.P.pages V.P.free T)(hm:m≤40000)(n:Nat)(n0:1≤n)(n1:n<V.P.pages):Calls Tryz.prog 39 #[(.pointer (some ⟨Gp,0,none⟩)),.int .i64 (n:Int)] w fun e w'=>(∃V',e=.returned (.int .i64 0)∧LWr X w' D Gp kb nb mb (m+2) V' (wth (wth C n (pgB 3 V.P.free)) 0 (pgB 4 n)) K TN TK pk nn a b c∧V'.P.pages=V.P.pages∧V'.P.free=n)∨(∃V' C',e=.returned (.int .i64 2)∧V'.S.down=true∧LWr X w' D Gp kb nb mb (m+2) V' C' K TN TK pk nn a b c):=by
 have hpg:=h.po.pi.pg;refine(cfree h.po (by omega) n (by omega) n1 (hf.small (by omega)) hf.zero).mono ?_;rintro e w'⟨V',C',k1,k2,k3,(⟨rfl,k4,rfl⟩ | ⟨rfl,k4⟩)⟩
 ·exact .inl ⟨V',rfl,h.step k1 k3,k2,k4⟩
 ·exact .inr ⟨V',C',rfl,k4,h.step k1 k3⟩
theorem kcommitP (h:LWr X w D Gp kb nb mb m V C K TN TK pk nn a b c)(hm:m≤990):Calls Tryz.prog 40 #[(.pointer (some ⟨Gp,0,none⟩))] w fun e w'=>(∃V' K',e=.returned (.int .i64 0)∧LWr X w' D Gp kb nb mb (m+1) V' C K' TN TK V.P.pages nn a b c∧V'.P.pages=V.P.pages∧V'.P.free=V.P.free∧∀n:Int,0≤n→n<V.P.pages→K' n=C n)∨(∃S',e=.returned (.int .i64 2)∧AfP w w' X.heap.size D V C K pk S'):=by
 refine(ccommitP h.po hm).mono ?_;rintro e w' (⟨V',K',rfl,k1,k2,k3,k4,k5⟩ | ⟨S',rfl,-,k1⟩)
 ·exact .inl ⟨V',K',rfl,h.step k2 k1,k3,k4,k5⟩
 ·exact .inr ⟨S',rfl,k1⟩
theorem krollback (h:LWr X w D Gp kb nb mb m V C K TN TK pk nn a b c)(hf:FL K pk frk T)(hm:m≤40000):Calls Tryz.prog 41 #[(.pointer (some ⟨Gp,0,none⟩))] w fun e w'=>∃V',LWr X w' D Gp kb nb mb m V' K K TN TK pk nn a b c∧V'.P.pages=pk∧((e=.returned (.int .i64 0)∧V'.P.free=frk)∨(e=.returned (.int .i64 2)∧V'.S.down=true)):=by
 have hpg:=h.po.pi.pg;refine(crollback h.po (by omega) (hf.small (by omega)) hf.zero).mono ?_;rintro e w'⟨V',k1,k2,k3,k4⟩;exact⟨V',h.step k2 k1,k3,k4⟩
end
theorem PO.mge (h:PO w B D Gp V C K pk m):∀x∈V.b.M,B≤x:=fun x hx=>by
 have h1:=h.pp.low;have h2:=h.pp.log.low;simp only[Bk.M,List.mem_cons,List.not_mem_nil,or_false] at hx;rcases hx with rfl | rfl | rfl | rfl
 ·exact h2.2.1
 ·exact h2.2.2
 ·exact h1.2.1
 ·exact h1.2.2
theorem cpagesP (h:PO w B D Gp V C K pk m)(hp:V.P.pages=p):Calls Tryz.prog 44 #[(.pointer (some ⟨Gp,0,none⟩))] w fun e w'=>e=.returned (.int .i64 (p:Int))∧w'=w:=by
 obtain⟨c0,c1,c2,c3,c4,c5,c6,c7,c8,c9⟩:=h.pp.cells;rw[hp] at c2;clear h;go_enter Tryz.func44,Tryz.ntmps44;go_wp2_with fail
 go_ret;exact⟨rfl,rfl⟩
theorem kreadN (h:PO w B D Gp V C K pk m)(hm:m≤50000)(hn:NoF V.S)(hT:MS w q nm T)(hb:q<B)(hp:V.P.pages=p)(r:Bool)(hr:r=true↔agree C T p):Calls Tryz.prog 42 #[(.pointer (some ⟨Gp,0,none⟩)),.agg #[.int .i64 (p:Int),.map (some q)]] w fun e w'=>e=.returned (.bool r)∧∃V',PO w' B D Gp V' C K pk m∧NoF V'.S∧V'.P.pages=p∧Below B w w':=by
 subst hp;refine(kread h hm hT (fun k=>by have:=h.mge _ k;omega)).mono ?_;intro e w' hpost;obtain⟨V',r',rfl,p1,p2,p3,p4,p5,p6⟩:=hpost;have hnf:=p2.nf hn;have:r'=r:=by
  cases r with
  | true =>
   cases r' with
   | true=>rfl
   | false=>have:=p5 (hr.1 rfl) rfl;rw[hnf.2] at this;cases this
  | false =>
   cases r' with
   | false=>rfl
   | true=>have:=hr.2 (p6 hn rfl);cases this
 subst this;exact⟨rfl,V',p1,hnf,p3,p2.bel.toBelow⟩
def LpP (X w:World)(D Gp kb nb mb i:Nat):Prop:=∃(V:PV) (C K TN TK:Pgs) (pk frk mN mK:Nat),LWr X w D Gp kb nb mb (3*i+1) V C K TN TK pk (i+1) (pk,mK) (V.P.pages,mN) (pk,mK)∧FL C V.P.pages V.P.free TN∧FL K pk frk TK∧V.P.pages≤i+1
def MidP (X w:World)(D Gp kb nb mb i:Nat)(ev:Int):Prop:=(ev=0∧LpP X w D Gp kb nb mb i)∨(ev=2∧∃S,AfL X w D kb mb S∧S.down=true)
theorem start_pack (hp:PO w X.heap.size D Gp V K00 K00 1 1)(hpg:V.P.pages=1)(hfr:V.P.free=0)(hb:Below X.heap.size X w)(hbb:(nb=w.heap.size+1+1∧mb=w.heap.size+1+1+1)∨(nb=w.heap.size+1+1+1∧mb=w.heap.size+1+1)):LpP X ((((w.alloc (.map #[] 0)).alloc (.cells #[.int .i64 1,.map (some w.heap.size)] 66)).alloc (.cells #[.int .i64 1,.map (some w.heap.size)] 66)).alloc (.cells #[.int .i64 1,.map (some w.heap.size)] 66)).drew D Gp (w.heap.size+1) nb mb 0:=by
 have hpc:(Obj.cells #[.int .i64 1,.map (some w.heap.size)] 66)=Obj.cells (shC (1,w.heap.size)) 66 (0,0):=rfl;rw[hpc];generalize hoo:Obj.cells (shC (1,w.heap.size)) 66 (0,0)=oo;have s1:(w.alloc (.map #[] 0)).heap.size=w.heap.size+1:=by simp
 have s2:((w.alloc (.map #[] 0)).alloc oo).heap.size=w.heap.size+1+1:=by simp
 have s3:(((w.alloc (.map #[] 0)).alloc oo).alloc oo).heap.size=w.heap.size+1+1+1:=by simp
 have hB:Below w.heap.size w ((((w.alloc (.map #[] 0)).alloc oo).alloc oo).alloc oo).drew:=(((((Below.refl _ _).alloc (Nat.le_refl _) _).alloc (by omega) _).alloc (by omega) _).alloc (by omega) _).drew;have e0:((((w.alloc (.map #[] 0)).alloc oo).alloc oo).alloc oo).drew.heap[w.heap.size]?=(w.alloc (.map #[] 0)).heap[w.heap.size]?:=by
  show((((w.alloc (.map #[] 0)).alloc oo).alloc oo).alloc oo).heap[w.heap.size]?=_;rw[heap_alloc_old _ _ (by omega),heap_alloc_old _ _ (by omega),heap_alloc_old _ _ (by omega)]
 have e1:((((w.alloc (.map #[] 0)).alloc oo).alloc oo).alloc oo).drew.heap[w.heap.size+1]?=some oo:=by
  show((((w.alloc (.map #[] 0)).alloc oo).alloc oo).alloc oo).heap[w.heap.size+1]?=_;rw[heap_alloc_old _ _ (by omega),heap_alloc_old _ _ (by omega),←s1];exact heap_alloc_new _ _
 have e2:((((w.alloc (.map #[] 0)).alloc oo).alloc oo).alloc oo).drew.heap[w.heap.size+1+1]?=some oo:=by
  show((((w.alloc (.map #[] 0)).alloc oo).alloc oo).alloc oo).heap[w.heap.size+1+1]?=_;rw[heap_alloc_old _ _ (by omega),←s2];exact heap_alloc_new _ _
 have e3:((((w.alloc (.map #[] 0)).alloc oo).alloc oo).alloc oo).drew.heap[w.heap.size+1+1+1]?=some oo:=by
  show((((w.alloc (.map #[] 0)).alloc oo).alloc oo).alloc oo).heap[w.heap.size+1+1+1]?=_;rw[←s3];exact heap_alloc_new _ _
 have hM:MS ((((w.alloc (.map #[] 0)).alloc oo).alloc oo).alloc oo).drew w.heap.size 1 noP:=((MS.made w).keep e0).mono (by omega);have hlt:∀x∈V.b.M,x<w.heap.size:=fun x hx=>by
  obtain⟨k1,k2,k3,k4,k5,k6,k7,k8⟩:=hp.pp.kinds;have:isM w x:=by
   simp only[Bk.M,List.mem_cons,List.not_mem_nil,or_false] at hx;rcases hx with rfl | rfl | rfl | rfl
   ·exact k3
   ·exact k4
   ·exact k5
   ·exact k6
  obtain⟨es,q,hq⟩:=this;exact(Array.getElem?_eq_some_iff.1 hq).1
 have hdn:¬w.heap.size∈V.b.M:=fun k=>by have:=hlt _ k;omega
 have hsz:=hb.size;refine⟨V,K00,K00,noP,noP,1,0,w.heap.size,w.heap.size,⟨(hp.below hB).1,⟨by rw[e1,←hoo],?_,?_,by omega⟩,hM,hM,hdn,hdn,hb.trans (hB.mono hsz),⟨by omega,by omega,by omega⟩⟩,by rw[hpg,hfr];exact FL.first,FL.first,by omega⟩
 ·rw[hpg];rcases hbb with⟨rfl,rfl⟩ | ⟨rfl,rfl⟩
  ·rw[e2,←hoo]
  ·rw[e3,←hoo]
 ·rcases hbb with⟨rfl,rfl⟩|⟨rfl,rfl⟩
  ·rw[e3,←hoo]
  ·rw[e2,←hoo]
end Go.Proofs.YtfjkockcgddgbaaGreat
