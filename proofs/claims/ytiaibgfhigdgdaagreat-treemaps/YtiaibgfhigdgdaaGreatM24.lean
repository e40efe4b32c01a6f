/- a part -/
import Derived.Test.YtiaibgfhigdgdaaGreatM23
set_option maxRecDepth 100000
set_option maxHeartbeats 8000000
namespace Go.Proofs.YtiaibgfhigdgdaaGreat
open Tryz
open Go.RowKit Go.Lib Go.Maps Go.Sort
variable {es es':List Ent}{j mb base g n cap k size B D Gp pk m pages tb root kn kc cn cc d tg mg kg m' pages' i:Nat}{w w' X Y w0:World}{v vb fv v':Value}{e:TypeId}{xs:List Value}{V V':PV}{K K':Pgs}{A Ak A':Nat->PgV}{fl os flk fl':List Nat}{af aa an:Int}{s tt:ByteArray}{kp ca:Option Addr}{cur:Array Value}{α:Type}{rt:Nat->Nat}{t:T d}
attribute [local go_sem ↓] Go.wp_at_zero Go.wp_at_succ
theorem scan_step {most:Int}{fj:List Ent}{fr ed:ByteArray}(hj:j<es.length)(h:addM most [] ((es.take j).filter λe=>inR fr ed e.1)=fj):addM most [] ((es.take (j+1)).filter λe=>inR fr ed e.1)=if inR fr ed es[j].1=true∧¬(fj.length:Int)=most then fj++[es[j]] else fj:=by
 have h0:fitM most []:=by unfold fitM;simp;omega
 have hf:fitM most fj:=by rw[<-h];exact addM_fit h0 _
 rw[take_snoc hj,List.filter_append,<-addM_app h0,h];by_cases h1:inR fr ed es[j].1=true
 ·have e:[es[j]].filter (λe=>inR fr ed e.1)=[es[j]]:=by simp[h1]
  rw[e];by_cases h2:(fj.length:Int)=most
  ·rw[addM_full h2,if_neg (λh=>h.2 h2)]
  ·rw[addM_one hf h2,if_pos ⟨h1,h2⟩]
 ·have e:[es[j]].filter (λe=>inR fr ed e.1)=[]:=by simp[h1]
  rw[e,addM_nil,if_neg (λh=>h1 h.1)]
theorem cMapScan (h:MpV w mb v es)(fr ed:ByteArray)(most:Int)(hl:es.length<=100000):Calls prog 45 #[(.pointer (some ⟨mb,0,none⟩)),.string fr,.string ed,.int .i64 most] w λe w'=>∃fv,e=.returned fv∧Below w.heap.size w w'∧w'.ownsRow w.heap.size 116 2 fv (scanE most false fr ed es).length (entV (scanE most false fr ed es)):=by
 obtain⟨c0,c1,c2⟩:=h.cells;obtain⟨a,cap,rfl,-,-,hel⟩:=row_el h.row;obtain⟨ln,hln⟩:∃ln,es.length=ln:=⟨_,rfl⟩;rw[hln] at c0 hl;obtain⟨i0,hif,hz0,hz1,hz2⟩:=info_parts infoE;have HEL:=hide hel;clear h hel;go_enter func45,ntmps45;go_wp2_with fail
 go_loopw [9,17] (λx9 x17 Y=>∃(j:Nat) (fj:List Ent) (c9:Nat) (a9:Option Addr),j<=ln∧x17=.int .i64 (j:Int)∧x9=.slice a9 fj.length c9∧Hid (Below w.heap.size w Y∧Y.ownsRow w.heap.size 116 2 (.slice a9 fj.length c9) fj.length (entV fj)∧addM most [] ((es.take j).filter λe=>inR fr ed e.1)=fj)) (λ_ x17 _=>ln-(intOf x17).toNat)
 case atStart=>exact⟨0,[],0,none,Nat.zero_le _,rfl,rfl,Below.refl _ _,World.ownsRow_nil _ _ _ _,by simp[addM_nil]⟩
 case round =>
  obtain⟨j,fj,c9,a9,hj,rfl,rfl,HI⟩:=hrel;by_cases hjl:j<ln
  ·have hji:j<es.length:=by omega
   obtain⟨g,off,rfl,hA⟩:=HEL.out.resolve_left (λe=>by rw[e] at hji;simp at hji);obtain⟨k1,k2⟩:=(hA.keep (w':=wr) (λcs hc=>(HI.out.1.block g (gl hc)).trans hc)).cell j hji;have HST:=hide (scan_step hji HI.out.2.2);obtain⟨ek,hek⟩:∃ek,es[j].1=ek:=⟨_,rfl⟩;obtain⟨ev,hev⟩:∃ev,es[j].2=ev:=⟨_,rfl⟩;have hejj:es[j]=(ek,ev):=Prod.ext hek hev;rw[hek] at k1;rw[hev] at k2;rw[hejj] at HST;have q1:(j:Int)<(ln:Int):=by omega
   have q2:(0:Int)<=(j:Int):=by omega
   have hjb:j<=100000:=by omega
   have hgl:g<wr.heap.size:=World.block_lt_of_cell? wr _ k1;have hfb:fj.length<=100000:=by
    have:=addM_len (most:=most) (fs:=[]) ((es.take j).filter λe=>inR fr ed e.1);rw[HI.out.2.2] at this;have:=List.length_filter_le (λe:Ent=>inR fr ed e.1) (es.take j);rw[List.length_take] at this;simp at *;omega
   have HJ:=hide (show j+1<=ln from hjl);have hsz:=HI.out.1.size;have HW:=hide (show Below w.heap.size w (wr.alloc (.cells #[.string ek,.string ev] 116))∧(wr.alloc (.cells #[.string ek,.string ev] 116)).ownsRow w.heap.size 116 2 (.slice a9 fj.length c9) fj.length (entV fj) from⟨HI.out.1.alloc hsz _,World.ownsRow.alloc HI.out.2.1 _⟩);have hin:inR fr ed ek=(!Op.bytesLess ek.toList fr.toList && (ed.toList.isEmpty || Op.bytesLess ek.toList ed.toList)):=rfl;clear hek hev hejj hji hjl hj;cases h1:Op.bytesLess ek.toList fr.toList with
   | true =>
    rw[h1] at hin;have HNI:=hide (show ¬inR fr ed ek=true by rw[hin];simp);clear hin;go_wp2_with fail
    go_roundw
    case rel=>exact⟨j+1,fj,c9,a9,HJ.out,by go_num,rfl,HW.out.1,HW.out.2,by rw[HST.out,if_neg (λh=>HNI.out h.1)]⟩
    case measure=>simp[intOf];have:=HJ.out;omega
   | false =>
    rw[h1] at hin;cases hE:ed.toList.isEmpty with
    | true =>
     rw[hE] at hin;have HIN:=hide (show inR fr ed ek=true by rw[hin];simp);clear hin;by_cases hne:(fj.length:Int)=most
     ·go_wp2_with fail
      go_roundw
      case rel=>exact⟨j+1,fj,c9,a9,HJ.out,by go_num,rfl,HW.out.1,HW.out.2,by rw[HST.out,if_neg (λh=>h.2 hne)]⟩
      case measure=>simp[intOf];have:=HJ.out;omega
     ·go_wp2_with (at_builtin;refine wpList_append_own_at _ rfl (.tmp 41) (.tmp 43) 32 rfl w.heap.size 116 i0 (.agg #[.string ⟨#[]⟩,.string ⟨#[]⟩]) 2 32 underlying32 hif hz0 hz1 hz2 rfl (by decide) (.slice a9 fj.length c9) fj.length (entV fj) rfl (World.ownsRow.alloc HW.out.2 _) ⟨wr.heap.size+1,0,none⟩ 1 1 [.string ek,.string ev] rfl rfl (by have:=newsE (wr.alloc (.cells #[.string ek,.string ev] 116)) ek ev;simpa using this) (entV_one [(ek,ev)]) (by unfold maxLen;omega) (by omega) (by simp;omega) ?_)
      intro v4 w4 ho4 hg4 _ hn4;obtain⟨a4,cp4,rfl⟩:=own_formN ho4;have HW4:=hide (show Below w.heap.size w w4∧w4.ownsRow w.heap.size 116 2 (.slice a4 (fj.length+1) cp4) (fj.length+1) (entV (fj++[(ek,ev)])) from⟨below_grown (HW.out.1.alloc (by simp;omega) _) hg4 (λg e=>(World.ownsRow.lt HW.out.2 g e).1) (by simp;omega),by rw[entV_app];exact ho4⟩);clear hg4 hn4 ho4;go_wp2_with fail
      go_roundw
      case rel=>exact⟨j+1,fj++[(ek,ev)],cp4,a4,HJ.out,by go_num,by simp,HW4.out.1,by simpa using HW4.out.2,by rw[HST.out,if_pos ⟨HIN.out,hne⟩]⟩
      case measure=>simp[intOf];have:=HJ.out;omega
    | false =>
     rw[hE] at hin;cases h2:Op.bytesLess ek.toList ed.toList with
     | true =>
      rw[h2] at hin;have HIN:=hide (show inR fr ed ek=true by rw[hin];simp);clear hin;by_cases hne:(fj.length:Int)=most
      ·go_wp2_with fail
       go_roundw
       case rel=>exact⟨j+1,fj,c9,a9,HJ.out,by go_num,rfl,HW.out.1,HW.out.2,by rw[HST.out,if_neg (λh=>h.2 hne)]⟩
       case measure=>simp[intOf];have:=HJ.out;omega
      ·go_wp2_with (at_builtin;refine wpList_append_own_at _ rfl (.tmp 41) (.tmp 43) 32 rfl w.heap.size 116 i0 (.agg #[.string ⟨#[]⟩,.string ⟨#[]⟩]) 2 32 underlying32 hif hz0 hz1 hz2 rfl (by decide) (.slice a9 fj.length c9) fj.length (entV fj) rfl (World.ownsRow.alloc HW.out.2 _) ⟨wr.heap.size+1,0,none⟩ 1 1 [.string ek,.string ev] rfl rfl (by have:=newsE (wr.alloc (.cells #[.string ek,.string ev] 116)) ek ev;simpa using this) (entV_one [(ek,ev)]) (by unfold maxLen;omega) (by omega) (by simp;omega) ?_)
       intro v4 w4 ho4 hg4 _ hn4;obtain⟨a4,cp4,rfl⟩:=own_formN ho4;have HW4:=hide (show Below w.heap.size w w4∧w4.ownsRow w.heap.size 116 2 (.slice a4 (fj.length+1) cp4) (fj.length+1) (entV (fj++[(ek,ev)])) from⟨below_grown (HW.out.1.alloc (by simp;omega) _) hg4 (λg e=>(World.ownsRow.lt HW.out.2 g e).1) (by simp;omega),by rw[entV_app];exact ho4⟩);clear hg4 hn4 ho4;go_wp2_with fail
       go_roundw
       case rel=>exact⟨j+1,fj++[(ek,ev)],cp4,a4,HJ.out,by go_num,by simp,HW4.out.1,by simpa using HW4.out.2,by rw[HST.out,if_pos ⟨HIN.out,hne⟩]⟩
       case measure=>simp[intOf];have:=HJ.out;omega
     | false =>
      rw[h2] at hin;have HNI:=hide (show ¬inR fr ed ek=true by rw[hin];simp);clear hin;go_wp2_with fail
      go_roundw
      case rel=>exact⟨j+1,fj,c9,a9,HJ.out,by go_num,rfl,HW.out.1,HW.out.2,by rw[HST.out,if_neg (λh=>HNI.out h.1)]⟩
      case measure=>simp[intOf];have:=HJ.out;omega
  ·have hje:j=ln:=by omega
   subst hje;have q1:¬(j:Int)<(j:Int):=by omega
   have HX:=hide (show scanE most false fr ed es=fj from by
    have:=HI.out.2.2;rw[<-hln,List.take_length] at this;exact this)
   clear hj hjl;go_wp2_with fail
   refine bodyPost_ret (v:=.slice a9 fj.length c9) (by simp[results,results45,go_sem, *]) rfl ?_;rw[HX.out];exact⟨_,rfl,HI.out.1,HI.out.2.1⟩
theorem scan_all (fr ed:ByteArray)(es:List Ent):scanE (-1) false fr ed es=es.filter λe=>inR fr ed e.1:=by
 unfold scanE addM dirL;simp
theorem cMapBack (h:MpV w mb v es)(fr ed:ByteArray)(most:Int)(hl:es.length<=100000):Calls prog 47 #[(.pointer (some ⟨mb,0,none⟩)),.string fr,.string ed,.int .i64 most] w λe w'=>∃fv,e=.returned fv∧Below w.heap.size w w'∧w'.ownsRow w.heap.size 116 2 fv (scanE most true fr ed es).length (entV (scanE most true fr ed es)):=by
 have HS:=hide (cMapScan h fr ed (-1) hl);rw[scan_all] at HS;obtain⟨al,hal⟩:∃al,(es.filter λe=>inR fr ed e.1)=al:=⟨_,rfl⟩;have hR:scanE most true fr ed es=addM most [] al.reverse:=by unfold scanE dirL;rw[hal];rfl
 have hlb:al.length<=100000:=by
  rw[<-hal];have:=List.length_filter_le (λe:Ent=>inR fr ed e.1) es;omega
 rw[hal] at HS;rw[hR];obtain⟨rv,hrv⟩:∃rv,al.reverse=rv:=⟨_,rfl⟩;rw[hrv];have hrl:rv.length=al.length:=by rw[<-hrv,List.length_reverse]
 have hra:∀j (hj:j<rv.length),al[al.length-1-j]?=some rv[j]:=λj hj=>by
  have:rv[j]?=some rv[j]:=List.getElem?_eq_getElem hj;rw[<-this,<-hrv,List.getElem?_reverse (by omega)]
 obtain⟨L,hL⟩:∃L,al.length=L:=⟨_,rfl⟩;rw[hL] at HS hlb hrl hra;have HRA:=hide hra;have h0:fitM most []:=by unfold fitM;simp;omega
 obtain⟨i0,hif,hz0,hz1,hz2⟩:=info_parts infoE;have HL:=hide (And.intro hL hrl);clear h hR hra hrv hal hl hL;go_enter func47,ntmps47;go_wp2_with fail
 refine HS.out.mono ?_;rintro e w1⟨fv,rfl,hb1,ho1⟩;rw[HL.out.1.symm] at ho1;have hel:=row_el ho1;obtain⟨a,cap,rfl,-,-,hel⟩:=hel;rw[HL.out.1];have HEL:=hide hel;have HB1:=hide hb1;have hsz1:=hb1.size;have hwL:IntKind.i64.wrap ((L:Int)-1)=(L:Int)-1:=by rw[IntKind.wrap_i64];omega
 clear ho1 hel hb1 HS;go_wp2_with fail
 go_loopw [9,11] (λx9 x11 Y=>∃(j c9:Nat) (a9:Option Addr),j<=L∧x11=.int .i64 ((L:Int)-1-(j:Int))∧x9=.slice a9 j c9∧Hid (Below w1.heap.size w1 Y∧Y.ownsRow w1.heap.size 116 2 (.slice a9 j c9) j (entV (rv.take j))∧(most<0∨(j:Int)<=most))) (λ_ x11 _=>(intOf x11+1).toNat)
 case atStart=>exact⟨0,0,none,Nat.zero_le _,by simp,rfl,Below.refl _ _,World.ownsRow_nil _ _ _ _,by rcases h0 with h0 | h0;exact .inl h0;right;simpa using h0⟩
 case round =>
  obtain⟨j,c9,a9,hj,rfl,rfl,HI⟩:=hrel;obtain⟨ix,hix⟩:∃ix:Int,(L:Int)-1-(j:Int)=ix:=⟨_,rfl⟩;have hlen:(rv.take j).length=j:=by rw[List.length_take,HL.out.2];omega
  have hfj:fitM most ([]++rv.take j):=by unfold fitM;rw[List.nil_append,hlen];exact HI.out.2.2
  by_cases hjl:j<L
  ·by_cases hfull:(j:Int)=most
   ·have HX:=hide (show addM most [] rv=rv.take j from by
     have e:rv=rv.take j++rv.drop j:=(List.take_append_drop _ _).symm
     conv=>lhs;rw[e]
     rw[addM_over h0 hfj (by rw[List.nil_append,hlen];exact hfull),List.nil_append])
    have q1:(0:Int)<=ix:=by omega
    rw[hix];have HN:=hide hlen;clear hlen hfj hix hj hjl;go_wp2_with fail
    refine bodyPost_ret (v:=.slice a9 j c9) (by simp[results,results47,go_sem, *]) rfl ?_;rw[HX.out,HN.out];exact⟨_,rfl,HB1.out.trans (HI.out.1.mono hsz1),ownN_mono HI.out.2.1 hsz1⟩
   ·have hjr:j<rv.length:=by rw[HL.out.2];exact hjl
    have hal:=HRA.out j hjr;obtain⟨i,hi⟩:∃i,L-1-j=i:=⟨_,rfl⟩;have hii:ix=(i:Int):=by omega
    subst hii;rw[hi] at hal;have hial:i<al.length:=by rw[HL.out.1];omega
    rw[List.getElem?_eq_getElem hial] at hal;injection hal with hal;obtain⟨g,off,rfl,hA⟩:=HEL.out.resolve_left (λe=>by rw[e] at hial;simp at hial);obtain⟨k1,k2⟩:=(hA.keep (w':=wr) (λ_ hc=>(HI.out.1.block g (gl hc)).trans hc)).cell i hial;rw[hal] at k1 k2;obtain⟨ek,hek⟩:∃ek,rv[j].1=ek:=⟨_,rfl⟩;obtain⟨ev,hev⟩:∃ev,rv[j].2=ev:=⟨_,rfl⟩;have hejj:rv[j]=(ek,ev):=Prod.ext hek hev;rw[hek] at k1;rw[hev] at k2;have q1:(0:Int)<=(i:Int):=by omega
    have q2:(i:Int)<(L:Int):=by omega
    have hsz:=HI.out.1.size;have hjb:j<=100000:=by omega
    have hwi:IntKind.i64.wrap ((i:Int)-1)=(i:Int)-1:=by rw[IntKind.wrap_i64];omega
    have hgl:g<wr.heap.size:=World.block_lt_of_cell? wr _ k1;have HJ:=hide (show rv.take (j+1)=rv.take j++[(ek,ev)]∧j+1<=L∧(i:Int)-1=(L:Int)-1-((j+1:Nat):Int)∧(most<0∨((j+1:Nat):Int)<=most) from⟨by rw[take_snoc hjr,hejj],hjl,by omega,by rcases HI.out.2.2 with h | h;exact .inl h;right;omega⟩);rw[hix];clear hlen hfj hix hj hjl hal hial hA hek hev hejj hjr hi;go_wp2_with (at_builtin;refine wpList_append_own_at _ rfl (.tmp 29) (.tmp 34) 32 rfl w1.heap.size 116 i0 (.agg #[.string ⟨#[]⟩,.string ⟨#[]⟩]) 2 32 underlying32 hif hz0 hz1 hz2 rfl (by decide) (.slice a9 j c9) j (entV (rv.take j)) rfl (World.ownsRow.alloc HI.out.2.1 _) ⟨wr.heap.size,0,none⟩ 1 1 [.string ek,.string ev] rfl rfl (newsE _ _ _) (entV_one [(ek,ev)]) (by unfold maxLen;omega) (by omega) (by simp;omega) ?_)
    intro v4 w4 ho4 hg4 _ hn4;obtain⟨a4,cp4,rfl⟩:=own_formN ho4;have HW4:=hide (show Below w1.heap.size w1 w4∧w4.ownsRow w1.heap.size 116 2 (.slice a4 (j+1) cp4) (j+1) (entV (rv.take (j+1))) from⟨below_grown (HI.out.1.alloc hsz _) hg4 (λg e=>(World.ownsRow.lt HI.out.2.1 g e).1) (by simp;omega),by rw[HJ.out.1,entV_app];exact ho4⟩);clear hg4 hn4 ho4;go_wp2_with fail
    go_roundw
    case rel=>exact⟨j+1,cp4,a4,HJ.out.2.1,by rw[HJ.out.2.2.1],rfl,HW4.out.1,HW4.out.2,HJ.out.2.2.2⟩
    case measure=>simp[intOf]
  ·have hje:j=L:=by omega
   have q1:¬(0:Int)<=ix:=by omega
   have HX:=hide (show addM most [] rv=rv.take j from by
    have e:rv.take j=rv:=List.take_of_length_le (by rw[HL.out.2];omega);rw[e] at hfj ⊢;rw[addM_all hfj,List.nil_append])
   rw[hix];have HN:=hide hlen;clear hlen hfj hix hj hjl hje;go_wp2_with fail
   refine bodyPost_ret (v:=.slice a9 j c9) (by simp[results,results47,go_sem, *]) rfl ?_;rw[HX.out,HN.out];exact⟨_,rfl,HB1.out.trans (HI.out.1.mono hsz1),ownN_mono HI.out.2.1 hsz1⟩
theorem cpickL (c n:Int)(w:World)(hc:-9223372036854775808<=c∧c<=9223372036854775807)(hn:0<n∧n<=10000):Calls prog 12 #[.int .i64 c,.int .i64 n] w λe w'=>e=.returned (.int .i64 (pickI c n))∧w'=w:=by
 unfold pickI;by_cases h:c<0
 ·rw[if_pos h];have t2:-((c+1).tmod n)=(-(c+1))%n:=by rw[<-Int.neg_tmod,Int.tmod_eq_emod_of_nonneg (by omega)]
  have T2:Hid _:=t2;clear t2;go_enter func12,ntmps12;go_wp2;go_ret;exact⟨congrArg (λz=>Ending.returned (.int .i64 z)) T2.out,rfl⟩
 ·rw[if_neg h];have t1:c.tmod n=c%n:=Int.tmod_eq_emod_of_nonneg (by omega);go_enter func12,ntmps12;go_wp2;go_ret;exact⟨rfl,rfl⟩
theorem cnumL (z:Int)(w:World):Calls prog 7 #[.int .i64 z] w λe w'=>e=.returned (.int .i64 z)∧w'=w:=by
 go_enter func7,ntmps7;go_wp2;go_ret;exact⟨rfl,rfl⟩
theorem cshortL (a:Option Addr)(n c:Nat)(w:World)(hn:n<=140737488355328)(hc:n<=c)(ha:a=none->n=0∧c=0):Calls prog 11 #[.slice a n c] w λe w'=>e=.returned (.slice a (min n 250) c)∧w'=w:=by
 by_cases h:n<=250
 ·rw[Nat.min_eq_left h];have h':(n:Int)<=250:=by omega
  go_enter func11,ntmps11;go_wp2_with fail
  go_ret;exact⟨by show Ending.returned (Value.slice a (min (n:Int) 250).toNat c)=_;rw[show(min (n:Int) 250).toNat=n by omega],rfl⟩
 ·rw[Nat.min_eq_right (by omega)];have h':¬(n:Int)<=250:=by omega
  have h2:(250:Int)<=(c:Int):=by omega
  cases a with
  | none=>have:=ha rfl;omega
  | some ad =>
   clear ha;go_enter func11,ntmps11;go_wp2_with fail
   go_ret;exact⟨by show Ending.returned (Value.slice (some ad) (min (n:Int) 250).toNat c)=_;rw[show(min (n:Int) 250).toNat=250 by omega],rfl⟩
theorem cIsKey (k:ByteArray)(w:World)(hs:k.size<=9223372036854775807):Calls prog 38 #[.string k] w λe w'=>e=.returned (.bool (decide (0<k.size∧k.size<=200)))∧w'=w:=by
 have HI:=hide (show Calls prog 82 #[.int .i64 (k.size:Int),.int .i64 1,.int .i64 200] w λe w'=>e=.returned (.bool (decide (0<k.size∧k.size<=200)))∧w'=w from by
  by_cases h1:0<k.size
  ·have k1:(1:Int)<=(k.size:Int):=by omega
   by_cases h2:k.size<=200
   ·have k2:(k.size:Int)<=200:=by omega
    rw[decide_eq_true ⟨h1,h2⟩];go_enter func82,ntmps82;go_wp2;go_ret;exact⟨rfl,rfl⟩
   ·have k2:¬(k.size:Int)<=200:=by omega
    rw[decide_eq_false (λh=>h2 h.2)];go_enter func82,ntmps82;go_wp2;go_ret;exact⟨rfl,rfl⟩
  ·have k1:¬(1:Int)<=(k.size:Int):=by omega
   rw[decide_eq_false (λh=>h1 h.1)];go_enter func82,ntmps82;go_wp2;go_ret;exact⟨rfl,rfl⟩)
 generalize decide (0<k.size∧k.size<=200)=b at *;go_enter func38,ntmps38;go_wp2_with fail
 refine HI.out.mono ?_;rintro e w1⟨rfl,hw⟩;rw[hw];clear hw;go_wp2_with fail
 go_ret;exact⟨rfl,rfl⟩
theorem clonger (s:ByteArray)(n:Int)(w:World)(hn:-9223372036854775808<=n∧n<=9223372036854775807)(hs:s.size<=140737488355328):Calls prog 41 #[.string s,.int .i64 n] w λe w'=>(∃v:ByteArray,e=.returned (.string v)∧v.size<=140737488355328)∧w'=w:=by
 have HP:=hide (cpickL n 3100 w hn ⟨by decide,by decide⟩);obtain⟨hp0,hp1⟩:=pickI_in n (n:=3100) (by decide);obtain⟨m,hm⟩:∃m:Nat,pickI n 3100=(m:Int):=⟨(pickI n 3100).toNat,by omega⟩;rw[hm] at HP hp1;have hmb:m<3100:=by omega
 clear hm hp0 hp1 hn;obtain⟨s',hs'⟩:∃s':ByteArray,s'=(if s.toList.isEmpty then⟨#[45]⟩ else s):=⟨_,rfl⟩;have h1:0<s'.size∧s'.size<=140737488355328:=by
  rw[hs'];split
  ·exact⟨by decide,by decide⟩
  ·rename_i h
   refine⟨?_,hs⟩;rcases Nat.eq_zero_or_pos s.size with h0 | h0
   ·exact absurd (by rw[List.isEmpty_iff,ByteArray.toList_eq];exact List.length_eq_zero_iff.1 (by simpa using h0)) h
   ·exact h0
 cases hE:s.toList.isEmpty with
 | true =>
  rw[hE,if_pos rfl] at hs';subst hs';have hse:s=⟨#[]⟩:=by
   rw[List.isEmpty_iff,ByteArray.toList_eq] at hE;cases s with
   | mk d =>
    have h1:=congrArg List.length hE;simp at h1;subst h1;rfl
  subst hse;clear hE hs;go_enter func41,ntmps41;go_wp2_with fail
  refine HP.out.mono ?_;rintro e w1⟨rfl,hw⟩;rw[hw];clear hw;go_wp2_with fail
  go_loopw [0] (λx0 Y=>Y=w∧∃u:ByteArray,x0=.string u∧0<u.size∧u.size<=140737488355328) (λx0 _=>m-(match x0 with | .string u=>u.size | _=>0))
  case atStart=>exact⟨rfl,_,rfl,h1.1,h1.2⟩
  case round =>
   obtain⟨rfl,u,rfl,hu0,hu1⟩:=hrel;by_cases hlt:u.size<m
   ·have q1:(u.size:Int)<(m:Int):=by omega
    have hsz:(u++u).size=u.size+u.size:=by simp
    go_wp2_with fail
    go_roundw
    case rel=>exact⟨trivial,u++u,rfl,by omega,by omega⟩
    case measure=>simp;omega
   ·have q1:¬(u.size:Int)<(m:Int):=by omega
    by_cases h2:m<u.size∧0<m
    ·have q2:(m:Int)<(u.size:Int):=by omega
     have q3:(0:Int)<(m:Int):=by omega
     have q4:(0:Int)<=(m:Int):=by omega
     have q5:(m:Int)<=(u.size:Int):=by omega
     go_wp2_with fail
     go_ret;exact⟨⟨_,rfl,by rw[ByteArray.size_extract];omega⟩,rfl⟩
    ·by_cases h3:m<u.size
     ·have q2:(m:Int)<(u.size:Int):=by omega
      have q3:¬(0:Int)<(m:Int):=by omega
      go_wp2_with fail
      go_ret;exact⟨⟨_,rfl,hu1⟩,rfl⟩
     ·have q2:¬(m:Int)<(u.size:Int):=by omega
      go_wp2_with fail
      go_ret;exact⟨⟨_,rfl,hu1⟩,rfl⟩
 | false =>
  rw[hE,if_neg (by decide)] at hs';subst hs';clear hs;go_enter func41,ntmps41;go_wp2_with fail
  refine HP.out.mono ?_;rintro e w1⟨rfl,hw⟩;rw[hw];clear hw;go_wp2_with fail
  go_loopw [0] (λx0 Y=>Y=w∧∃u:ByteArray,x0=.string u∧0<u.size∧u.size<=140737488355328) (λx0 _=>m-(match x0 with | .string u=>u.size | _=>0))
  case atStart=>exact⟨rfl,_,rfl,h1.1,h1.2⟩
  case round =>
   obtain⟨rfl,u,rfl,hu0,hu1⟩:=hrel;by_cases hlt:u.size<m
   ·have q1:(u.size:Int)<(m:Int):=by omega
    have hsz:(u++u).size=u.size+u.size:=by simp
    go_wp2_with fail
    go_roundw
    case rel=>exact⟨trivial,u++u,rfl,by omega,by omega⟩
    case measure=>simp;omega
   ·have q1:¬(u.size:Int)<(m:Int):=by omega
    by_cases h2:m<u.size∧0<m
    ·have q2:(m:Int)<(u.size:Int):=by omega
     have q3:(0:Int)<(m:Int):=by omega
     have q4:(0:Int)<=(m:Int):=by omega
     have q5:(m:Int)<=(u.size:Int):=by omega
     go_wp2_with fail
     go_ret;exact⟨⟨_,rfl,by rw[ByteArray.size_extract];omega⟩,rfl⟩
    ·by_cases h3:m<u.size
     ·have q2:(m:Int)<(u.size:Int):=by omega
      have q3:¬(0:Int)<(m:Int):=by omega
      go_wp2_with fail
      go_ret;exact⟨⟨_,rfl,hu1⟩,rfl⟩
     ·have q2:¬(m:Int)<(u.size:Int):=by omega
      go_wp2_with fail
      go_ret;exact⟨⟨_,rfl,hu1⟩,rfl⟩
theorem csameE {va:Value}(ha:EL w va es)(hb:EL w vb es)(hl:es.length<=100000):Calls prog 16 #[va,vb] w λe w'=>e=.returned (.bool true)∧Below w.heap.size w w':=by
 obtain⟨a,ca,rfl,-,-,ha⟩:=ha;obtain⟨b,cb,rfl,-,-,hb⟩:=hb;obtain⟨ln,hln⟩:∃ln,es.length=ln:=⟨_,rfl⟩;rw[hln] at hl ⊢;have HA:=hide ha;have HB:=hide hb;clear ha hb;go_enter func16,ntmps16;go_wp2_with fail
 go_loopw [13] (λx13 Y=>∃j:Nat,j<=ln∧x13=.int .i64 (j:Int)∧Hid (Below w.heap.size w Y)) (λx13 _=>ln-(intOf x13).toNat)
 case atStart=>exact⟨0,Nat.zero_le _,rfl,Below.refl _ _⟩
 case round =>
  obtain⟨j,hj,rfl,HI⟩:=hrel;by_cases hjl:j<ln
  ·have hji:j<es.length:=by omega
   obtain⟨g,off,rfl,hA⟩:=HA.out.resolve_left (λe=>by rw[e] at hji;simp at hji);obtain⟨g2,off2,rfl,hB⟩:=HB.out.resolve_left (λe=>by rw[e] at hji;simp at hji);obtain⟨k1,k2⟩:=(hA.keep (w':=wr) (λ_ hc=>(HI.out.block g (gl hc)).trans hc)).cell j hji;obtain⟨k3,k4⟩:=(hB.keep (w':=wr) (λ_ hc=>(HI.out.block g2 (gl hc)).trans hc)).cell j hji;obtain⟨ek,hek⟩:∃ek,es[j].1=ek:=⟨_,rfl⟩;obtain⟨ev,hev⟩:∃ev,es[j].2=ev:=⟨_,rfl⟩;rw[hek] at k1 k3;rw[hev] at k2 k4;have q1:(j:Int)<(ln:Int):=by omega
   have q2:(0:Int)<=(j:Int):=by omega
   have hjb:j<=100000:=by omega
   have HJ:=hide (show j+1<=ln from hjl);clear hA hB hek hev hji hj hjl;go_wp2_with fail
   go_region
   all_goals
    go_wp2_with fail
    go_roundw
    case rel=>exact⟨j+1,HJ.out,by go_num,HI.out.drew⟩
    case measure=>simp[intOf];have:=HJ.out;omega
  ·have hje:j=ln:=by omega
   subst hje;have q1:¬(j:Int)<(j:Int):=by omega
   clear hj hjl;go_wp2_with fail
   go_ret;exact⟨rfl,HI.out⟩
theorem row_setN {u:Value}(h:w.ownsRow base e size (.slice (some ⟨g,0,none⟩) n cap) n xs):∃xs',(w.setCell ⟨g,k,none⟩ u).ownsRow base e size (.slice (some ⟨g,0,none⟩) n cap) n xs':=by
 rcases h.2 with⟨e,_⟩|⟨g',cap',cur,e,hb,hg,hc,hm,hs,ht⟩
 ·cases e
 ·injection e with e1 e2 e3;injection e1 with e1;injection e1 with e1 _ _;subst e1 e3;refine⟨((cur.setIfInBounds k u).toList).take (n*size),?_,.inr ⟨g,cap,cur.setIfInBounds k u,rfl,hb,set_blk hg,hc,hm,by simpa using hs,rfl⟩⟩;rw[List.length_take];have:(cur.setIfInBounds k u).toList.length=cur.size:=by simp
  rw[this,hs];exact Nat.min_eq_left (Nat.mul_le_mul_right _ hc)
theorem row_cellN (h:w.ownsRow base e size (.slice (some ⟨g,0,none⟩) n cap) n xs)(hk:k<n*size):(∃u,w.cell? ⟨g,k,none⟩=some u)∧w.frozen? ⟨g,k,none⟩=false∧g<w.heap.size∧base<=g:=by
 rcases h.2 with⟨e,_⟩|⟨g',cap',cur,e,hb,hg,hc,hm,hs,ht⟩
 ·cases e
 ·injection e with e1 e2 e3;injection e1 with e1;injection e1 with e1 _ _;subst e1 e3;have hkc:k<cur.size:=by
   rw[hs];exact Nat.lt_of_lt_of_le hk (Nat.mul_le_mul_right _ hc)
  exact⟨⟨cur[k],by simp[World.cell?,hg,hkc]⟩,by simp[World.frozen?,hg],(gl hg),hb⟩
theorem newsE2 (w:World)(k v k2 v2:ByteArray):∀j u,([.string k,.string v,.string k2,.string v2]:List Value)[j]?=some u->(w.alloc (.cells #[.string k,.string v,.string k2,.string v2] 116)).cell? ((⟨w.heap.size,0,none⟩:Addr).add j)=some u:=by
 intro j u hj
 match j,hj with
 | 0,h=>cases h;go_simp
 | 1,h=>cases h;go_simp
 | 2,h=>cases h;go_simp
 | 3,h=>cases h;go_simp
theorem ctold (ho:w.ownsRow base 116 2 fv es.length (entV es))(hb:EL w vb es)(hl:es.length<=100000)(hB:base<=w.heap.size):Calls prog 44 #[fv,vb] w λe w'=>e=.returned (.bool true)∧w.grownBy w' fv.ownBlock:=by
 have HS:=hide (csameE (row_el ho) hb hl);obtain⟨ln,hln⟩:∃ln,es.length=ln:=⟨_,rfl⟩;rw[hln] at hl ho;obtain⟨a,cap,rfl⟩:=own_formN ho;obtain⟨i0,hif,hz0,hz1,hz2⟩:=info_parts infoE;have HO:=hide (And.intro ho hB);clear ho hb hB;go_enter func44,ntmps44;go_wp2_with fail
 refine HS.out.mono ?_;rintro e w1⟨rfl,hb1⟩;have HI1:=hide (show w.grownBy w1 (Value.slice a ln cap).ownBlock∧w1.ownsRow base 116 2 (.slice a ln cap) ln (entV es) from⟨below_but hb1 _,row_keep HO.out.1 λg hg=>hb1.block g (World.ownsRow.lt HO.out.1 g hg).2⟩);clear hb1 HS;go_wp2_with fail
 go_loopw [12] (λx12 Y=>∃(j:Nat) (xs:List Value),j<=ln∧x12=.int .i64 (j:Int)∧Hid (w.grownBy Y (Value.slice a ln cap).ownBlock∧Y.ownsRow base 116 2 (.slice a ln cap) ln xs)) (λx12 _=>ln-(intOf x12).toNat)
 case atStart=>exact⟨0,_,Nat.zero_le _,rfl,HI1.out⟩
 case round =>
  clear HI1;obtain⟨j,xs,hj,rfl,HI⟩:=hrel;by_cases hjl:j<ln
  ·obtain⟨g,rfl⟩:∃g,a=some ⟨g,0,none⟩:=by
    rcases HI.out.2.2 with⟨e,h0⟩|⟨g,cap',cur,e,_⟩
    ·omega
    ·injection e with e1;exact⟨g,e1⟩
   obtain⟨⟨u0,k0⟩,z0,hgl,hbg⟩:=row_cellN (k:=j*2) HI.out.2 (by omega);obtain⟨⟨u1,k1⟩,z1,-,-⟩:=row_cellN (k:=j*2+1) HI.out.2 (by omega);obtain⟨xs1,r1⟩:=row_setN (k:=j*2) (u:=.string ⟨#[115,112,111,105,108,116]⟩) HI.out.2;obtain⟨xs2,r2⟩:=row_setN (k:=j*2+1) (u:=.string ⟨#[]⟩) r1;have HJ:=hide (show j+1<=ln from hjl);have HW:=hide (show w.grownBy ((wr.setCell ⟨g,j*2,none⟩ (.string ⟨#[115,112,111,105,108,116]⟩)).setCell ⟨g,j*2+1,none⟩ (.string ⟨#[]⟩)) (Value.slice (some ⟨g,0,none⟩) ln cap).ownBlock∧_ from⟨But.trans (But.trans HI.out.1 (set_grown _ _ _ _)) (set_grown _ _ _ _),r2⟩);have q1:(j:Int)<(ln:Int):=by omega
   have q2:(0:Int)<=(j:Int):=by omega
   have hjb:j<=100000:=by omega
   clear r1 r2 hj hjl;go_wp2_with fail
   go_roundw
   case rel=>exact⟨j+1,xs2,HJ.out,by go_num,HW.out⟩
   case measure=>simp[intOf];have:=HJ.out;omega
  ·have hje:j=ln:=by omega
   subst hje;have q1:¬(j:Int)<(j:Int):=by omega
   have hsz:base<=wr.heap.size:=Nat.le_trans HO.out.2 HI.out.1.size;clear hj hjl;go_wp2_with (at_builtin;refine wpList_append_own_at _ rfl (.tmp 20) (.tmp 23) 32 rfl base 116 i0 (.agg #[.string ⟨#[]⟩,.string ⟨#[]⟩]) 2 32 underlying32 hif hz0 hz1 hz2 rfl (by decide) (.slice a j cap) j xs rfl (World.ownsRow.alloc HI.out.2 _) ⟨wr.heap.size,0,none⟩ 2 2 [.string ⟨#[115,112,111,105,108,116]⟩,.string ⟨#[]⟩,.string ⟨#[115,112,111,105,108,116]⟩,.string ⟨#[]⟩] rfl rfl (newsE2 _ _ _ _ _) (entV_one [(⟨#[115,112,111,105,108,116]⟩,⟨#[]⟩),(⟨#[115,112,111,105,108,116]⟩,⟨#[]⟩)]) (by unfold maxLen;omega) (by omega) (by simp;omega) ?_)
   intro v4 w4 ho4 hg4 _ hn4;have HW:=hide (But.trans (But.trans HI.out.1 (World.grownBy_alloc wr _ _)) hg4);obtain⟨a4,cp4,rfl⟩:=own_formN ho4;clear ho4 hg4 hn4;go_wp2_with fail
   go_ret;exact⟨rfl,HW.out⟩
abbrev SortK (l:List ByteArray):Prop:=l.Pairwise (λa b=>klt a b=true)
theorem ent_sort:∀(d:Nat) (lo hi:ByteArray) (t:T d),Bnd d lo hi t->SortK ((entT d t).map (·.1))
 | 0, lo, hi, t, h => by
  have:=(keys_sort 0 h).2.1;show SortK ((t.its.map λi=>(i.key,i.val)).map (·.1));rw[List.map_map];exact this
 | d + 1, lo, hi, t, h => by
  have key:∀(s:List (ByteArray×T d)),BS (Bnd d) s hi->SortK ((entS s).map (·.1)):=by
   intro s
   induction s with
   | nil=>intro _;exact List.Pairwise.nil
   | cons p r ih =>
    intro hb;obtain⟨h1,h2,h3,h4⟩:=hb;rw[entS_cons,List.map_append];refine List.pairwise_append.2 ⟨ent_sort d _ _ p.2 h2,ih h4,λa ha b hb'=>?_⟩;obtain⟨e,he,rfl⟩:=List.mem_map.1 ha;obtain⟨f,hf,rfl⟩:=List.mem_map.1 hb';have g1:=(ent_in d _ _ p.2 h2 e he).2.1;have g2:=(entS_in d r hi h4 f hf).1;cases r with
    | nil=>simp[entS] at hf
    | cons q r =>
     rcases g1 with g1|g1
     ·have hq:=(h3 q (by simp)).1;have g1:q.1=⟨#[]⟩:=g1;rw[g1] at hq;exact absurd hq (by decide)
     ·exact klt_le g1 g2
  exact key t.kids h.2
structure TrH (d:Nat) (t:T d) (es:List Ent):Prop where
 srt:SortK (es.map (·.1))
 key:∀e∈es,okK e.1
 dep:es.length<=250->d<=7
 nod:(nodT d t).length<=5*es.length+1
theorem Tr.more [Oth]{A:Nat->PgV}{fl os:List Nat}{pages d:Nat}{t:T d}{es:List Ent}(h:Tr A fl pages os t es):TrH d t es:=by
 have F:=h.gist;refine⟨?_,λe he=>?_,λhl=>?_,?_⟩
 ·rw[<-F.ent];exact ent_sort d _ _ t F.bnd
 ·rw[<-F.ent] at he;exact(ent_in d _ _ t F.bnd e he).2.2
 ·rcases h.ok.many with h0|h0
  ·omega
  ·rw[F.ent] at h0;have hlt:2 ^ d<2 ^ 8:=Nat.lt_of_le_of_lt (Nat.le_trans h0 hl) (by decide);have:=(Nat.pow_lt_pow_iff_right (by decide:1<2)).1 hlt;omega
 ·have:=nod_top F.bnd h.ok;rw[F.ent] at this;exact this
theorem getR_none {k:ByteArray}:∀{es:List Ent},SortK (es.map (·.1))->(∀e∈es,¬e.1=k)->GetR es k ⟨#[]⟩ false
 | [],_,_=>⟨[],[],.inl ⟨rfl,rfl,rfl⟩,(λ_ h=>by cases h),(λ_ h=>by cases h)⟩
 | e :: r, hs, hn => by
  replace hs:(e.1::r.map (·.1)).Pairwise (λa b=>klt a b=true):=hs
  rw[List.pairwise_cons] at hs;rcases klt_tri e.1 k with h | h | h
  ·obtain⟨p,s,he,hp,hs'⟩:=getR_none hs.2 (λx hx=>hn x (List.mem_cons_of_mem _ hx));rcases he with⟨rfl,_,_⟩|⟨_,hc⟩
   ·exact⟨e::p,s,.inl ⟨rfl,rfl,rfl⟩,λx hx=>by rcases List.mem_cons.1 hx with rfl | hx;exact h;exact hp x hx,hs'⟩
   ·cases hc
  ·exact absurd h (hn e (List.mem_cons_self ..))
  ·refine⟨[],e::r,.inl ⟨rfl,rfl,rfl⟩,(λ_ h=>by cases h),λx hx=>?_⟩;rcases List.mem_cons.1 hx with rfl | hx
   ·exact h
   ·exact klt_tr h (hs.1 _ (List.mem_map.2 ⟨x,hx,rfl⟩))
structure LF (B mb:Nat) (w w':World):Prop where
 keep:∀(c:Nat) (cs:Array Value) (t:TypeId),w.heap[c]?=some (.cells cs t (0,0))->tyQ t=false->¬c=mb->w'.heap[c]?=some (.cells cs t (0,0))
 bel:Below B w w'
theorem LF.trans {w'':World}(h:LF B mb w w')(k:LF B mb w' w''):LF B mb w w'':=⟨λc cs t a b d=>k.keep c cs t (h.keep c cs t a b d) b d,h.bel.trans k.bel⟩
section
variable {w w' X Y:World}{B D Gp:Nat}{V V':PV}{K:Pgs}{pk m:Nat}{A:Nat->PgV}{fl os:List Nat}{pages tb root mb:Nat}{es:List Ent}{v:Value}
theorem TS.lf (h:TS w B D Gp V K pk m A fl pages)(hs:St2 w w' B V V')(mb:Nat):LF B mb w w':=⟨λ_ _ _ hc h1 _=>h.stay hs hc h1,hs.bel.toBelow⟩
theorem lf_map (hg:w.grownBy w' (some mb))(hB:B<=mb)(hl:B<=w.heap.size):LF B mb w w':=⟨λc _ _ hc _ hn=>(hg.block c (gl hc) (λe=>hn (by injection e))).trans hc,below_grown (Below.refl _ _) hg (λg e=>by injection e with e;omega) hl⟩
theorem TS.stayMp (h:TS w B D Gp V K pk m A fl pages)(hs:St2 w w' B V V')(hM:MpV w mb v es):MpV w' mb v es:=
 ⟨h.stay hs hM.blk (by decide),row_keep hM.row λg hg=>by
  obtain⟨cs,hcs⟩:=row_isN hM.row hg;exact(h.stay hs hcs (by decide)).trans hcs.symm⟩
theorem LF.mp {mb2:Nat}{v2:Value}{es2:List Ent}(h:LF B mb w w')(hM:MpV w mb v es)(h2:MpV w mb2 v2 es2)(hne:¬mb2=mb):MpV w' mb2 v2 es2:=
 ⟨h.keep _ _ _ h2.blk (by decide) hne,row_keep h2.row λg hg=>by
  obtain⟨cs,hcs⟩:=row_isN h2.row hg;refine(h.keep g cs _ hcs (by decide) (λe=>?_)).trans hcs.symm;rw[e,hM.blk] at hcs;injection hcs with hcs;injection hcs with _ hcs _;exact absurd hcs (by decide)⟩
theorem LF.tb2 {tb2 r2:Nat}(h:LF B mb w w')(hM:MpV w mb v es)(h2:TB w tb2 Gp r2):TB w' tb2 Gp r2:=h.keep tb2 _ _ h2 (by decide) (λe=>by
 have h2':w.heap[tb2]?=_:=h2;rw[e,hM.blk] at h2';injection h2' with h2';injection h2' with _ h2' _;exact absurd h2' (by decide))
section
variable {af aa an:Int}{s tt:ByteArray}{kp ca:Option Addr}{kn kc cn cc:Nat}
theorem cstep1 [Oth]{d:Nat}{t:T d}(h:TS w B D Gp V K pk m A fl pages)(hm:m<=40000)(hT:Tr A fl pages os t es)(ht:TB w tb Gp (numT d t))(hM:MpV w mb v es)(hd:d<=20)(hes:es.length<=1000)(hsz:s.size<=140737488355328):Calls prog 14 #[(.pointer (some ⟨Gp,0,none⟩)),(.pointer (some ⟨tb,0,none⟩)),(.pointer (some ⟨mb,0,none⟩)),(.agg #[.int .i64 1,.int .i64 af,.int .i64 aa,.int .i64 an,.string s,.string tt,.slice kp kn kc,.slice ca cn cc])] w λe w'=>e=.returned (.bool true)∧∃V',TS w' B D Gp V' K pk m A fl pages∧St2 w w' B V V':=by
 have hb:Below w.heap.size w (w.alloc (.cells #[.int .i64 1,.int .i64 af,.int .i64 aa,.int .i64 an,.string s,.string tt,.slice kp kn kc,.slice ca cn cc] 45)):=((Below.refl _ _).alloc (Nat.le_refl _) _);obtain⟨h1,s1⟩:=h.below hb;have q0:(w.alloc (.cells #[.int .i64 1,.int .i64 af,.int .i64 aa,.int .i64 an,.string s,.string tt,.slice kp kn kc,.slice ca cn cc] 45)).heap[w.heap.size]?=some (.cells #[.int .i64 1,.int .i64 af,.int .i64 aa,.int .i64 an,.string s,.string tt,.slice kp kn kc,.slice ca cn cc] 45 (0,0)):=heap_alloc_new w _;have HI:=hide (λ(Y:World)=>cIsKey s Y (by omega));have HQ:=hide (λ(Y:World) (VY:PV) (y2:St2 (w.alloc (.cells #[.int .i64 1,.int .i64 af,.int .i64 aa,.int .i64 an,.string s,.string tt,.slice kp kn kc,.slice ca cn cc] 45)) Y B V VY)=>(show Y.cell? ⟨w.heap.size,4,none⟩=some (.string s) from by
  have:=h1.stay y2 q0 (by decide);simp[World.cell?,this]))
 have HMp:=hide (λ(Y:World) (VY:PV) (y2:St2 (w.alloc (.cells #[.int .i64 1,.int .i64 af,.int .i64 aa,.int .i64 an,.string s,.string tt,.slice kp kn kc,.slice ca cn cc] 45)) Y B V VY)=>h1.stayMp y2 (h.stayMp s1 hM));by_cases hk:okK s
 ·have hkd:decide (0<s.size∧s.size<=200)=true:=decide_eq_true hk;rw[hkd] at HI;have HG:=hide (cGet h1 hm hT (h.stayTB s1 ht) s hk hd);have HS:=hide s1;clear h h1 hT ht hM hb s1 hk hkd q0;go_enter func14,ntmps14;go_wp2_with fail
  refine(HI.out _).mono ?_;rintro e w1⟨rfl,hw⟩;rw[hw];clear hw;go_wp2_with fail
  refine HG.out.mono ?_;rintro e w2⟨val,is,rfl,hg,V2,q1,q2⟩;have d4:=HQ.out w2 V2 q2;have HMG:=hide (cMapGet (HMp.out w2 V2 q2) s val is hg (by omega));have HE:=hide (And.intro q1 (HS.out.trans q2));clear hg q1 q2 HG HQ HMp HS;go_wp2_with fail
  refine HMG.out.mono ?_;rintro e w3⟨rfl,hb3⟩;have HB:=hide (show ∃V',TS w3 B D Gp V' K pk m A fl pages∧St2 w w3 B V V' from⟨V2,(HE.out.1.below hb3).1,HE.out.2.trans (HE.out.1.below hb3).2⟩);clear hb3 HMG HE;go_wp2_with fail
  refine(cnumL 0 _).mono ?_;rintro e w4⟨rfl,hw⟩;rw[hw];clear hw;go_wp2_with fail
  go_ret;exact⟨rfl,HB.out⟩
 ·have hkd:decide (0<s.size∧s.size<=200)=false:=decide_eq_false hk;rw[hkd] at HI;have hg:GetR es s ⟨#[]⟩ false:=getR_none hT.more.srt (λe he q=>hk (by rw[<-q];exact hT.more.key e he));have HG:=hide (cGetN (w:=w.alloc (.cells #[.int .i64 1,.int .i64 af,.int .i64 aa,.int .i64 an,.string s,.string tt,.slice kp kn kc,.slice ca cn cc] 45)) (tb:=tb) s hk (by omega));have HMG:=hide (λ(Y:World) (hY:Below (w.alloc (.cells #[.int .i64 1,.int .i64 af,.int .i64 aa,.int .i64 an,.string s,.string tt,.slice kp kn kc,.slice ca cn cc] 45)).heap.size (w.alloc (.cells #[.int .i64 1,.int .i64 af,.int .i64 aa,.int .i64 an,.string s,.string tt,.slice kp kn kc,.slice ca cn cc] 45)) Y)=>(show Y.cell? ⟨w.heap.size,4,none⟩=some (.string s)∧TS Y B D Gp V K pk m A fl pages∧St2 w Y B V V∧Calls prog 40 #[(.pointer (some ⟨mb,0,none⟩)),.string s] Y λe w'=>e=.returned (.tuple #[.string ⟨#[]⟩,.bool false])∧Below Y.heap.size Y w' from⟨HQ.out Y V (h1.below hY).2,(h1.below hY).1,s1.trans (h1.below hY).2,cMapGet (HMp.out Y V (h1.below hY).2) s _ _ hg (by omega)⟩));clear h h1 hT ht hM hb s1 hk hkd q0 hg HQ HMp;go_enter func14,ntmps14;go_wp2_with fail
  refine(HI.out _).mono ?_;rintro e w1⟨rfl,hw⟩;rw[hw];clear hw;go_wp2_with fail
  refine HG.out.mono ?_;rintro e w2⟨rfl,hb2⟩;obtain⟨d4,q1,q2,q3⟩:=HMG.out w2 hb2;have HC:=hide q3;have HE:=hide (And.intro q1 q2);clear q1 q2 q3 hb2 HG HMG;go_wp2_with fail
  refine HC.out.mono ?_;rintro e w3⟨rfl,hb3⟩;have HB:=hide (show ∃V',TS w3 B D Gp V' K pk m A fl pages∧St2 w w3 B V V' from⟨V,(HE.out.1.below hb3).1,HE.out.2.trans (HE.out.1.below hb3).2⟩);clear hb3 HC HE;go_wp2_with fail
  refine(cnumL 1 _).mono ?_;rintro e w4⟨rfl,hw⟩;rw[hw];clear hw;go_wp2_with fail
  go_ret;exact⟨rfl,HB.out⟩
end
end
def stepP [Oth](w:World)(B D Gp:Nat)(K:Pgs)(pk m pages:Nat)(os:List Nat)(rt tb mb d n:Nat)(w':World):Prop:=
 ∃(V':PV) (m':Nat) (A':Nat->PgV) (fl':List Nat) (pages' d':Nat) (t':T d') (es':List Ent) (v':Value),TS w' B D Gp V' K pk m' A' fl' pages'∧Tr A' fl' pages' os t' es'∧numT d' t'=rt∧TB w' tb Gp rt∧MpV w' mb v' es'∧LF B mb w w'∧m'<=m+4*d+30∧pages'<=pages+d+7∧es'.length<=n+1
theorem putR_len {k v:ByteArray}(h:PutR es k v es'):es'.length<=es.length+1:=by
 obtain⟨p,s,h1,rfl,-,-⟩:=h;rcases h1 with rfl|⟨v0,rfl⟩<;>simp<;>omega
theorem delR_len {k:ByteArray}{b:Bool}(h:DelR es k b es'):es'.length<=es.length+1:=by
 obtain⟨p,s,h1,rfl,-,-⟩:=h;rcases h1 with⟨rfl,-⟩|⟨v0,rfl,-⟩<;>simp<;>omega
section
variable {w w' X Y:World}{B D Gp:Nat}{V V':PV}{K:Pgs}{pk m:Nat}{A:Nat->PgV}{fl os:List Nat}{pages tb root mb:Nat}{es:List Ent}{v:Value}
theorem stepP.same [Oth]{d:Nat}{t:T d}(h:TS w B D Gp V K pk m A fl pages)(hT:Tr A fl pages os t es)(ht:TB w tb Gp (numT d t))(hM:MpV w mb v es)(h':TS w' B D Gp V' K pk m A fl pages)(hs:St2 w w' B V V'):stepP w B D Gp K pk m pages os (numT d t) tb mb d es.length w':=
 ⟨V',m,A,fl,pages,d,t,es,v,h',hT,rfl,h.stayTB hs ht,h.stayMp hs hM,h.lf hs mb,by omega,by omega,by omega⟩
theorem step_told [Oth]{w3 w4:World}{V3:PV}(h:TS w B D Gp V K pk m A fl pages)(hT:Tr A fl pages os t es)(ht:TB w tb Gp (numT d t))(hM:MpV w mb v es)(h3:TS w3 B D Gp V3 K pk m A fl pages)(s3:St2 w w3 B V V3)(ho:w3.ownsRow base 116 2 fv n xs)(hb:w.heap.size<=base)(hg:w3.grownBy w4 fv.ownBlock):stepP w B D Gp K pk m pages os (numT d t) tb mb d es.length w4:=by
 have h4:TS w4 B D Gp V3 K pk m A fl pages:=h3.keptN ⟨hg.size,λc hc hl=>hg.block c hc (λe=>hl (by
  obtain⟨cs,hcs⟩:=row_isN ho e.symm;exact .inl ⟨cs,_,hcs,by decide⟩))⟩
 exact stepP.same h hT ht hM h4 (s3.keep2 (o:=fv.ownBlock) (o':=none) ⟨hg.os,hg.tape,hg.output,hg.size,λc hc h1 _=>hg.block c hc h1⟩ (λg e=>Nat.le_trans hb (World.ownsRow.lt ho g e).1) (λg e=>by cases e) h.lo)
section
variable {af aa an:Int}{s tt:ByteArray}{kp ca:Option Addr}{kn kc cn cc:Nat}
theorem cstep2 [Oth]{d:Nat}{t:T d}(h:TS w B D Gp V K pk m A fl pages)(hm:m<=28000)(hpg:pages<=55000)(hT:Tr A fl pages os t es)(ht:TB w tb Gp (numT d t))(hM:MpV w mb v es)(hB:B<=mb)(hd:d<=20)(hes:es.length<=1000)(hsz:s.size<=140737488355328)(htz:tt.size<=140737488355328)(han:-9223372036854775808<=an∧an<=9223372036854775807):Calls prog 14 #[(.pointer (some ⟨Gp,0,none⟩)),(.pointer (some ⟨tb,0,none⟩)),(.pointer (some ⟨mb,0,none⟩)),(.agg #[.int .i64 2,.int .i64 af,.int .i64 aa,.int .i64 an,.string s,.string tt,.slice kp kn kc,.slice ca cn cc])] w λe w'=>e=.returned (.bool true)∧stepP w B D Gp K pk m pages os (numT d t) tb mb d es.length w':=by
 have hb:Below w.heap.size w (w.alloc (.cells #[.int .i64 2,.int .i64 af,.int .i64 aa,.int .i64 an,.string s,.string tt,.slice kp kn kc,.slice ca cn cc] 45)):=((Below.refl _ _).alloc (Nat.le_refl _) _);obtain⟨h1,s1⟩:=h.below hb;have q0:(w.alloc (.cells #[.int .i64 2,.int .i64 af,.int .i64 aa,.int .i64 an,.string s,.string tt,.slice kp kn kc,.slice ca cn cc] 45)).heap[w.heap.size]?=some (.cells #[.int .i64 2,.int .i64 af,.int .i64 aa,.int .i64 an,.string s,.string tt,.slice kp kn kc,.slice ca cn cc] 45 (0,0)):=heap_alloc_new w _;have HI:=hide (λ(Y:World)=>cIsKey s Y (by omega));have HLG:=hide (λ(Y:World)=>clonger tt an Y han htz);have hlo:=h.lo;by_cases hk:okK s
 ·have hkd:decide (0<s.size∧s.size<=200)=true:=decide_eq_true hk;rw[hkd] at HI;have HL:=hide (λ(val:ByteArray) (hv:3000<val.size) (hv2:val.size<=140737488355328)=>cPutL s val hk hv (by omega) tb (w.alloc (.cells #[.int .i64 2,.int .i64 af,.int .i64 aa,.int .i64 an,.string s,.string tt,.slice kp kn kc,.slice ca cn cc] 45)));have HP:=hide (λ(val:ByteArray) (hv:val.size<=3000)=>cPut h1 hm hpg hT (h.stayTB s1 ht) s val hk hv hd);have HE:=hide (λ(Y:World) (hY:Below (w.alloc (.cells #[.int .i64 2,.int .i64 af,.int .i64 aa,.int .i64 an,.string s,.string tt,.slice kp kn kc,.slice ca cn cc] 45)).heap.size (w.alloc (.cells #[.int .i64 2,.int .i64 af,.int .i64 aa,.int .i64 an,.string s,.string tt,.slice kp kn kc,.slice ca cn cc] 45)) Y)=>stepP.same h hT ht hM (h1.below hY).1 (s1.trans (h1.below hY).2));have HD:=hide (λ(Y:World) (V2:PV) (y:St2 (w.alloc (.cells #[.int .i64 2,.int .i64 af,.int .i64 aa,.int .i64 an,.string s,.string tt,.slice kp kn kc,.slice ca cn cc] 45)) Y B V V2)=>(show Y.cell? ⟨w.heap.size,4,none⟩=some (.string s)∧MpV Y mb v es∧TB Y tb Gp (numT d t)∧LF B mb w Y from⟨by
   have:=h1.stay y q0 (by decide);simp[World.cell?,this],h1.stayMp y (h.stayMp s1 hM),h1.stayTB y (h.stayTB s1 ht),h.lf (s1.trans y) mb⟩))
  clear h h1 hT ht hM hb s1 hk hkd q0;go_enter func14,ntmps14;go_wp2_with fail
  refine(HI.out _).mono ?_;rintro e w1⟨rfl,hw⟩;rw[hw];clear hw;go_wp2_with fail
  refine(HLG.out _).mono ?_;rintro e w2⟨⟨val,rfl,hv⟩,hw2⟩;rw[hw2];clear hw2;by_cases hv3:val.size<=3000
  ·have q3:¬(3000:Int)<(val.size:Int):=by omega
   have HP2:=hide (HP.out val hv3);clear HP HL HLG HI hv3;go_wp2_with fail
   refine HP2.out.mono ?_;rintro e w3⟨rfl,V3,A3,fl3,pages3,d3,t3,es3,p1,p2,p3,p4,p5,p6⟩;obtain⟨d4,m1,m2,m3⟩:=HD.out w3 V3 p5;have HMP:=hide (cMapPut m1 s val p4 (by omega));have HQ:=hide (show ∀(w4:World) (v4:Value),MpV w4 mb v4 es3->w3.grownBy w4 (some mb)->stepP w B D Gp K pk m pages os (numT d t) tb mb d es.length w4 from λw4 v4 y1 y2=>⟨V3,_,A3,fl3,pages3,d3,t3,es3,v4,p1.other y2 ⟨_,m1.blk⟩ (by decide),p2,p3,(lf_map y2 hB p1.lo).tb2 m1 m2,y1,m3.trans (lf_map y2 hB p1.lo),Nat.le_refl _,p6,putR_len p4⟩);clear p1 p2 p3 p4 p5 p6 m1 m2 m3 HP2 HE HD;go_wp2_with fail
   refine(cnumL 0 _).mono ?_;rintro e w4⟨rfl,hw⟩;rw[hw];clear hw;go_wp2_with fail
   refine HMP.out.mono ?_;rintro e w5⟨rfl,v5,y1,y2⟩;have HZ:=hide (HQ.out w5 v5 y1 y2);clear y1 y2 HMP HQ;go_wp2_with fail
   go_ret;exact⟨rfl,HZ.out⟩
  ·have q3:(3000:Int)<(val.size:Int):=by omega
   have HL2:=hide (HL.out val (by omega) hv);clear HP HL HLG HI hv3 hv;go_wp2_with fail
   refine HL2.out.mono ?_;rintro e w3⟨rfl,hb3⟩;have HZ:=hide (HE.out w3 hb3);clear hb3 HL2 HE HD;go_wp2_with fail
   refine(cnumL 8 _).mono ?_;rintro e w4⟨rfl,hw⟩;rw[hw];clear hw;go_wp2_with fail
   go_ret;exact⟨rfl,HZ.out⟩
 ·have hkd:decide (0<s.size∧s.size<=200)=false:=decide_eq_false hk;rw[hkd] at HI;have HN:=hide (λ(val:ByteArray)=>cPutN (w:=w.alloc (.cells #[.int .i64 2,.int .i64 af,.int .i64 aa,.int .i64 an,.string s,.string tt,.slice kp kn kc,.slice ca cn cc] 45)) (tb:=tb) s val hk (by omega));have HE:=hide (λ(Y:World) (hY:Below (w.alloc (.cells #[.int .i64 2,.int .i64 af,.int .i64 aa,.int .i64 an,.string s,.string tt,.slice kp kn kc,.slice ca cn cc] 45)).heap.size (w.alloc (.cells #[.int .i64 2,.int .i64 af,.int .i64 aa,.int .i64 an,.string s,.string tt,.slice kp kn kc,.slice ca cn cc] 45)) Y)=>stepP.same h hT ht hM (h1.below hY).1 (s1.trans (h1.below hY).2));clear h h1 hT ht hM hb s1 hk hkd q0;go_enter func14,ntmps14;go_wp2_with fail
  refine(HI.out _).mono ?_;rintro e w1⟨rfl,hw⟩;rw[hw];clear hw;go_wp2_with fail
  refine(HLG.out _).mono ?_;rintro e w2⟨⟨val,rfl,hv⟩,hw2⟩;rw[hw2];clear hw2 HLG HI;go_wp2_with fail
  refine(HN.out val).mono ?_;rintro e w3⟨rfl,hb3⟩;have HZ:=hide (HE.out w3 hb3);clear hb3 HN HE;go_wp2_with fail
  refine(cnumL 1 _).mono ?_;rintro e w4⟨rfl,hw⟩;rw[hw];clear hw;go_wp2_with fail
  go_ret;exact⟨rfl,HZ.out⟩
theorem cstep3 [Oth]{d:Nat}{t:T d}(h:TS w B D Gp V K pk m A fl pages)(hm:m<=28000)(hpg:pages<=55000)(hT:Tr A fl pages os t es)(ht:TB w tb Gp (numT d t))(hM:MpV w mb v es)(hB:B<=mb)(hd:d<=20)(hes:es.length<=1000)(hsz:s.size<=140737488355328):Calls prog 14 #[(.pointer (some ⟨Gp,0,none⟩)),(.pointer (some ⟨tb,0,none⟩)),(.pointer (some ⟨mb,0,none⟩)),(.agg #[.int .i64 3,.int .i64 af,.int .i64 aa,.int .i64 an,.string s,.string tt,.slice kp kn kc,.slice ca cn cc])] w λe w'=>e=.returned (.bool true)∧stepP w B D Gp K pk m pages os (numT d t) tb mb d es.length w':=by
 have hb:Below w.heap.size w (w.alloc (.cells #[.int .i64 3,.int .i64 af,.int .i64 aa,.int .i64 an,.string s,.string tt,.slice kp kn kc,.slice ca cn cc] 45)):=((Below.refl _ _).alloc (Nat.le_refl _) _);obtain⟨h1,s1⟩:=h.below hb;have q0:(w.alloc (.cells #[.int .i64 3,.int .i64 af,.int .i64 aa,.int .i64 an,.string s,.string tt,.slice kp kn kc,.slice ca cn cc] 45)).heap[w.heap.size]?=some (.cells #[.int .i64 3,.int .i64 af,.int .i64 aa,.int .i64 an,.string s,.string tt,.slice kp kn kc,.slice ca cn cc] 45 (0,0)):=heap_alloc_new w _;have HI:=hide (λ(Y:World)=>cIsKey s Y (by omega));by_cases hk:okK s
 ·have hkd:decide (0<s.size∧s.size<=200)=true:=decide_eq_true hk;rw[hkd] at HI;have HP:=hide (cDelete h1 hm hpg hT (h.stayTB s1 ht) s hk hd);have HD:=hide (λ(Y:World) (V2:PV) (y:St2 (w.alloc (.cells #[.int .i64 3,.int .i64 af,.int .i64 aa,.int .i64 an,.string s,.string tt,.slice kp kn kc,.slice ca cn cc] 45)) Y B V V2)=>(show Y.cell? ⟨w.heap.size,4,none⟩=some (.string s)∧MpV Y mb v es∧TB Y tb Gp (numT d t)∧LF B mb w Y from⟨by
   have:=h1.stay y q0 (by decide);simp[World.cell?,this],h1.stayMp y (h.stayMp s1 hM),h1.stayTB y (h.stayTB s1 ht),h.lf (s1.trans y) mb⟩))
  clear h h1 hT ht hM hb s1 hk hkd q0;go_enter func14,ntmps14;go_wp2_with fail
  refine(HI.out _).mono ?_;rintro e w1⟨rfl,hw⟩;rw[hw];clear hw;go_wp2_with fail
  refine HP.out.mono ?_;rintro e w3⟨is,rfl,V3,A3,fl3,pages3,d3,t3,es3,p1,p2,p3,p4,p5,p6⟩;obtain⟨d4,m1,m2,m3⟩:=HD.out w3 V3 p5;have HMP:=hide (cMapDel m1 s is p4 (by omega));have HQ:=hide (show ∀(w4:World) (v4:Value),MpV w4 mb v4 es3->w3.grownBy w4 (some mb)->stepP w B D Gp K pk m pages os (numT d t) tb mb d es.length w4 from λw4 v4 y1 y2=>⟨V3,_,A3,fl3,pages3,d3,t3,es3,v4,p1.other y2 ⟨_,m1.blk⟩ (by decide),p2,p3,(lf_map y2 hB p1.lo).tb2 m1 m2,y1,m3.trans (lf_map y2 hB p1.lo),Nat.le_refl _,p6,delR_len p4⟩);clear p1 p2 p3 p4 p5 p6 m1 m2 m3 HP HD HI;go_wp2_with fail
  refine HMP.out.mono ?_;rintro e w5⟨rfl,v5,y1,y2⟩;have HZ:=hide (HQ.out w5 v5 y1 y2);clear y1 y2 HMP HQ;go_wp2_with fail
  refine(cnumL 0 _).mono ?_;rintro e w6⟨rfl,hw⟩;rw[hw];clear hw;go_wp2_with fail
  go_ret;exact⟨rfl,HZ.out⟩
 ·have hkd:decide (0<s.size∧s.size<=200)=false:=decide_eq_false hk;rw[hkd] at HI;have HN:=hide (cDelN (w:=w.alloc (.cells #[.int .i64 3,.int .i64 af,.int .i64 aa,.int .i64 an,.string s,.string tt,.slice kp kn kc,.slice ca cn cc] 45)) (tb:=tb) s hk (by omega));have HE:=hide (λ(Y:World) (hY:Below (w.alloc (.cells #[.int .i64 3,.int .i64 af,.int .i64 aa,.int .i64 an,.string s,.string tt,.slice kp kn kc,.slice ca cn cc] 45)).heap.size (w.alloc (.cells #[.int .i64 3,.int .i64 af,.int .i64 aa,.int .i64 an,.string s,.string tt,.slice kp kn kc,.slice ca cn cc] 45)) Y)=>stepP.same h hT ht hM (h1.below hY).1 (s1.trans (h1.below hY).2));clear h h1 hT ht hM hb s1 hk hkd q0;go_enter func14,ntmps14;go_wp2_with fail
  refine(HI.out _).mono ?_;rintro e w1⟨rfl,hw⟩;rw[hw];clear hw;go_wp2_with fail
  refine HN.out.mono ?_;rintro e w3⟨rfl,hb3⟩;have HZ:=hide (HE.out w3 hb3);clear hb3 HN HE HI;go_wp2_with fail
  refine(cnumL 1 _).mono ?_;rintro e w4⟨rfl,hw⟩;rw[hw];clear hw;go_wp2_with fail
  go_ret;exact⟨rfl,HZ.out⟩
theorem cstep4 [Oth]{d:Nat}{t:T d}(h:TS w B D Gp V K pk m A fl pages)(hm:m<=40000)(hT:Tr A fl pages os t es)(ht:TB w tb Gp (numT d t))(hM:MpV w mb v es)(hes:es.length<=1000)(hsz:s.size<=140737488355328):Calls prog 14 #[(.pointer (some ⟨Gp,0,none⟩)),(.pointer (some ⟨tb,0,none⟩)),(.pointer (some ⟨mb,0,none⟩)),(.agg #[.int .i64 4,.int .i64 af,.int .i64 aa,.int .i64 an,.string s,.string tt,.slice kp kn kc,.slice ca cn cc])] w λe w'=>e=.returned (.bool true)∧stepP w B D Gp K pk m pages os (numT d t) tb mb d es.length w':=by
 have hb:Below w.heap.size w (w.alloc (.cells #[.int .i64 4,.int .i64 af,.int .i64 aa,.int .i64 an,.string s,.string tt,.slice kp kn kc,.slice ca cn cc] 45)):=((Below.refl _ _).alloc (Nat.le_refl _) _);obtain⟨h1,s1⟩:=h.below hb;have q0:(w.alloc (.cells #[.int .i64 4,.int .i64 af,.int .i64 aa,.int .i64 an,.string s,.string tt,.slice kp kn kc,.slice ca cn cc] 45)).heap[w.heap.size]?=some (.cells #[.int .i64 4,.int .i64 af,.int .i64 aa,.int .i64 an,.string s,.string tt,.slice kp kn kc,.slice ca cn cc] 45 (0,0)):=heap_alloc_new w _;have HI:=hide (λ(Y:World)=>cIsKey s Y (by omega));have HC:=hide (cScan h1 hm hT (h.stayTB s1 ht) s tt an (by omega));have HSL:=hide (show(scanE an false s tt es).length<=100000 from by
  unfold scanE;refine Nat.le_trans (addM_len _) ?_;rw[dir_len];have:=List.length_filter_le (λe:Ent=>inR s tt e.1) es;simp;omega)
 have HD:=hide (λ(Y:World) (V2:PV) (y:St2 (w.alloc (.cells #[.int .i64 4,.int .i64 af,.int .i64 aa,.int .i64 an,.string s,.string tt,.slice kp kn kc,.slice ca cn cc] 45)) Y B V V2)=>(show(Y.cell? ⟨w.heap.size,4,none⟩=some (.string s)∧Y.cell? ⟨w.heap.size,5,none⟩=some (.string tt)∧Y.cell? ⟨w.heap.size,3,none⟩=some (.int .i64 an))∧MpV Y mb v es from by
  have hq:=h1.stay y q0 (by decide);exact⟨⟨by simp[World.cell?,hq],by simp[World.cell?,hq],by simp[World.cell?,hq]⟩,h1.stayMp y (h.stayMp s1 hM)⟩))
 have HST:=hide (λ(w3 w4:World) (V3:PV) (fv:Value) (n:Nat) (xs:List Value) (y1:TS w3 B D Gp V3 K pk m A fl pages) (y2:St2 (w.alloc (.cells #[.int .i64 4,.int .i64 af,.int .i64 aa,.int .i64 an,.string s,.string tt,.slice kp kn kc,.slice ca cn cc] 45)) w3 B V V3) (y3:w3.ownsRow (w.alloc (.cells #[.int .i64 4,.int .i64 af,.int .i64 aa,.int .i64 an,.string s,.string tt,.slice kp kn kc,.slice ca cn cc] 45)).heap.size 116 2 fv n xs) (y4:w3.grownBy w4 fv.ownBlock)=>step_told h hT ht hM y1 (s1.trans y2) y3 (by simp) y4);clear h h1 hT ht hM hb s1 q0;cases hk:decide (0<s.size∧s.size<=200) with
 | true =>
  rw[hk] at HI;clear hk;go_enter func14,ntmps14;go_wp2_with fail
  refine(HI.out _).mono ?_;rintro e w1⟨rfl,hw⟩;rw[hw];clear hw;go_wp2_with fail
  refine HC.out.mono ?_;rintro e w2⟨fv,V2,rfl,p1,p2,p3⟩;obtain⟨⟨d4,d5,d3⟩,m1⟩:=HD.out w2 V2 p2;obtain⟨a9,c9,rfl⟩:=own_formN p3;have HMS:=hide (cMapScan m1 s tt an (by omega));have HP:=hide (And.intro p1 (And.intro p2 p3));clear p1 p2 p3 m1 HC HD HI;go_wp2_with fail
  refine HMS.out.mono ?_;rintro e w3⟨fm,rfl,hb3,ho3⟩;obtain⟨h3,s3⟩:=HP.out.1.below hb3;have hr3:=row_keep HP.out.2.2 (w':=w3) λg hg=>hb3.block g (World.ownsRow.lt HP.out.2.2 g hg).2
  have HTO:=hide (ctold hr3 (row_el ho3) (HSL.out) (Nat.le_trans HP.out.2.1.bel.size hb3.size));have HZ:=hide (λ(w4:World) (hg:w3.grownBy w4 (Value.slice a9 (scanE an false s tt es).length c9).ownBlock)=>HST.out w3 w4 V2 _ _ _ h3 (HP.out.2.1.trans s3) hr3 hg);obtain⟨a8,c8,rfl⟩:=own_formN ho3;clear hb3 ho3 h3 s3 hr3 HMS HP HST;go_wp2_with fail
  refine HTO.out.mono ?_;rintro e w4⟨rfl,hg4⟩;have HY:=hide (HZ.out w4 hg4);clear hg4 HTO HZ;go_wp2_with fail
  refine(cnumL 0 _).mono ?_;rintro e w5⟨rfl,hw⟩;rw[hw];clear hw;go_wp2_with fail
  go_ret;exact⟨rfl,HY.out⟩
 | false =>
  rw[hk] at HI;clear hk;go_enter func14,ntmps14;go_wp2_with fail
  refine(HI.out _).mono ?_;rintro e w1⟨rfl,hw⟩;rw[hw];clear hw;go_wp2_with fail
  refine HC.out.mono ?_;rintro e w2⟨fv,V2,rfl,p1,p2,p3⟩;obtain⟨⟨d4,d5,d3⟩,m1⟩:=HD.out w2 V2 p2;obtain⟨a9,c9,rfl⟩:=own_formN p3;have HMS:=hide (cMapScan m1 s tt an (by omega));have HP:=hide (And.intro p1 (And.intro p2 p3));clear p1 p2 p3 m1 HC HD HI;go_wp2_with fail
  refine HMS.out.mono ?_;rintro e w3⟨fm,rfl,hb3,ho3⟩;obtain⟨h3,s3⟩:=HP.out.1.below hb3;have hr3:=row_keep HP.out.2.2 (w':=w3) λg hg=>hb3.block g (World.ownsRow.lt HP.out.2.2 g hg).2
  have HTO:=hide (ctold hr3 (row_el ho3) (HSL.out) (Nat.le_trans HP.out.2.1.bel.size hb3.size));have HZ:=hide (λ(w4:World) (hg:w3.grownBy w4 (Value.slice a9 (scanE an false s tt es).length c9).ownBlock)=>HST.out w3 w4 V2 _ _ _ h3 (HP.out.2.1.trans s3) hr3 hg);obtain⟨a8,c8,rfl⟩:=own_formN ho3;clear hb3 ho3 h3 s3 hr3 HMS HP HST;go_wp2_with fail
  refine HTO.out.mono ?_;rintro e w4⟨rfl,hg4⟩;have HY:=hide (HZ.out w4 hg4);clear hg4 HTO HZ;go_wp2_with fail
  refine(cnumL 0 _).mono ?_;rintro e w5⟨rfl,hw⟩;rw[hw];clear hw;go_wp2_with fail
  go_ret;exact⟨rfl,HY.out⟩
theorem cstep5 [Oth]{d:Nat}{t:T d}(h:TS w B D Gp V K pk m A fl pages)(hm:m<=40000)(hT:Tr A fl pages os t es)(ht:TB w tb Gp (numT d t))(hM:MpV w mb v es)(hes:es.length<=1000)(hsz:s.size<=140737488355328):Calls prog 14 #[(.pointer (some ⟨Gp,0,none⟩)),(.pointer (some ⟨tb,0,none⟩)),(.pointer (some ⟨mb,0,none⟩)),(.agg #[.int .i64 5,.int .i64 af,.int .i64 aa,.int .i64 an,.string s,.string tt,.slice kp kn kc,.slice ca cn cc])] w λe w'=>e=.returned (.bool true)∧stepP w B D Gp K pk m pages os (numT d t) tb mb d es.length w':=by
 have hb:Below w.heap.size w (w.alloc (.cells #[.int .i64 5,.int .i64 af,.int .i64 aa,.int .i64 an,.string s,.string tt,.slice kp kn kc,.slice ca cn cc] 45)):=((Below.refl _ _).alloc (Nat.le_refl _) _);obtain⟨h1,s1⟩:=h.below hb;have q0:(w.alloc (.cells #[.int .i64 5,.int .i64 af,.int .i64 aa,.int .i64 an,.string s,.string tt,.slice kp kn kc,.slice ca cn cc] 45)).heap[w.heap.size]?=some (.cells #[.int .i64 5,.int .i64 af,.int .i64 aa,.int .i64 an,.string s,.string tt,.slice kp kn kc,.slice ca cn cc] 45 (0,0)):=heap_alloc_new w _;have HI:=hide (λ(Y:World)=>cIsKey s Y (by omega));have HC:=hide (cBack h1 hm hT (h.stayTB s1 ht) s tt an (by omega));have HSL:=hide (show(scanE an true s tt es).length<=100000 from by
  unfold scanE;refine Nat.le_trans (addM_len _) ?_;rw[dir_len];have:=List.length_filter_le (λe:Ent=>inR s tt e.1) es;simp;omega)
 have HD:=hide (λ(Y:World) (V2:PV) (y:St2 (w.alloc (.cells #[.int .i64 5,.int .i64 af,.int .i64 aa,.int .i64 an,.string s,.string tt,.slice kp kn kc,.slice ca cn cc] 45)) Y B V V2)=>(show(Y.cell? ⟨w.heap.size,4,none⟩=some (.string s)∧Y.cell? ⟨w.heap.size,5,none⟩=some (.string tt)∧Y.cell? ⟨w.heap.size,3,none⟩=some (.int .i64 an))∧MpV Y mb v es from by
  have hq:=h1.stay y q0 (by decide);exact⟨⟨by simp[World.cell?,hq],by simp[World.cell?,hq],by simp[World.cell?,hq]⟩,h1.stayMp y (h.stayMp s1 hM)⟩))
 have HST:=hide (λ(w3 w4:World) (V3:PV) (fv:Value) (n:Nat) (xs:List Value) (y1:TS w3 B D Gp V3 K pk m A fl pages) (y2:St2 (w.alloc (.cells #[.int .i64 5,.int .i64 af,.int .i64 aa,.int .i64 an,.string s,.string tt,.slice kp kn kc,.slice ca cn cc] 45)) w3 B V V3) (y3:w3.ownsRow (w.alloc (.cells #[.int .i64 5,.int .i64 af,.int .i64 aa,.int .i64 an,.string s,.string tt,.slice kp kn kc,.slice ca cn cc] 45)).heap.size 116 2 fv n xs) (y4:w3.grownBy w4 fv.ownBlock)=>step_told h hT ht hM y1 (s1.trans y2) y3 (by simp) y4);clear h h1 hT ht hM hb s1 q0;cases hk:decide (0<s.size∧s.size<=200) with
 | true =>
  rw[hk] at HI;clear hk;go_enter func14,ntmps14;go_wp2_with fail
  refine(HI.out _).mono ?_;rintro e w1⟨rfl,hw⟩;rw[hw];clear hw;go_wp2_with fail
  refine HC.out.mono ?_;rintro e w2⟨fv,V2,rfl,p1,p2,p3⟩;obtain⟨⟨d4,d5,d3⟩,m1⟩:=HD.out w2 V2 p2;obtain⟨a9,c9,rfl⟩:=own_formN p3;have HMS:=hide (cMapBack m1 s tt an (by omega));have HP:=hide (And.intro p1 (And.intro p2 p3));clear p1 p2 p3 m1 HC HD HI;go_wp2_with fail
  refine HMS.out.mono ?_;rintro e w3⟨fm,rfl,hb3,ho3⟩;obtain⟨h3,s3⟩:=HP.out.1.below hb3;have hr3:=row_keep HP.out.2.2 (w':=w3) λg hg=>hb3.block g (World.ownsRow.lt HP.out.2.2 g hg).2
  have HTO:=hide (ctold hr3 (row_el ho3) (HSL.out) (Nat.le_trans HP.out.2.1.bel.size hb3.size));have HZ:=hide (λ(w4:World) (hg:w3.grownBy w4 (Value.slice a9 (scanE an true s tt es).length c9).ownBlock)=>HST.out w3 w4 V2 _ _ _ h3 (HP.out.2.1.trans s3) hr3 hg);obtain⟨a8,c8,rfl⟩:=own_formN ho3;clear hb3 ho3 h3 s3 hr3 HMS HP HST;go_wp2_with fail
  refine HTO.out.mono ?_;rintro e w4⟨rfl,hg4⟩;have HY:=hide (HZ.out w4 hg4);clear hg4 HTO HZ;go_wp2_with fail
  refine(cnumL 0 _).mono ?_;rintro e w5⟨rfl,hw⟩;rw[hw];clear hw;go_wp2_with fail
  go_ret;exact⟨rfl,HY.out⟩
 | false =>
  rw[hk] at HI;clear hk;go_enter func14,ntmps14;go_wp2_with fail
  refine(HI.out _).mono ?_;rintro e w1⟨rfl,hw⟩;rw[hw];clear hw;go_wp2_with fail
  refine HC.out.mono ?_;rintro e w2⟨fv,V2,rfl,p1,p2,p3⟩;obtain⟨⟨d4,d5,d3⟩,m1⟩:=HD.out w2 V2 p2;obtain⟨a9,c9,rfl⟩:=own_formN p3;have HMS:=hide (cMapBack m1 s tt an (by omega));have HP:=hide (And.intro p1 (And.intro p2 p3));clear p1 p2 p3 m1 HC HD HI;go_wp2_with fail
  refine HMS.out.mono ?_;rintro e w3⟨fm,rfl,hb3,ho3⟩;obtain⟨h3,s3⟩:=HP.out.1.below hb3;have hr3:=row_keep HP.out.2.2 (w':=w3) λg hg=>hb3.block g (World.ownsRow.lt HP.out.2.2 g hg).2
  have HTO:=hide (ctold hr3 (row_el ho3) (HSL.out) (Nat.le_trans HP.out.2.1.bel.size hb3.size));have HZ:=hide (λ(w4:World) (hg:w3.grownBy w4 (Value.slice a9 (scanE an true s tt es).length c9).ownBlock)=>HST.out w3 w4 V2 _ _ _ h3 (HP.out.2.1.trans s3) hr3 hg);obtain⟨a8,c8,rfl⟩:=own_formN ho3;clear hb3 ho3 h3 s3 hr3 HMS HP HST;go_wp2_with fail
  refine HTO.out.mono ?_;rintro e w4⟨rfl,hg4⟩;have HY:=hide (HZ.out w4 hg4);clear hg4 HTO HZ;go_wp2_with fail
  refine(cnumL 0 _).mono ?_;rintro e w5⟨rfl,hw⟩;rw[hw];clear hw;go_wp2_with fail
  go_ret;exact⟨rfl,HY.out⟩
end
end
theorem cstep6 (h:TS w B D Gp V K pk m A fl pages)(hm:m<=40000)(hsz:s.size<=140737488355328):Calls prog 14 #[(.pointer (some ⟨Gp,0,none⟩)),(.pointer (some ⟨tb,0,none⟩)),(.pointer (some ⟨mb,0,none⟩)),(.agg #[.int .i64 6,.int .i64 af,.int .i64 aa,.int .i64 an,.string s,.string tt,.slice kp kn kc,.slice ca cn cc])] w λe w'=>e=.returned (.bool true)∧∃V' K',TS w' B D Gp V' K' pages (m+2) A fl pages∧KS K' pages A fl∧St2 w w' B V V':=by
 have hb:Below w.heap.size w (w.alloc (.cells #[.int .i64 6,.int .i64 af,.int .i64 aa,.int .i64 an,.string s,.string tt,.slice kp kn kc,.slice ca cn cc] 45)):=((Below.refl _ _).alloc (Nat.le_refl _) _);obtain⟨h1,s1⟩:=h.below hb;have HI:=hide (λ(Y:World)=>cIsKey s Y (by omega));have HC:=hide (ctcommit h1 hm);have HS:=hide s1;clear h h1 hb s1;cases hk:decide (0<s.size∧s.size<=200) with
 | true =>
  rw[hk] at HI;clear hk;go_enter func14,ntmps14;go_wp2_with fail
  refine(HI.out _).mono ?_;rintro e w1⟨rfl,hw⟩;rw[hw];clear hw;go_wp2_with fail
  refine HC.out.mono ?_;rintro e w2⟨rfl,V2,K2,p1,p2,p3⟩;have HP:=hide (And.intro p1 (And.intro p2 (HS.out.trans p3)));clear p1 p2 p3 HC HI;go_wp2_with fail
  refine(cnumL 0 _).mono ?_;rintro e w3⟨rfl,hw⟩;rw[hw];clear hw;go_wp2_with fail
  go_ret;exact⟨rfl,V2,K2,HP.out⟩
 | false =>
  rw[hk] at HI;clear hk;go_enter func14,ntmps14;go_wp2_with fail
  refine(HI.out _).mono ?_;rintro e w1⟨rfl,hw⟩;rw[hw];clear hw;go_wp2_with fail
  refine HC.out.mono ?_;rintro e w2⟨rfl,V2,K2,p1,p2,p3⟩;have HP:=hide (And.intro p1 (And.intro p2 (HS.out.trans p3)));clear p1 p2 p3 HC HI;go_wp2_with fail
  refine(cnumL 0 _).mono ?_;rintro e w3⟨rfl,hw⟩;rw[hw];clear hw;go_wp2_with fail
  go_ret;exact⟨rfl,V2,K2,HP.out⟩
theorem cstep8 (h:TS w B D Gp V K pk m A fl pages)(hm:m<=40000)(hK:KS K pk Ak flk)(hsz:s.size<=140737488355328):Calls prog 14 #[(.pointer (some ⟨Gp,0,none⟩)),(.pointer (some ⟨tb,0,none⟩)),(.pointer (some ⟨mb,0,none⟩)),(.agg #[.int .i64 8,.int .i64 af,.int .i64 aa,.int .i64 an,.string s,.string tt,.slice kp kn kc,.slice ca cn cc])] w λe w'=>e=.returned (.bool true)∧∃V',TS w' B D Gp V' K pk m Ak flk pk∧St2 w w' B V V':=by
 have hb:Below w.heap.size w (w.alloc (.cells #[.int .i64 8,.int .i64 af,.int .i64 aa,.int .i64 an,.string s,.string tt,.slice kp kn kc,.slice ca cn cc] 45)):=((Below.refl _ _).alloc (Nat.le_refl _) _);obtain⟨h1,s1⟩:=h.below hb;have HI:=hide (λ(Y:World)=>cIsKey s Y (by omega));have HC:=hide (ctrollback h1 (by omega) hK);have HS:=hide s1;clear h h1 hb s1;cases hk:decide (0<s.size∧s.size<=200) with
 | true =>
  rw[hk] at HI;clear hk;go_enter func14,ntmps14;go_wp2_with fail
  refine(HI.out _).mono ?_;rintro e w1⟨rfl,hw⟩;rw[hw];clear hw;go_wp2_with fail
  refine HC.out.mono ?_;rintro e w2⟨rfl,V2,p1,p3⟩;have HP:=hide (And.intro p1 (HS.out.trans p3));clear p1 p3 HC HI;go_wp2_with fail
  refine(cnumL 0 _).mono ?_;rintro e w3⟨rfl,hw⟩;rw[hw];clear hw;go_wp2_with fail
  go_ret;exact⟨rfl,V2,HP.out⟩
 | false =>
  rw[hk] at HI;clear hk;go_enter func14,ntmps14;go_wp2_with fail
  refine(HI.out _).mono ?_;rintro e w1⟨rfl,hw⟩;rw[hw];clear hw;go_wp2_with fail
  refine HC.out.mono ?_;rintro e w2⟨rfl,V2,p1,p3⟩;have HP:=hide (And.intro p1 (HS.out.trans p3));clear p1 p3 HC HI;go_wp2_with fail
  refine(cnumL 0 _).mono ?_;rintro e w3⟨rfl,hw⟩;rw[hw];clear hw;go_wp2_with fail
  go_ret;exact⟨rfl,V2,HP.out⟩
theorem cstepN (ak:Int)(h1:¬ak=1)(h2:¬ak=2)(h3:¬ak=3)(h4:¬ak=4)(h5:¬ak=5)(h6:¬ak=6)(h8:¬ak=8)(hsz:s.size<=140737488355328):Calls prog 14 #[(.pointer (some ⟨Gp,0,none⟩)),(.pointer (some ⟨tb,0,none⟩)),(.pointer (some ⟨mb,0,none⟩)),(.agg #[.int .i64 ak,.int .i64 af,.int .i64 aa,.int .i64 an,.string s,.string tt,.slice kp kn kc,.slice ca cn cc])] w λe w'=>e=.returned (.bool true)∧Below w.heap.size w w':=by
 have hb:Below w.heap.size w (w.alloc (.cells #[.int .i64 ak,.int .i64 af,.int .i64 aa,.int .i64 an,.string s,.string tt,.slice kp kn kc,.slice ca cn cc] 45)):=((Below.refl _ _).alloc (Nat.le_refl _) _);have HI:=hide (λ(Y:World)=>cIsKey s Y (by omega));have HB:=hide hb;clear hb;cases hk:decide (0<s.size∧s.size<=200) with
 | true =>
  rw[hk] at HI;clear hk;go_enter func14,ntmps14;go_wp2_with fail
  refine(HI.out _).mono ?_;rintro e w1⟨rfl,hw⟩;rw[hw];clear hw;go_wp2_with fail
  go_ret;exact⟨rfl,HB.out⟩
 | false =>
  rw[hk] at HI;clear hk;go_enter func14,ntmps14;go_wp2_with fail
  refine(HI.out _).mono ?_;rintro e w1⟨rfl,hw⟩;rw[hw];clear hw;go_wp2_with fail
  go_ret;exact⟨rfl,HB.out⟩
theorem Tr.remade [Oth]{A1 A2:Nat->PgV}{fl1 fl2:List Nat}{pages2:Nat}(hT:Tr A fl pages [] t es)(hh:Hold fl1 pages (Oth.l.map (·.1)++[]))(hs:∀y,¬y=0->¬y∈numsT d t->A1 y=A y)(hr:AllR A1 fl1 pages n A2 fl2 pages2):Tr (updA A2 n ⟨1,0,[]⟩) fl2 pages2 [] (d:=0) (⟨n,0,[]⟩:Lf) []:=by
 have hp:=hr.perm _ hh;refine tr_new hp (updA_at _ _ _) (λp hpm=>?_);have hm1:p.1∈Oth.l.map (·.1):=List.mem_map.2 ⟨p,hpm,rfl⟩;have h0:=(hh.mem (n:=p.1) (by simp[hm1])).1;have hnn:¬p.1=n:=λe=>by
  have hd:=hp.nodup_iff.2 List.nodup_range;rw[List.nodup_cons,List.nodup_append] at hd;have:=hd.2.2.1;rw[List.nodup_cons] at this;exact this.1 (by rw[<-e];simp[hm1])
 have hnt:¬p.1∈numsT d t:=λhmem=>by
  have hd:=hT.sx.nd;rw[List.nodup_cons,List.nodup_append] at hd;have hd2:=hd.2.2.1;unfold restN at hd2;simp only[nod1,List.map_append,List.append_nil] at hd2;rw[List.nodup_cons,List.nodup_append] at hd2;unfold numsT at hmem;rw[nodT_eq,List.map_cons,List.mem_cons] at hmem;rcases hmem with e | hmem
  ·have e':p.1=numT d t:=e;exact hd2.1 (List.mem_append_right _ (by rw[<-e'];exact hm1))
  ·exact hd2.2.2.2 _ hmem _ hm1 rfl
 rw[updA_ne _ _ hnn,hr.same _ (by omega) hnn,hs _ (by omega) hnt];exact hT.sx.rep p (by unfold restN;exact List.mem_append_right _ hpm)
structure LF2 (B tg mb:Nat) (w w':World):Prop where
 keep:∀(c:Nat) (cs:Array Value) (t:TypeId),w.heap[c]?=some (.cells cs t (0,0))->tyQ t=false->¬c=mb->¬c=tg->w'.heap[c]?=some (.cells cs t (0,0))
 bel:Below B w w'
section
variable {w w' X Y:World}{B D Gp:Nat}{V V':PV}{K:Pgs}{pk m:Nat}{A:Nat->PgV}{fl:List Nat}{pages tb mb tg mg k tcap mcap:Nat}{es:List Ent}{v:Value}{cur cum:Array Value}
theorem cdropped [Oth]{d:Nat}{t:T d}(h:TS w B D Gp V K pk m A fl pages)(hm:m+2*(numsT d t).length<=37000)(hpg:pages<=55000)(hT:Tr A fl pages [] t es)(ht:TB w tb Gp (numT d t))(hM:MpV w mb v es)(hB:B<=mb∧B<=tg)(hk:k<2)(hg:w.heap[tg]?=some (.cells cur 38 (0,0)))(hgk:cur[k]?=some (.pointer (some ⟨tb,0,none⟩)))(hmg:w.heap[mg]?=some (.cells cum 31 (0,0)))(hmk:cum[k]?=some (.pointer (some ⟨mb,0,none⟩))):Calls prog 13 #[(.pointer (some ⟨Gp,0,none⟩)),.slice (some ⟨tg,0,none⟩) 2 tcap,.slice (some ⟨mg,0,none⟩) 2 mcap,.int .i64 (k:Int)] w λe w'=>e=.returned (.bool true)∧∃(V':PV) (K':Pgs) (A':Nat->PgV) (fl':List Nat) (pages' n tb':Nat),TS w' B D Gp V' K' pages' (m+2*(numsT d t).length+5) A' fl' pages'∧KS K' pages' A' fl'∧Tr A' fl' pages' [] (d:=0) (⟨n,0,[]⟩:Lf) []∧TB w' tb' Gp n∧w.heap.size<=tb'∧w'.heap[tg]?=some (.cells (cur.setIfInBounds k (.pointer (some ⟨tb',0,none⟩))) 38 (0,0))∧MpV w' mb (.slice none 0 0) []∧LF2 B tg mb w w'∧pages'<=pages+1:=by
 have k0:(0:Int)<=(k:Int):=by omega
 have k2:(k:Int)<2:=by omega
 have c0:w.cell? ⟨tg,k,none⟩=some (.pointer (some ⟨tb,0,none⟩)):=by simp[World.cell?,hg,hgk]
 have HD:=hide (cDrop h (by omega) hT ht);have H:=hide (show TS w B D Gp V K pk m A fl pages∧Tr A fl pages [] t es∧MpV w mb v es∧w.heap[tg]?=some (.cells cur 38 (0,0))∧w.heap[mg]?=some (.cells cum 31 (0,0))∧B<=mb∧B<=tg from⟨h,hT,hM,hg,hmg,hB⟩);have hne:¬tg=mb:=λe=>by
  rw[e,hM.blk] at hg;injection hg with hg;injection hg with _ hg _;exact absurd hg (by decide)
 have hne2:¬mg=tg:=λe=>by
  rw[e,hg] at hmg;injection hmg with hmg;injection hmg with _ hmg _;exact absurd hmg (by decide)
 have hkl:k<cur.size:=(gl hgk);clear h hT ht hM hg hmg hgk;go_enter func13,ntmps13;go_wp2_with fail
 refine HD.out.mono ?_;rintro e w1⟨rfl,V1,A1,fl1,p1,p2,p3,p4⟩;have HC:=hide (cCreate p1 (by omega) (by omega) p3);have H1:=hide (show TS w1 B D Gp V1 K pk (m+2*(numsT d t).length) A1 fl1 pages∧St2 w w1 B V V1∧Hold fl1 pages (Oth.l.map (·.1)++[])∧∀y,¬y=0->¬y∈numsT d t->A1 y=A y from⟨p1,p2,p3,p4⟩);clear p1 p2 p3 p4 HD c0;go_wp2_with fail
 refine(cnumL 0 _).mono ?_;rintro e w9⟨rfl,hw⟩;rw[hw];clear hw;go_wp2_with fail
 refine HC.out.mono ?_;rintro e w2⟨n,rfl,V2,A2,fl2,pages2,r1,r2,r3⟩;have H2:=hide (show TS w2 B D Gp V2 K pk (m+2*(numsT d t).length+3) (updA A2 n ⟨1,0,[]⟩) fl2 pages2∧St2 w w2 B V V2∧Tr (updA A2 n ⟨1,0,[]⟩) fl2 pages2 [] (d:=0) (⟨n,0,[]⟩:Lf) []∧pages2<=pages+1 from⟨r1,H1.out.2.1.trans r2,H.out.2.1.remade H1.out.2.2.1 H1.out.2.2.2 r3,r3.pgs.2⟩);clear r1 r2 r3 HC H1;go_wp2_with fail
 refine(cOpenT Gp n w2).mono ?_;rintro e w3⟨rfl,t3,hb3⟩;obtain⟨h3,s3⟩:=H2.out.1.below hb3;have hs3:=H2.out.2.1.trans s3;have g3:w3.heap[tg]?=some (.cells cur 38 (0,0)):=H.out.1.stay hs3 H.out.2.2.2.1 (by decide);have m3:w3.heap[mg]?=some (.cells cum 31 (0,0)):=H.out.1.stay hs3 H.out.2.2.2.2.1 (by decide);have hM3:=H.out.1.stayMp hs3 H.out.2.2.1;have c1:w3.cell? ⟨tg,k,none⟩=some cur[k]:=by simp[World.cell?,g3,hkl]
 have c2:w3.frozen? ⟨tg,k,none⟩=false:=by simp[World.frozen?,g3]
 have hgl:tg<w3.heap.size:=(gl g3);have gr3:=set_grown w3 tg k (.pointer (some ⟨w2.heap.size,0,none⟩));have c3:(w3.setCell ⟨tg,k,none⟩ (.pointer (some ⟨w2.heap.size,0,none⟩))).cell? ⟨mg,k,none⟩=some (.pointer (some ⟨mb,0,none⟩)):=by
  have e:=(gr3.block mg (gl m3) (λe=>hne2 (by injection e))).trans m3;simp[World.cell?,e,hmk]
 have b4:(w3.setCell ⟨tg,k,none⟩ (.pointer (some ⟨w2.heap.size,0,none⟩))).heap[mb]?=some (.cells #[v] 34 (0,0)):=(gr3.block mb hM3.cells.2.2 (λe=>hne (by injection e with e;exact e.symm))).trans hM3.blk;have c4:(w3.setCell ⟨tg,k,none⟩ (.pointer (some ⟨w2.heap.size,0,none⟩))).cell? ⟨mb,0,none⟩=some v:=by simp[World.cell?,b4]
 have c5:(w3.setCell ⟨tg,k,none⟩ (.pointer (some ⟨w2.heap.size,0,none⟩))).frozen? ⟨mb,0,none⟩=false:=by simp[World.frozen?,b4]
 have hml:mb<(w3.setCell ⟨tg,k,none⟩ (.pointer (some ⟨w2.heap.size,0,none⟩))).heap.size:=(gl b4);have hT4:=h3.other gr3 ⟨_,g3⟩ (by decide);have gr4:=set_grown (w3.setCell ⟨tg,k,none⟩ (.pointer (some ⟨w2.heap.size,0,none⟩))) mb 0 (.slice none 0 0);have hT5:=hT4.other gr4 ⟨_,b4⟩ (by decide);have HF:=hide (show TS ((w3.setCell ⟨tg,k,none⟩ (.pointer (some ⟨w2.heap.size,0,none⟩))).setCell ⟨mb,0,none⟩ (.slice none 0 0)) B D Gp V2 K pk (m+2*(numsT d t).length+3) (updA A2 n ⟨1,0,[]⟩) fl2 pages2∧TB ((w3.setCell ⟨tg,k,none⟩ (.pointer (some ⟨w2.heap.size,0,none⟩))).setCell ⟨mb,0,none⟩ (.slice none 0 0)) w2.heap.size Gp n∧((w3.setCell ⟨tg,k,none⟩ (.pointer (some ⟨w2.heap.size,0,none⟩))).setCell ⟨mb,0,none⟩ (.slice none 0 0)).heap[tg]?=some (.cells (cur.setIfInBounds k (.pointer (some ⟨w2.heap.size,0,none⟩))) 38 (0,0))∧MpV ((w3.setCell ⟨tg,k,none⟩ (.pointer (some ⟨w2.heap.size,0,none⟩))).setCell ⟨mb,0,none⟩ (.slice none 0 0)) mb (.slice none 0 0) []∧LF2 B tg mb w ((w3.setCell ⟨tg,k,none⟩ (.pointer (some ⟨w2.heap.size,0,none⟩))).setCell ⟨mb,0,none⟩ (.slice none 0 0))∧w.heap.size<=w2.heap.size from by
  have t3':w3.heap[w2.heap.size]?=_:=t3;have hw2l:=H2.out.2.1.bel.size;have htl:tg<w.heap.size:=(gl H.out.2.2.2.1);have hmbl:=H.out.2.2.1.cells.2.2;refine⟨hT5,?_,?_,⟨set_blk b4,World.ownsRow_nil _ _ _ _⟩,⟨λc cs ty hc hty n1 n2=>?_,?_⟩,hw2l⟩
  ·exact(gr4.block _ (Nat.lt_of_lt_of_le (gl t3') gr3.size) (λe=>by injection e with e;omega)).trans ((gr3.block _ (gl t3') (λe=>by injection e with e;omega)).trans t3')
  ·exact(gr4.block tg (Nat.lt_of_lt_of_le hgl gr3.size) (λe=>hne (by injection e))).trans (set_blk g3)
  ·have hc3:=H.out.1.stay hs3 hc hty;have hcl:=(gl hc3);exact(gr4.block c (Nat.lt_of_lt_of_le hcl gr3.size) (λe=>n1 (by injection e))).trans ((gr3.block c hcl (λe=>n2 (by injection e))).trans hc3)
  ·exact below_grown (below_grown hs3.bel.toBelow gr3 (λg e=>by injection e with e;have:=H.out.2.2.2.2.2.2;omega) h3.lo) gr4 (λg e=>by injection e with e;have:=H.out.2.2.2.2.2.1;omega) hT4.lo)
 have HC:=hide (ctcommit hT5 (by omega));clear t3 hb3 h3 s3 hs3 g3 m3 hM3 gr3 b4 hT4 gr4 hT5;go_wp2_with fail
 refine(cnumL 0 _).mono ?_;rintro e w8⟨rfl,hw⟩;rw[hw];clear hw;go_wp2_with fail
 refine HC.out.mono ?_;rintro e w5⟨rfl,V5,K5,z1,z2,z3⟩;have HE:=hide (show TS w5 B D Gp V5 K5 pages2 (m+2*(numsT d t).length+5) (updA A2 n ⟨1,0,[]⟩) fl2 pages2∧KS K5 pages2 (updA A2 n ⟨1,0,[]⟩) fl2∧TB w5 w2.heap.size Gp n∧w5.heap[tg]?=some (.cells (cur.setIfInBounds k (.pointer (some ⟨w2.heap.size,0,none⟩))) 38 (0,0))∧MpV w5 mb (.slice none 0 0) []∧LF2 B tg mb w w5 from⟨z1,z2,HF.out.1.stayTB z3 HF.out.2.1,HF.out.1.stay z3 HF.out.2.2.1 (by decide),HF.out.1.stayMp z3 HF.out.2.2.2.1,⟨λc cs ty hc hty n1 n2=>HF.out.1.stay z3 (HF.out.2.2.2.2.1.keep c cs ty hc hty n1 n2) hty,HF.out.2.2.2.2.1.bel.trans z3.bel.toBelow⟩⟩);clear z1 z2 z3 HC;go_wp2_with fail
 refine(cnumL 0 _).mono ?_;rintro e w7⟨rfl,hw⟩;rw[hw];clear hw;go_wp2_with fail
 go_ret;exact⟨rfl,V5,K5,_,fl2,pages2,n,w2.heap.size,HE.out.1,HE.out.2.1,H2.out.2.2.1,HE.out.2.2.1,HF.out.2.2.2.2.2,HE.out.2.2.2.1,HE.out.2.2.2.2.1,HE.out.2.2.2.2.2,H2.out.2.2.2⟩
end
structure MD where
 tb:Nat
 rt:Nat
 mb:Nat
 kb:Nat
 v:Value
 vk:Value
 em:List Ent
 ekm:List Ent
structure Mem (w0 X:World) (Gp tg mg kg:Nat) (q:Nat->MD):Prop where
 tb:∀j,j<2->TB X (q j).tb Gp (q j).rt
 mp:∀j,j<2->MpV X (q j).mb (q j).v (q j).em
 kp:∀j,j<2->MpV X (q j).kb (q j).vk (q j).ekm
 tr:∃cur,X.heap[tg]?=some (.cells cur 38 (0,0))∧∀j,j<2->cur[j]?=some (.pointer (some ⟨(q j).tb,0,none⟩))
 mr:∃cur,X.heap[mg]?=some (.cells cur 31 (0,0))∧∀j,j<2->cur[j]?=some (.pointer (some ⟨(q j).mb,0,none⟩))
 kr:∃cur,X.heap[kg]?=some (.cells cur 31 (0,0))∧∀j,j<2->cur[j]?=some (.pointer (some ⟨(q j).kb,0,none⟩))
 dif:∀i j,i<2->j<2->¬i=j->¬(q i).mb=(q j).mb
 dik:∀i j,i<2->j<2->¬(q i).kb=(q j).mb
 dig:¬mg=kg
 low:w0.heap.size<=tg∧w0.heap.size<=mg∧w0.heap.size<=kg∧∀j,j<2->w0.heap.size<=(q j).mb
 bel:Below w0.heap.size w0 X
structure SD where
 d:Nat
 t:T d
 es:List Ent
 dk:Nat
 tk:T dk
 ek:List Ent
 N:Nat
def oth (j:Nat):Nat:=1-j
theorem oth_lt (j:Nat):oth j<2:=by unfold oth;omega
theorem oth_ne (h:j<2):¬oth j=j:=by unfold oth;omega
theorem oth_oth (h:j<2):oth (oth j)=j:=by unfold oth;omega
structure Sem2 (w0 X:World) (D Gp:Nat) (V:PV) (K:Pgs) (pk m:Nat) (A:Nat->PgV) (fl:List Nat) (pages:Nat) (Ak:Nat->PgV) (flk:List Nat) (s:Nat->SD) (rt:Nat->Nat) (i:Nat):Prop where
 ts:TS X w0.heap.size D Gp V K pk m A fl pages
 ks:KS K pk Ak flk
 tr:∀j,j<2->@Tr (besT (s (oth j)).d (s (oth j)).t) A fl pages [] (s j).d (s j).t (s j).es
 trk:∀j,j<2->@Tr (besT (s (oth j)).dk (s (oth j)).tk) Ak flk pk [] (s j).dk (s j).tk (s j).ek
 rt:∀j,j<2->numT (s j).d (s j).t=rt j∧numT (s j).dk (s j).tk=rt j
 len:∀j,j<2->(s j).es.length<=(s j).N∧(s j).ek.length<=(s j).N
 nn:(s 0).N+(s 1).N<=i
 mm:m+10*((s 0).N+(s 1).N)<=70*i+20
 pg:pages<=14*i+4∧pk<=14*i+4
def upS (f:Nat->α)(k:Nat)(x:α):Nat->α:=λj=>if j=k then x else f j
theorem upS_at (f:Nat->α)(k:Nat)(x:α):upS f k x k=x:=if_pos rfl
theorem upS_ne (f:Nat->α)(x:α)(h:¬j=k):upS f k x j=f j:=if_neg h
section
variable {s:Nat->SD}{q:Nat->MD}
theorem blk_ne {a b:Nat}{ca cb:Array Value}{ta tb:TypeId}(h1:X.heap[a]?=some (.cells ca ta (0,0)))(h2:X.heap[b]?=some (.cells cb tb (0,0)))(hn:¬ta=tb):¬a=b:=λe=>by
 rw[e,h2] at h1;injection h1 with h1;injection h1 with _ h1 _;exact hn h1.symm
theorem Mem.stay (h:Mem w0 X Gp tg mg kg q)(ts:TS X w0.heap.size D Gp V K pk m A fl pages)(hs:St2 X Y w0.heap.size V V'):Mem w0 Y Gp tg mg kg q:=by
 obtain⟨c1,a1,a2⟩:=h.tr;obtain⟨c2,b1,b2⟩:=h.mr;obtain⟨c3,d1,d2⟩:=h.kr;exact⟨λj hj=>ts.stayTB hs (h.tb j hj),λj hj=>ts.stayMp hs (h.mp j hj),λj hj=>ts.stayMp hs (h.kp j hj),⟨c1,ts.stay hs a1 (by decide),a2⟩,⟨c2,ts.stay hs b1 (by decide),b2⟩,⟨c3,ts.stay hs d1 (by decide),d2⟩,h.dif,h.dik,h.dig,h.low,h.bel.trans hs.bel.toBelow⟩
theorem Mem.step (h:Mem w0 X Gp tg mg kg q)(hk:k<2)(hf:LF w0.heap.size (q k).mb X Y)(hM:MpV Y (q k).mb v' es'):Mem w0 Y Gp tg mg kg (upS q k { q k with v:=v',em:=es' }):=by
 obtain⟨c1,a1,a2⟩:=h.tr;obtain⟨c2,b1,b2⟩:=h.mr;obtain⟨c3,d1,d2⟩:=h.kr;have hMk:=h.mp k hk;have f:∀j,(upS q k { q k with v:=v',em:=es' } j).tb=(q j).tb∧(upS q k { q k with v:=v',em:=es' } j).rt=(q j).rt∧(upS q k { q k with v:=v',em:=es' } j).mb=(q j).mb∧(upS q k { q k with v:=v',em:=es' } j).kb=(q j).kb∧(upS q k { q k with v:=v',em:=es' } j).vk=(q j).vk∧(upS q k { q k with v:=v',em:=es' } j).ekm=(q j).ekm:=λj=>by
  by_cases e:j=k
  ·subst e;rw[upS_at];exact⟨rfl,rfl,rfl,rfl,rfl,rfl⟩
  ·rw[upS_ne _ _ e];exact⟨rfl,rfl,rfl,rfl,rfl,rfl⟩
 refine⟨λj hj=>?_,λj hj=>?_,λj hj=>?_,⟨c1,hf.keep _ _ _ a1 (by decide) (blk_ne a1 hMk.blk (by decide)),λj hj=>by rw[(f j).1];exact a2 j hj⟩,⟨c2,hf.keep _ _ _ b1 (by decide) (blk_ne b1 hMk.blk (by decide)),λj hj=>by rw[(f j).2.2.1];exact b2 j hj⟩,⟨c3,hf.keep _ _ _ d1 (by decide) (blk_ne d1 hMk.blk (by decide)),λj hj=>by rw[(f j).2.2.2.1];exact d2 j hj⟩,λi j hi hj hn=>by rw[(f i).2.2.1,(f j).2.2.1];exact h.dif i j hi hj hn,λi j hi hj=>by rw[(f i).2.2.2.1,(f j).2.2.1];exact h.dik i j hi hj,h.dig,⟨h.low.1,h.low.2.1,h.low.2.2.1,λj hj=>by rw[(f j).2.2.1];exact h.low.2.2.2 j hj⟩,h.bel.trans hf.bel⟩
 ·rw[(f j).1,(f j).2.1];exact hf.tb2 hMk (h.tb j hj)
 ·by_cases e:j=k
  ·subst e;rw[upS_at];exact hM
  ·rw[upS_ne _ _ e];exact hf.mp hMk (h.mp j hj) (h.dif j k hj hk e)
 ·rw[(f j).2.2.2.1,(f j).2.2.2.2.1,(f j).2.2.2.2.2];exact hf.mp hMk (h.kp j hj) (h.dik j k hj hk)
end
theorem two_of (hk:k<2){P:Nat->Prop}(h1:P k)(h2:P (oth k)):∀j,j<2->P j:=λj hj=>by
 by_cases e:j=k
 ·rw[e];exact h1
 ·have:j=oth k:=by unfold oth;omega
  rw[this];exact h2
theorem N_two (f:Nat->Nat)(hk:k<2):f 0+f 1=f k+f (oth k):=by
 have:k=0∨k=1:=by omega
 rcases this with rfl|rfl
 ·rfl
 ·show f 0+f 1=f 1+f 0;omega
section
variable {s:Nat->SD}{q:Nat->MD}
theorem Sem2.next (h:Sem2 w0 X D Gp V K pk m A fl pages Ak flk s rt i)(ts:TS Y w0.heap.size D Gp V' K pk m A fl pages):Sem2 w0 Y D Gp V' K pk m A fl pages Ak flk s rt (i+1):=
 ⟨ts,h.ks,h.tr,h.trk,h.rt,h.len,by have:=h.nn;omega,by have:=h.mm;omega,by have:=h.pg;omega⟩
theorem Sem2.stay (h:Sem2 w0 X D Gp V K pk m A fl pages Ak flk s rt i)(ts:TS Y w0.heap.size D Gp V' K pk m A fl pages):Sem2 w0 Y D Gp V' K pk m A fl pages Ak flk s rt i:=
 ⟨ts,h.ks,h.tr,h.trk,h.rt,h.len,h.nn,h.mm,h.pg⟩
theorem Sem2.small (h:Sem2 w0 X D Gp V K pk m A fl pages Ak flk s rt i)(hi:i<=250)(hj:j<2):m<=17520∧pages<=3504∧(s j).es.length<=250∧(s j).d<=7∧m+2*(nodT (s j).d (s j).t).length<=37000:=by
 have h1:=h.mm;have h2:=h.nn;have h3:=h.pg;have h4:=(h.len j hj).1;have h5:=@Tr.more (besT (s (oth j)).d (s (oth j)).t) _ _ _ _ _ _ _ (h.tr j hj);have h6:=N_two (λj=>(s j).N) hj;have h7:=h5.nod;have h6:(s 0).N+(s 1).N=(s j).N+(s (oth j)).N:=h6;have h8:(s j).es.length<=250:=by omega
 exact⟨by omega,by omega,h8,h5.dep h8,by omega⟩
theorem Sem2.commit (h:Sem2 w0 X D Gp V K pk m A fl pages Ak flk s rt i)(ts:TS Y w0.heap.size D Gp V' K' pages (m+2) A fl pages)(ks:KS K' pages A fl):Sem2 w0 Y D Gp V' K' pages (m+2) A fl pages A fl (λj=>⟨(s j).d,(s j).t,(s j).es,(s j).d,(s j).t,(s j).es,(s j).N⟩) rt (i+1):=
 ⟨ts,ks,h.tr,h.tr,λj hj=>⟨(h.rt j hj).1,(h.rt j hj).1⟩,λj hj=>⟨(h.len j hj).1,(h.len j hj).1⟩,by have:=h.nn;show(s 0).N+(s 1).N<=_;omega,by have:=h.mm;show m+2+10*((s 0).N+(s 1).N)<=_;omega,by have:=h.pg;omega⟩
theorem Sem2.back (h:Sem2 w0 X D Gp V K pk m A fl pages Ak flk s rt i)(ts:TS Y w0.heap.size D Gp V' K pk m Ak flk pk):Sem2 w0 Y D Gp V' K pk m Ak flk pk Ak flk (λj=>⟨(s j).dk,(s j).tk,(s j).ek,(s j).dk,(s j).tk,(s j).ek,(s j).N⟩) rt (i+1):=
 ⟨ts,h.ks,h.trk,h.trk,λj hj=>⟨(h.rt j hj).2,(h.rt j hj).2⟩,λj hj=>⟨(h.len j hj).2,(h.len j hj).2⟩,by have:=h.nn;show(s 0).N+(s 1).N<=_;omega,by have:=h.mm;show m+10*((s 0).N+(s 1).N)<=_;omega,by have:=h.pg;omega⟩
theorem Sem2.step (h:Sem2 w0 X D Gp V K pk m A fl pages Ak flk s rt i)(hk:k<2)(hi:i<=250)(hP:@stepP (besT (s (oth k)).d (s (oth k)).t) X w0.heap.size D Gp K pk m pages [] (numT (s k).d (s k).t) tb mb (s k).d (s k).es.length Y):∃(V':PV) (m':Nat) (A':Nat->PgV) (fl':List Nat) (pages':Nat) (x:SD) (v':Value),Sem2 w0 Y D Gp V' K pk m' A' fl' pages' Ak flk (upS s k x) rt (i+1)∧x.ek=(s k).ek∧MpV Y mb v' x.es∧LF w0.heap.size mb X Y:=by
 obtain⟨V',m',A',fl',pages',d',t',es',v',p1,p2,p3,p4,p5,p6,p7,p8,p9⟩:=hP;have hs:=h.small hi hk;have hlen:=h.len k hk;refine⟨V',m',A',fl',pages',⟨d',t',es',(s k).dk,(s k).tk,(s k).ek,(s k).N+1⟩,v',⟨p1,h.ks,two_of hk ?_ ?_,two_of hk ?_ ?_,two_of hk ?_ ?_,two_of hk ?_ ?_,?_,?_,?_⟩,rfl,p5,p6⟩
 ·rw[upS_at,upS_ne _ _ (oth_ne hk)];exact p2
 ·rw[oth_oth hk,upS_at,upS_ne _ _ (oth_ne hk)];exact @Tr.beside _ _ _ _ _ _ _ _ _ _ _ _ _ _ p2 (h.tr (oth k) (oth_lt k))
 ·rw[upS_at,upS_ne _ _ (oth_ne hk)];exact h.trk k hk
 ·rw[oth_oth hk,upS_at,upS_ne _ _ (oth_ne hk)];have:=h.trk (oth k) (oth_lt k);rw[oth_oth hk] at this;exact this
 ·rw[upS_at];exact⟨p3.trans (h.rt k hk).1,(h.rt k hk).2⟩
 ·rw[upS_ne _ _ (oth_ne hk)];exact h.rt _ (oth_lt k)
 ·rw[upS_at];exact⟨by show es'.length<=(s k).N+1;omega,by show(s k).ek.length<=(s k).N+1;omega⟩
 ·rw[upS_ne _ _ (oth_ne hk)];exact h.len _ (oth_lt k)
 ·have e:=N_two (λj=>(upS s k ⟨d',t',es',(s k).dk,(s k).tk,(s k).ek,(s k).N+1⟩ j).N) hk;have e2:=N_two (λj=>(s j).N) hk;simp only[upS_at,upS_ne _ _ (oth_ne hk)] at e;have:=h.nn;omega
 ·have e:=N_two (λj=>(upS s k ⟨d',t',es',(s k).dk,(s k).tk,(s k).ek,(s k).N+1⟩ j).N) hk;have e2:=N_two (λj=>(s j).N) hk;simp only[upS_at,upS_ne _ _ (oth_ne hk)] at e;have:=h.mm;omega
 ·have:=h.pg;omega
theorem Sem2.drop (h:Sem2 w0 X D Gp V K pk m A fl pages Ak flk s rt i)(hk:k<2)(hp:pages'<=pages+1)(ts:TS Y w0.heap.size D Gp V' K' pages' (m+2*(numsT (s k).d (s k).t).length+5) A' fl' pages')(ks:KS K' pages' A' fl')(hT:@Tr (besT (s (oth k)).d (s (oth k)).t) A' fl' pages' [] 0 (⟨n,0,[]⟩:Lf) []):∃m' s',Sem2 w0 Y D Gp V' K' pages' m' A' fl' pages' A' fl' s' (upS rt k n) (i+1)∧(∀j,j<2->(s' j).ek=(s' j).es)∧(s' k).es=[]∧(s' (oth k)).es=(s (oth k)).es:=by
 have hnod:=(@Tr.more (besT (s (oth k)).d (s (oth k)).t) _ _ _ _ _ _ _ (h.tr k hk)).nod;have hl:(numsT (s k).d (s k).t).length=(nodT (s k).d (s k).t).length:=by simp[numsT]
 have hlen:=(h.len k hk).1;have hob:=@Tr.beside _ _ _ _ _ _ _ _ _ _ _ _ _ _ hT (h.tr (oth k) (oth_lt k));let x:SD:=⟨0,(⟨n,0,[]⟩:Lf),[],0,(⟨n,0,[]⟩:Lf),[],0⟩;let y:SD:=⟨(s (oth k)).d,(s (oth k)).t,(s (oth k)).es,(s (oth k)).d,(s (oth k)).t,(s (oth k)).es,(s (oth k)).N⟩;have hx:upS (λ_=>y) k x k=x:=upS_at ..;have hy:upS (λ_=>y) k x (oth k)=y:=upS_ne _ _ (oth_ne hk);refine⟨m+2*(numsT (s k).d (s k).t).length+5,upS (λ_=>y) k x,⟨ts,ks,two_of hk ?_ ?_,two_of hk ?_ ?_,two_of hk ?_ ?_,two_of hk ?_ ?_,?_,?_,?_⟩,two_of hk ?_ ?_,by rw[hx],by rw[hy]⟩
 ·rw[hx,hy];exact hT
 ·rw[oth_oth hk,hx,hy];exact hob
 ·rw[hx,hy];exact hT
 ·rw[oth_oth hk,hx,hy];exact hob
 ·rw[hx,upS_at];exact⟨rfl,rfl⟩
 ·rw[hy,upS_ne _ _ (oth_ne hk)];exact⟨(h.rt _ (oth_lt k)).1,(h.rt _ (oth_lt k)).1⟩
 ·rw[hx];exact⟨Nat.le_refl _,Nat.le_refl _⟩
 ·rw[hy];exact⟨(h.len _ (oth_lt k)).1,(h.len _ (oth_lt k)).1⟩
 ·have e:=N_two (λj=>(upS (λ_=>y) k x j).N) hk;have e2:=N_two (λj=>(s j).N) hk;simp only[hx,hy] at e;have e3:x.N=0:=rfl;have e4:y.N=(s (oth k)).N:=rfl;have:=h.nn;omega
 ·have e:=N_two (λj=>(upS (λ_=>y) k x j).N) hk;have e2:=N_two (λj=>(s j).N) hk;simp only[hx,hy] at e;have e3:x.N=0:=rfl;have e4:y.N=(s (oth k)).N:=rfl;have:=h.mm;omega
 ·have:=h.pg;omega
 ·rw[hx]
 ·rw[hy]
end
section
variable {s:Nat->SD}{q:Nat->MD}
theorem MpV.kept (h2:MpV X mb v es)(h1:∀cs:Array Value,X.heap[mb]?=some (Obj.cells cs 34 (0,0))->Y.heap[mb]?=some (.cells cs 34 (0,0)))(h3:∀(c:Nat) (cs:Array Value),X.heap[c]?=some (Obj.cells cs 116 (0,0))->Y.heap[c]?=some (.cells cs 116 (0,0))):MpV Y mb v es:=
 ⟨h1 _ h2.blk,row_keep h2.row λg hg=>by
  obtain⟨cs,hcs⟩:=row_isN h2.row hg;exact(h3 g cs hcs).trans hcs.symm⟩
theorem Mem.drop {tb':Nat}(h:Mem w0 X Gp tg mg kg q)(hk:k<2)(hc:X.heap[tg]?=some (.cells cur 38 (0,0)))(hcs:∀j,j<2->cur[j]?=some (.pointer (some ⟨(q j).tb,0,none⟩)))(hf:LF2 w0.heap.size tg (q k).mb X Y)(hM:MpV Y (q k).mb v' [])(htb:TB Y tb' Gp n)(htg:Y.heap[tg]?=some (.cells (cur.setIfInBounds k (.pointer (some ⟨tb',0,none⟩))) 38 (0,0))):Mem w0 Y Gp tg mg kg (upS q k { q k with tb:=tb',rt:=n,v:=v',em:=[]}):=by
 obtain⟨c2,b1,b2⟩:=h.mr;obtain⟨c3,d1,d2⟩:=h.kr;have hMk:=h.mp k hk;have f:∀j,(upS q k { q k with tb:=tb',rt:=n,v:=v',em:=[]} j).mb=(q j).mb∧(upS q k { q k with tb:=tb',rt:=n,v:=v',em:=[]} j).kb=(q j).kb∧(upS q k { q k with tb:=tb',rt:=n,v:=v',em:=[]} j).vk=(q j).vk∧(upS q k { q k with tb:=tb',rt:=n,v:=v',em:=[]} j).ekm=(q j).ekm:=λj=>by
  by_cases e:j=k
  ·subst e;rw[upS_at];exact⟨rfl,rfl,rfl,rfl⟩
  ·rw[upS_ne _ _ e];exact⟨rfl,rfl,rfl,rfl⟩
 have kp:∀(c:Nat) (cs:Array Value) (t:TypeId),X.heap[c]?=some (.cells cs t (0,0))->tyQ t=false->¬t=34->¬t=38->Y.heap[c]?=some (.cells cs t (0,0)):=λc cs t a b n1 n2=>hf.keep c cs t a b (blk_ne a hMk.blk n1) (blk_ne a hc n2)
 have mk:∀(mb2:Nat) (v2:Value) (es2:List Ent),MpV X mb2 v2 es2->¬mb2=(q k).mb->MpV Y mb2 v2 es2:=λmb2 v2 es2 a n=>a.kept (λcs hb=>hf.keep _ _ _ hb (by decide) n (blk_ne hb hc (by decide))) (λc cs hb=>kp _ _ _ hb (by decide) (by decide) (by decide))
 refine⟨λj hj=>?_,λj hj=>?_,λj hj=>?_,⟨_,htg,λj hj=>?_⟩,⟨c2,kp _ _ _ b1 (by decide) (by decide) (by decide),λj hj=>by rw[(f j).1];exact b2 j hj⟩,⟨c3,kp _ _ _ d1 (by decide) (by decide) (by decide),λj hj=>by rw[(f j).2.1];exact d2 j hj⟩,λi j hi hj hn=>by rw[(f i).1,(f j).1];exact h.dif i j hi hj hn,λi j hi hj=>by rw[(f i).2.1,(f j).1];exact h.dik i j hi hj,h.dig,⟨h.low.1,h.low.2.1,h.low.2.2.1,λj hj=>by rw[(f j).1];exact h.low.2.2.2 j hj⟩,h.bel.trans hf.bel⟩
 ·by_cases e:j=k
  ·subst e;rw[upS_at];exact htb
  ·rw[upS_ne _ _ e];exact kp _ _ _ (h.tb j hj) (by decide) (by decide) (by decide)
 ·by_cases e:j=k
  ·subst e;rw[upS_at];exact hM
  ·rw[upS_ne _ _ e];exact mk _ _ _ (h.mp j hj) (h.dif j k hj hk e)
 ·rw[(f j).2.1,(f j).2.2.1,(f j).2.2.2];exact mk _ _ _ (h.kp j hj) (h.dik j k hj hk)
 ·by_cases e:j=k
  ·subst e;rw[upS_at];have hl:=(gl (hcs j hj));simp[hl]
  ·rw[upS_ne _ _ e];have:=hcs j hj;rw[Array.getElem?_setIfInBounds_ne (λe2=>e e2.symm)];exact this
theorem Mem.keep (h:Mem w0 X Gp tg mg kg q)(ts:TS X w0.heap.size D Gp V K pk m A fl pages)(hn:n<2):Mem w0 ((X.alloc (.cells #[(q n).v] 34)).setCell ⟨kg,n,none⟩ (.pointer (some ⟨X.heap.size,0,none⟩))) Gp tg mg kg (upS q n { q n with kb:=X.heap.size,vk:=(q n).v,ekm:=(q n).em })∧TS ((X.alloc (.cells #[(q n).v] 34)).setCell ⟨kg,n,none⟩ (.pointer (some ⟨X.heap.size,0,none⟩))) w0.heap.size D Gp V K pk m A fl pages∧(∀(c:Nat) (cs:Array Value) (t:TypeId),X.heap[c]?=some (.cells cs t (0,0))->¬t=31->((X.alloc (.cells #[(q n).v] 34)).setCell ⟨kg,n,none⟩ (.pointer (some ⟨X.heap.size,0,none⟩))).heap[c]?=some (.cells cs t (0,0))):=by
 have hb:Below X.heap.size X (X.alloc (.cells #[(q n).v] 34)):=(Below.refl _ _).alloc (Nat.le_refl _) _;have hq:(X.alloc (.cells #[(q n).v] 34)).heap[X.heap.size]?=some (.cells #[(q n).v] 34 (0,0)):=heap_alloc_new X _;obtain⟨t1,s1⟩:=ts.below hb;have h1:=h.stay ts s1;generalize hX1:X.alloc (.cells #[(q n).v] 34)=X1 at hb hq t1 s1 h1 ⊢;obtain⟨c1,a1,a2⟩:=h1.tr;obtain⟨c2,b1,b2⟩:=h1.mr;obtain⟨c3,d1,d2⟩:=h1.kr;have hg:=set_grown X1 kg n (.pointer (some ⟨X.heap.size,0,none⟩));generalize hY:X1.setCell ⟨kg,n,none⟩ (.pointer (some ⟨X.heap.size,0,none⟩))=Y at hg ⊢;have hkl:=(gl d1);have hYk:Y.heap[kg]?=some (.cells (c3.setIfInBounds n (.pointer (some ⟨X.heap.size,0,none⟩))) 31 (0,0)):=by
  rw[<-hY];exact set_blk d1
 have kb:∀(c:Nat) (cs:Array Value) (t:TypeId),X1.heap[c]?=some (.cells cs t (0,0))->¬c=kg->Y.heap[c]?=some (.cells cs t (0,0)):=λc cs t hc hn=>(hg.block c (gl hc) (λe=>hn (by injection e))).trans hc
 have kp:∀(c:Nat) (cs:Array Value) (t:TypeId),X1.heap[c]?=some (.cells cs t (0,0))->¬t=31->Y.heap[c]?=some (.cells cs t (0,0)):=λc cs t hc ht=>kb c cs t hc (blk_ne hc d1 ht)
 have f:∀j,(upS q n { q n with kb:=X.heap.size,vk:=(q n).v,ekm:=(q n).em } j).tb=(q j).tb∧(upS q n { q n with kb:=X.heap.size,vk:=(q n).v,ekm:=(q n).em } j).rt=(q j).rt∧(upS q n { q n with kb:=X.heap.size,vk:=(q n).v,ekm:=(q n).em } j).mb=(q j).mb∧(upS q n { q n with kb:=X.heap.size,vk:=(q n).v,ekm:=(q n).em } j).v=(q j).v∧(upS q n { q n with kb:=X.heap.size,vk:=(q n).v,ekm:=(q n).em } j).em=(q j).em:=λj=>by
  by_cases e:j=n
  ·subst e;rw[upS_at];exact⟨rfl,rfl,rfl,rfl,rfl⟩
  ·rw[upS_ne _ _ e];exact⟨rfl,rfl,rfl,rfl,rfl⟩
 have mk:∀(mb2:Nat) (v2:Value) (es2:List Ent),MpV X1 mb2 v2 es2->MpV Y mb2 v2 es2:=λmb2 v2 es2 a=>a.kept (λcs hb=>kp _ _ _ hb (by decide)) (λc cs hb=>kp _ _ _ hb (by decide))
 refine⟨⟨λj hj=>by rw[(f j).1,(f j).2.1];exact kp _ _ _ (h1.tb j hj) (by decide),λj hj=>by rw[(f j).2.2.1,(f j).2.2.2.1,(f j).2.2.2.2];exact mk _ _ _ (h1.mp j hj),λj hj=>?_,⟨c1,kp _ _ _ a1 (by decide),λj hj=>by rw[(f j).1];exact a2 j hj⟩,⟨c2,kb _ _ _ b1 h.dig,λj hj=>by rw[(f j).2.2.1];exact b2 j hj⟩,⟨_,hYk,λj hj=>?_⟩,λi j hi hj hn=>by rw[(f i).2.2.1,(f j).2.2.1];exact h.dif i j hi hj hn,λi j hi hj=>?_,h.dig,⟨h.low.1,h.low.2.1,h.low.2.2.1,λj hj=>by rw[(f j).2.2.1];exact h.low.2.2.2 j hj⟩,below_grown h1.bel hg (λg e=>by injection e with e;rw[<-e];exact h.low.2.2.1) t1.lo⟩,t1.other hg ⟨_,d1⟩ (by decide),λc cs t hc ht=>kp c cs t ((hb.block c (gl hc)).trans hc) ht⟩
 ·by_cases e:j=n
  ·subst e;rw[upS_at];exact⟨kp _ _ _ hq (by decide),(mk _ _ _ (h1.mp j hj)).row⟩
  ·rw[upS_ne _ _ e];exact mk _ _ _ (h1.kp j hj)
 ·by_cases e:j=n
  ·subst e;rw[upS_at];have hl:=(gl (d2 j hj));simp[hl]
  ·rw[upS_ne _ _ e];rw[Array.getElem?_setIfInBounds_ne (λe2=>e e2.symm)];exact d2 j hj
 ·rw[(f j).2.2.1];by_cases e:i=n
  ·subst e;rw[upS_at];have:=(gl (h.mp j hj).blk);show ¬X.heap.size=(q j).mb;omega
  ·rw[upS_ne _ _ e];exact h.dik i j hi hj
theorem Mem.back (h:Mem w0 X Gp tg mg kg q)(ts:TS X w0.heap.size D Gp V K pk m A fl pages)(hn:n<2):Mem w0 (X.setCell ⟨(q n).mb,0,none⟩ (q n).vk) Gp tg mg kg (upS q n { q n with v:=(q n).vk,em:=(q n).ekm })∧TS (X.setCell ⟨(q n).mb,0,none⟩ (q n).vk) w0.heap.size D Gp V K pk m A fl pages∧LF w0.heap.size (q n).mb X (X.setCell ⟨(q n).mb,0,none⟩ (q n).vk):=by
 have hg:=set_grown X (q n).mb 0 (q n).vk;have hM:=h.mp n hn;have hf:=lf_map hg (h.low.2.2.2 n hn) ts.lo;have hY:(X.setCell ⟨(q n).mb,0,none⟩ (q n).vk).heap[(q n).mb]?=some (.cells (#[(q n).v].setIfInBounds 0 (q n).vk) 34 (0,0)):=set_blk hM.blk;refine⟨h.step hn hf ⟨hY,?_⟩,ts.other hg ⟨_,hM.blk⟩ (by decide),hf⟩;exact(hf.mp hM (h.kp n hn) (h.dik n n hn hn)).row
end
end Go.Proofs.YtiaibgfhigdgdaaGreat
