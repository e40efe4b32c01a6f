/- a part -/
import Derived.Test.YtiaibgfhigdgdaaGreatM21
import Derived.Laws.AppendOwnNone
set_option maxRecDepth 100000
set_option maxHeartbeats 8000000
namespace Go.Proofs.YtiaibgfhigdgdaaGreat
open Tryz
open Go.RowKit Go.Lib Go.Maps Go.Sort
variable {s k tt:ByteArray}{w w3 w4 w' X Y:World}{mb B g cap n base size D Gp pk m pages tb root kn kc cn cc:Nat}{v vb fv:Value}{es es':List Ent}{xs:List Value}{e:TypeId}{V V':PV}{K:Pgs}{A:Nat->PgV}{fl os:List Nat}{af aa an:Int}{kp ca:Option Addr}
attribute [local go_sem ↓] Go.wp_at_zero Go.wp_at_succ
theorem klt_neq {a b:ByteArray}(h:klt a b=true):(b.toList == a.toList)=false:=by
 cases e:b.toList == a.toList with
 | false=>rfl
 | true =>
  have e:=eq_of_beq e;have:=toList_inj e;rw[this,klt_irr] at h;cases h
theorem head_not {s:List Ent}(h:∀e∈s,klt k e.1=true):(∀e∈s.head?,klt e.1 k=false)∧(match s.head? with | some e=>(e.1.toList == k.toList) | none=>false)=false:=by
 cases s with
 | nil=>exact⟨(λe he=>by cases he),rfl⟩
 | cons e r =>
  have:=h e (List.mem_cons_self ..);exact⟨λe' he=>by injection he with he;rw[<-he];exact klt_asy this,klt_neq this⟩
theorem cMapGet (h:MpV w mb v es)(k val:ByteArray)(is:Bool)(hR:GetR es k val is)(hl:es.length<=1000000):Calls prog 40 #[(.pointer (some ⟨mb,0,none⟩)),.string k] w λe w'=>e=.returned (.tuple #[.string val,.bool is])∧Below w.heap.size w w':=by
 obtain⟨p,s,(⟨rfl,rfl,rfl⟩|⟨rfl,rfl⟩),hp,hs⟩:=hR
 ·obtain⟨g1,g2⟩:=head_not hs;have HP:=hide (cplace h k hp g1 hl false g2.symm);clear h hp hs g1 g2;go_enter func40,ntmps40;go_wp2_with fail
  refine HP.out.mono ?_;rintro e w1⟨rfl,hb⟩;have HB:=hide hb;clear hb HP;go_wp2_with fail
  refine bodyPost_ret (v:=.tuple #[.string ⟨#[]⟩,.bool false]) (by simp[results,results40,go_sem, *]) rfl ?_;exact⟨rfl,HB.out⟩
 ·have HP:=hide (cplace (p:=p) (r:=(k,val)::s) h k hp (λe he=>by injection he with he;rw[<-he];exact klt_irr k) hl true (by simp));have HM:=hide (λ(Y:World) (hY:Below w.heap.size w Y)=>h.below hY);obtain⟨n,hn⟩:∃n,p.length=n:=⟨_,rfl⟩;obtain⟨ln,hln⟩:∃ln,(p++(k,val)::s).length=ln:=⟨_,rfl⟩;have hll:n<ln:=by rw[<-hln,<-hn];simp
  rw[hn] at HP;have HN:=hide (And.intro hn hln);have i0:(0:Int)<=(n:Int):=by omega
  have i2:(n:Int)<(ln:Int):=by omega
  clear h hp hs hl hn hln;go_enter func40,ntmps40;go_wp2_with fail
  refine HP.out.mono ?_;rintro e w1⟨rfl,hb⟩;have hM:=HM.out w1 hb;obtain⟨c0,c1,c2⟩:=hM.cells;obtain⟨a,cap,rfl,-,-,hel⟩:=row_el hM.row;obtain⟨g,off,rfl,hA⟩:=hel.resolve_left (by simp);have hc:=(hA.cell n (by rw[HN.out.2];exact hll)).2;have e1:(p++(k,val)::s)[n]'(by rw[HN.out.2];exact hll)=(k,val):=by
   have:=HN.out.1;subst this;simp
  rw[e1] at hc;rw[HN.out.2] at c0;have HB:=hide hb;clear hb HP HM hM hel hA e1 c1;go_wp2_with fail
  refine bodyPost_ret (v:=.tuple #[.string val,.bool true]) (by simp[results,results40,go_sem, *]) rfl ?_;exact⟨rfl,HB.out⟩
theorem below_grown {w2:World}{o:Option Nat}(h:Below B w w2)(hg:w2.grownBy w3 o)(ho:∀g,o=some g->B<=g)(hB:B<=w2.heap.size):Below B w w3:=
 ⟨hg.os.trans h.os,hg.tape.trans h.tape,hg.output.trans h.output,Nat.le_trans h.size hg.size,λc hc=>(hg.block c (Nat.lt_of_lt_of_le hc hB) (λe=>by have:=ho c e.symm;omega)).trans (h.block c hc)⟩
theorem row_news {lo:Nat}(h:w.ownsRow lo 116 2 (.slice (some ⟨g,0,none⟩) n cap) n (entV es))(k m:Nat)(he:n=es.length):∀j u,(entV ((es.drop k).take m))[j]?=some u->w.cell? ((⟨g,k*2,none⟩:Addr).add j)=some u:=by
 intro j u hj;rcases h.2 with⟨e,_⟩ | ⟨g',cap',cur,e,-,hg,hc,hm,hs,ht⟩
 ·cases e
 ·injection e with e1 e2 e3;injection e1 with e1;injection e1 with e1 _ _;subst e1;have hjl:j<((es.drop k).take m).length*2:=by
   have:=(List.getElem?_eq_some_iff.1 hj).1
   rwa [entV_len] at this
  rw[List.length_take,List.length_drop] at hjl;have hadd:(⟨g,k*2,none⟩:Addr).add j=⟨g,k*2+j,none⟩:=by
   unfold Addr.add;by_cases q:j=0<;>simp[q]
  have hcell:cur[k*2+j]?=(entV es)[k*2+j]?:=by rw[<-ht,List.getElem?_take_of_lt (by omega),Array.getElem?_toList]
  have hmap:(entV es)[k*2+j]?=(entV ((es.drop k).take m))[j]?:=by
   have e1:es=es.take k++((es.drop k).take m++(es.drop k).drop m):=by rw[List.take_append_drop,List.take_append_drop]
   conv=>lhs;rw[e1]
   rw[entV_app,entV_app,List.getElem?_append_right (by rw[entV_len,List.length_take];omega),List.getElem?_append_left (by rw[entV_len,entV_len,List.length_take,List.length_take,List.length_drop];omega)]
   congr 1
   rw[entV_len,List.length_take];omega
  rw[hadd];simp only[World.cell?,hg];rw[hcell,hmap,hj];rfl
theorem MpV.set {v4:Value}(h:MpV w mb v es)(hb:Below w.heap.size w w4)(ho:w4.ownsRow w.heap.size 116 2 v4 n xs)(hn:n=es'.length)(hx:xs=entV es'):MpV (w4.setCell ⟨mb,0,none⟩ v4) mb v4 es'∧w.grownBy (w4.setCell ⟨mb,0,none⟩ v4) (some mb):=by
 have hlt:=h.cells.2.2;have h4:w4.heap[mb]?=some (.cells #[v] 34 (0,0)):=(hb.block mb hlt).trans h.blk;have hg:=set_grown w4 mb 0 v4;subst hn hx;refine⟨⟨set_blk h4,?_⟩,hg.os.trans hb.os,hg.tape.trans hb.tape,hg.output.trans hb.output,Nat.le_trans hb.size hg.size,λc hc hne=>(hg.block c (Nat.lt_of_lt_of_le hc hb.size) hne).trans (hb.block c hc)⟩;exact ownN_mono (row_keep ho λg hgg=>hg.block g (World.ownsRow.lt ho g hgg).2 (λe=>by
  injection e with e;have:=(World.ownsRow.lt ho g hgg).1;omega)) (Nat.zero_le _)
theorem cMapPut (h:MpV w mb v es)(k val:ByteArray)(hR:PutR es k val es')(hl:es.length<=100000):Calls prog 42 #[(.pointer (some ⟨mb,0,none⟩)),.string k,.string val] w λe w'=>e=.returned (.tuple #[])∧∃v',MpV w' mb v' es'∧w.grownBy w' (some mb):=by
 obtain⟨p,s,hes,rfl,hp,hs⟩:=hR;obtain⟨bb,r,rfl,hbb,hr1,hr2⟩:∃(bb:Bool) (r:List Ent),es=p++r∧((bb=false∧r=s)∨(bb=true∧∃v0,r=(k,v0)::s))∧(∀e∈r.head?,klt e.1 k=false)∧bb=(match r.head? with | some e=>(e.1.toList == k.toList) | none=>false):=by
  rcases hes with rfl|⟨v0,rfl⟩
  ·obtain⟨g1,g2⟩:=head_not hs;exact⟨false,s,rfl,.inl ⟨rfl,rfl⟩,g1,g2.symm⟩
  ·exact⟨true,_,rfl,.inr ⟨rfl,v0,rfl⟩,(λe he=>by injection he with he;rw[<-he];exact klt_irr k),by simp⟩
 have HP:=hide (cplace h k hp hr1 (by omega) bb hr2);have HM:=hide (λ(Y:World) (hY:Below w.heap.size w Y)=>h.below hY);have H:=hide h;obtain⟨i0,hif,hz0,hz1,hz2⟩:=info_parts infoE;have hlp:(p++r).length=p.length+r.length:=List.length_append;rcases h.row.2 with⟨hv,h0⟩ | ⟨g,cap,cur,hv,-,-,hcap,hmx,-⟩
 ·subst hv;have hp0:p=[]:=List.length_eq_zero_iff.1 (by omega);have hr0:r=[]:=List.length_eq_zero_iff.1 (by omega);subst hp0 hr0;have hs0:s=[]∧bb=false:=by
   rcases hbb with⟨h1,h2⟩|⟨h1,v0,h2⟩
   ·exact⟨h2.symm,h1⟩
   ·cases h2
  obtain⟨rfl,rfl⟩:=hs0;clear h hes hp hs hbb hr1 hr2 h0 hlp hl;go_enter func42,ntmps42;go_wp2_with fail
  refine HP.out.mono ?_;rintro e w1⟨rfl,hb⟩;obtain⟨c0,c1,c2⟩:=(HM.out w1 hb).cells;have HB:=hide hb;have hsz:=hb.size;clear hb HP HM;go_wp2_with (at_builtin;first | (refine wpList_append_own_none rfl (.tmp 15) (.tmp 21) 32 rfl w.heap.size 116 i0 2 underlying32 hif (.slice none 0 0) 0 [] rfl (World.ownsRow_nil _ _ _ _) rfl ?_) | (refine wpList_append_own_at _ rfl (.tmp 23) (.tmp 27) 32 rfl w.heap.size 116 i0 (.agg #[.string ⟨#[]⟩,.string ⟨#[]⟩]) 2 32 underlying32 hif hz0 hz1 hz2 rfl (by decide) (.slice none 0 0) 0 [] rfl (World.ownsRow_nil _ _ _ _) ⟨w1.heap.size,0,none⟩ 1 1 [.string k,.string val] rfl rfl (newsE _ _ _) (entV_one [(k,val)]) (by decide) (by decide) (by simp;omega) ?_))
  intro v3 w3 ho3 hg3 _ hn3;obtain⟨a3,c3,rfl⟩:=own_formN ho3;have hb3:Below w.heap.size w w3:=below_grown ((HB.out).alloc hsz _) hg3 (λg e=>by cases e) (by simp;omega);obtain⟨d0,d1,d2⟩:=(H.out.below hb3).cells;have HS:=hide (H.out.set (es':=[(k,val)]) hb3 ho3 rfl rfl);have HO:=hide ho3;clear hb3 hg3 hn3 ho3 c0 c1 c2;go_wp2_with (at_builtin;refine wpList_append_own_none rfl (.tmp 33) (.tmp 39) 32 rfl w.heap.size 116 i0 2 underlying32 hif (.slice a3 (0+1) c3) (0+1) _ rfl HO.out rfl ?_)
  go_end0;exact⟨rfl,_,HS.out.1,HS.out.2⟩
 ·subst hv;obtain⟨n,hn⟩:∃n,p.length=n:=⟨_,rfl⟩;obtain⟨ln,hln⟩:∃ln,(p++r).length=ln:=⟨_,rfl⟩;obtain⟨nx,hnx⟩:∃nx,(if bb=true then n+1 else n)=nx:=⟨_,rfl⟩;have hs':(p++r).drop nx=s∧nx<=ln:=by
   rcases hbb with⟨rfl,rfl⟩|⟨rfl,v0,rfl⟩
   ·rw[if_neg (by decide)] at hnx;subst hnx hn;exact⟨by simp,by omega⟩
   ·rw[if_pos rfl] at hnx;subst hnx hn;refine⟨?_,by rw[<-hln];simp⟩;have e:p++(k,v0)::s=(p++[(k,v0)])++s:=by simp
    rw[e,List.drop_append_of_le_length (by simp)];simp
  have hnl:n<=ln:=by omega
  rw[hln] at hcap;have hlnb:ln<=100000:=by omega
  have hsl:s.length=ln-nx:=by rw[<-hs'.1,List.length_drop,hln]
  rw[hn] at HP;have HN:=hide (show p=((p++r).drop 0).take n∧s=((p++r).drop nx).take (ln-nx)∧(p++r).length=ln∧p.length=n∧s.length=ln-nx from⟨by rw[<-hn];simp,by rw[hs'.1,<-hsl,List.take_length],hln,hn,hsl⟩);have j0:(0:Int)<=(n:Int):=by omega
  have j1:(n:Int)<=(cap:Int):=by omega
  have j2:(0:Int)<=(nx:Int):=by omega
  have j3:(nx:Int)<=(ln:Int):=by omega
  have j4:(ln:Int)<=(cap:Int):=by omega
  have j5:IntKind.i64.wrap ((n:Int)+1)=((n+1:Nat):Int):=by rw[IntKind.wrap_i64];omega
  have hnxl:=hs'.2;clear h hes hp hs hr1 hr2 hlp hl hs' hn hsl hmx;go_enter func42,ntmps42;go_wp2_with fail
  refine HP.out.mono ?_;rintro e w1⟨rfl,hb⟩;have hM1:=HM.out w1 hb;obtain⟨c0,c1,c2⟩:=hM1.cells;have hnw:=row_news hM1.row 0 n rfl;rw[<-HN.out.1] at hnw;rw[hln] at c0;have HB:=hide hb;have hsz:=hb.size;clear hb HP hM1;go_wp2_with (at_builtin;refine wpList_append_own_at _ rfl (.tmp 15) (.tmp 21) 32 rfl w.heap.size 116 i0 (.agg #[.string ⟨#[]⟩,.string ⟨#[]⟩]) 2 32 underlying32 hif hz0 hz1 hz2 rfl (by decide) (.slice none 0 0) 0 [] rfl (World.ownsRow_nil _ _ _ _) ⟨g,0,none⟩ n cap (entV p) rfl (by rw[entV_len,HN.out.2.2.2.1]) (by simpa using hnw) (entV_one p) (by unfold maxLen;omega) (by omega) hsz ?_)
  intro v2 w2 ho2 hg2 _ hn2
  replace ho2:w2.ownsRow w.heap.size 116 2 v2 n (entV p):=by simpa using ho2
  obtain⟨a2,cp2,rfl⟩:=own_formN ho2;have hb2:Below w.heap.size w w2:=below_grown HB.out hg2 (λg e=>by cases e) hsz;have HO2:=hide ho2;have HB2:=hide hb2;have hsz2:=hb2.size;clear hb2 hg2 hn2 ho2 c0 c1 c2 hnw;go_wp2_with (at_builtin;refine wpList_append_own_at _ rfl (.tmp 23) (.tmp 27) 32 rfl w.heap.size 116 i0 (.agg #[.string ⟨#[]⟩,.string ⟨#[]⟩]) 2 32 underlying32 hif hz0 hz1 hz2 rfl (by decide) (.slice a2 n cp2) n (entV p) rfl (World.ownsRow.alloc HO2.out _) ⟨w2.heap.size,0,none⟩ 1 1 [.string k,.string val] rfl rfl (newsE _ _ _) (entV_one [(k,val)]) (by unfold maxLen;omega) (by omega) (by simp;omega) ?_)
  intro v3 w3 ho3 hg3 _ hn3;obtain⟨a3,cp3,rfl⟩:=own_formN ho3;have hb3:Below w.heap.size w w3:=below_grown (HB2.out.alloc hsz2 _) hg3 (λg e=>(World.ownsRow.lt HO2.out g e).1) (by simp;omega);have hM3:=H.out.below hb3;obtain⟨d0,d1,d2⟩:=hM3.cells;have hnw:=row_news hM3.row nx (ln-nx) rfl;rw[<-HN.out.2.1] at hnw;rw[hln] at d0;have HO3:=hide ho3;have HB3:=hide hb3;have hsz3:=hb3.size;clear hb3 hg3 hn3 ho3 hM3;have hbb':(bb=false∧nx=n)∨(bb=true∧IntKind.i64.wrap ((n:Int)+1)=(nx:Int)):=by
   rcases hbb with⟨h1,_⟩|⟨h1,_⟩
   ·left;rw[h1,if_neg (by decide)] at hnx;exact⟨h1,hnx.symm⟩
   ·right;rw[h1,if_pos rfl] at hnx;exact⟨h1,by rw[j5,hnx]⟩
  clear hbb hnx j5;by_cases hcx:cap=nx
  ·have hlc:ln=nx:=by omega
   have hs0:s=[]:=List.length_eq_zero_iff.1 (by have:=HN.out.2.2.2.2;omega);subst hcx hlc;have hcc:ln-ln=0:=by omega
   rcases hbb' with⟨rfl,rfl⟩|⟨rfl,hj5⟩
   ·go_wp2_with (at_builtin;refine wpList_append_own_at _ rfl (.tmp 33) (.tmp 39) 32 rfl w.heap.size 116 i0 (.agg #[.string ⟨#[]⟩,.string ⟨#[]⟩]) 2 32 underlying32 hif hz0 hz1 hz2 rfl (by decide) (.slice a3 (ln+1) cp3) (ln+1) (entV p++[.string k,.string val]) rfl HO3.out ⟨g,0,none⟩ 0 0 [] rfl rfl (λj u hj=>by simp at hj) (λu hu=>by cases hu) (by unfold maxLen;omega) (by omega) hsz3 ?_)
    intro v4 w4 ho4 hg4 _ hn4;obtain⟨a4,cp4,rfl⟩:=own_formN ho4;have hb4:Below w.heap.size w w4:=below_grown HB3.out hg4 (λg e=>(World.ownsRow.lt HO3.out g e).1) hsz3;obtain⟨f0,f1,f2⟩:=(H.out.below hb4).cells;have HS:=hide (H.out.set (es':=p++(k,val)::s) hb4 ho4 (by have:=HN.out;simp;omega) (by subst hs0;rw[entV_app];simp[entV]));clear hb4 hg4 hn4 ho4 d0 d1 d2 hnw;go_wp2_with fail
    go_end0;exact⟨rfl,_,HS.out.1,HS.out.2⟩
   ·go_wp2_with (at_builtin;refine wpList_append_own_at _ rfl (.tmp 33) (.tmp 39) 32 rfl w.heap.size 116 i0 (.agg #[.string ⟨#[]⟩,.string ⟨#[]⟩]) 2 32 underlying32 hif hz0 hz1 hz2 rfl (by decide) (.slice a3 (n+1) cp3) (n+1) (entV p++[.string k,.string val]) rfl HO3.out ⟨g,0,none⟩ 0 0 [] rfl rfl (λj u hj=>by simp at hj) (λu hu=>by cases hu) (by unfold maxLen;omega) (by omega) hsz3 ?_)
    intro v4 w4 ho4 hg4 _ hn4;obtain⟨a4,cp4,rfl⟩:=own_formN ho4;have hb4:Below w.heap.size w w4:=below_grown HB3.out hg4 (λg e=>(World.ownsRow.lt HO3.out g e).1) hsz3;obtain⟨f0,f1,f2⟩:=(H.out.below hb4).cells;have HS:=hide (H.out.set (es':=p++(k,val)::s) hb4 ho4 (by have:=HN.out;simp;omega) (by subst hs0;rw[entV_app];simp[entV]));clear hb4 hg4 hn4 ho4 d0 d1 d2 hnw;go_wp2_with fail
    go_end0;exact⟨rfl,_,HS.out.1,HS.out.2⟩
  ·have hcx1:¬cap-nx=0:=by omega
   have hcx2:¬(cap:Int)=(nx:Int):=by omega
   rcases hbb' with⟨rfl,rfl⟩|⟨rfl,hj5⟩
   ·go_wp2_with (at_builtin;refine wpList_append_own_at _ rfl (.tmp 33) (.tmp 39) 32 rfl w.heap.size 116 i0 (.agg #[.string ⟨#[]⟩,.string ⟨#[]⟩]) 2 32 underlying32 hif hz0 hz1 hz2 rfl (by decide) (.slice a3 (nx+1) cp3) (nx+1) (entV p++[.string k,.string val]) rfl HO3.out ⟨g,nx*2,none⟩ (ln-nx) (cap-nx) (entV s) rfl (by rw[entV_len,HN.out.2.2.2.2]) hnw (entV_one _) (by unfold maxLen;omega) (by omega) hsz3 ?_)
    intro v4 w4 ho4 hg4 _ hn4;obtain⟨a4,cp4,rfl⟩:=own_formN ho4;have hb4:Below w.heap.size w w4:=below_grown HB3.out hg4 (λg e=>(World.ownsRow.lt HO3.out g e).1) hsz3;obtain⟨f0,f1,f2⟩:=(H.out.below hb4).cells;have HS:=hide (H.out.set (es':=p++(k,val)::s) hb4 ho4 (by have:=HN.out;simp;omega) (by rw[entV_app];simp[entV]));clear hb4 hg4 hn4 ho4 d0 d1 d2 hnw;go_wp2_with fail
    go_end0;exact⟨rfl,_,HS.out.1,HS.out.2⟩
   ·go_wp2_with (at_builtin;refine wpList_append_own_at _ rfl (.tmp 33) (.tmp 39) 32 rfl w.heap.size 116 i0 (.agg #[.string ⟨#[]⟩,.string ⟨#[]⟩]) 2 32 underlying32 hif hz0 hz1 hz2 rfl (by decide) (.slice a3 (n+1) cp3) (n+1) (entV p++[.string k,.string val]) rfl HO3.out ⟨g,nx*2,none⟩ (ln-nx) (cap-nx) (entV s) rfl (by rw[entV_len,HN.out.2.2.2.2]) hnw (entV_one _) (by unfold maxLen;omega) (by omega) hsz3 ?_)
    intro v4 w4 ho4 hg4 _ hn4;obtain⟨a4,cp4,rfl⟩:=own_formN ho4;have hb4:Below w.heap.size w w4:=below_grown HB3.out hg4 (λg e=>(World.ownsRow.lt HO3.out g e).1) hsz3;obtain⟨f0,f1,f2⟩:=(H.out.below hb4).cells;have HS:=hide (H.out.set (es':=p++(k,val)::s) hb4 ho4 (by have:=HN.out;simp;omega) (by rw[entV_app];simp[entV]));clear hb4 hg4 hn4 ho4 d0 d1 d2 hnw;go_wp2_with fail
    go_end0;exact⟨rfl,_,HS.out.1,HS.out.2⟩
theorem below_but (h:Below w.heap.size w w')(o:Option Nat):w.grownBy w' o:=⟨h.os,h.tape,h.output,h.size,λc hc _=>h.block c hc⟩
theorem cMapDel (h:MpV w mb v es)(k:ByteArray)(is:Bool)(hR:DelR es k is es')(hl:es.length<=100000):Calls prog 43 #[(.pointer (some ⟨mb,0,none⟩)),.string k] w λe w'=>e=.returned (.bool is)∧∃v',MpV w' mb v' es'∧w.grownBy w' (some mb):=by
 obtain⟨p,s,hes,rfl,hp,hs⟩:=hR;rcases hes with⟨rfl,rfl⟩|⟨v0,rfl,rfl⟩
 ·obtain⟨g1,g2⟩:=head_not hs;have HP:=hide (cplace h k hp g1 (by omega) false g2.symm);have H:=hide h;clear h hp hs g1 g2;go_enter func43,ntmps43;go_wp2_with fail
  refine HP.out.mono ?_;rintro e w1⟨rfl,hb⟩;have HB:=hide hb;clear hb HP;go_wp2_with fail
  refine bodyPost_ret (v:=.bool false) (by simp[results,results43,go_sem, *]) rfl ?_;exact⟨rfl,_,H.out.below HB.out,below_but HB.out _⟩
 ·have HP:=hide (cplace (p:=p) (r:=(k,v0)::s) h k hp (λe he=>by injection he with he;rw[<-he];exact klt_irr k) (by omega) true (by simp));have HM:=hide (λ(Y:World) (hY:Below w.heap.size w Y)=>h.below hY);have H:=hide h;obtain⟨i0,hif,hz0,hz1,hz2⟩:=info_parts infoE;rcases h.row.2 with⟨hv,h0⟩ | ⟨g,cap,cur,hv,-,-,hcap,hmx,-⟩
  ·simp at h0
  subst hv;obtain⟨n,hn⟩:∃n,p.length=n:=⟨_,rfl⟩;obtain⟨ln,hln⟩:∃ln,(p++(k,v0)::s).length=ln:=⟨_,rfl⟩;have hll:n+1+s.length=ln:=by rw[<-hln,<-hn];simp;omega
  obtain⟨nx,hnx⟩:∃nx,n+1=nx:=⟨_,rfl⟩;rw[hln] at hcap;have hlnb:ln<=100000:=by omega
  rw[hn] at HP;have HN:=hide (show p=((p++(k,v0)::s).drop 0).take n∧s=((p++(k,v0)::s).drop nx).take (ln-nx)∧(p++(k,v0)::s).length=ln∧p.length=n∧s.length=ln-nx from⟨by rw[<-hn];simp,by
   have e:p++(k,v0)::s=(p++[(k,v0)])++s:=by simp
   have e2:(p++(k,v0)::s).drop nx=s:=by
    rw[e,<-hnx,<-hn,List.drop_append_of_le_length (by simp)];simp
   rw[e2,List.take_of_length_le (by omega)],hln,hn,by omega⟩)
  have j0:(0:Int)<=(n:Int):=by omega
  have j1:(n:Int)<=(cap:Int):=by omega
  have j2:(0:Int)<=(nx:Int):=by omega
  have j3:(nx:Int)<=(ln:Int):=by omega
  have j4:(ln:Int)<=(cap:Int):=by omega
  have j5:IntKind.i64.wrap ((n:Int)+1)=(nx:Int):=by rw[IntKind.wrap_i64];omega
  have hnxl:nx<=ln:=by omega
  have hsl:=HN.out.2.2.2.2;have hs0:ln=nx->s=[]:=λe=>List.length_eq_zero_iff.1 (by omega)
  have hnb:n<=100000:=by omega
  clear h hp hs hl hn hmx hll hnx;go_enter func43,ntmps43;go_wp2_with fail
  refine HP.out.mono ?_;rintro e w1⟨rfl,hb⟩;have hM1:=HM.out w1 hb;obtain⟨c0,c1,c2⟩:=hM1.cells;have hnw:=row_news hM1.row 0 n rfl;rw[<-HN.out.1] at hnw;rw[hln] at c0;have HB:=hide hb;have hsz:=hb.size;clear hb HP hM1;go_wp2_with (at_builtin;refine wpList_append_own_at _ rfl (.tmp 15) (.tmp 21) 32 rfl w.heap.size 116 i0 (.agg #[.string ⟨#[]⟩,.string ⟨#[]⟩]) 2 32 underlying32 hif hz0 hz1 hz2 rfl (by decide) (.slice none 0 0) 0 [] rfl (World.ownsRow_nil _ _ _ _) ⟨g,0,none⟩ n cap (entV p) rfl (by rw[entV_len,HN.out.2.2.2.1]) (by simpa using hnw) (entV_one p) (by unfold maxLen;omega) (by omega) hsz ?_)
  intro v2 w2 ho2 hg2 _ hn2
  replace ho2:w2.ownsRow w.heap.size 116 2 v2 n (entV p):=by simpa using ho2
  obtain⟨a2,cp2,rfl⟩:=own_formN ho2;have hb2:Below w.heap.size w w2:=below_grown HB.out hg2 (λg e=>by cases e) hsz;have hM2:=H.out.below hb2;obtain⟨d0,d1,d2⟩:=hM2.cells;have hnw:=row_news hM2.row nx (ln-nx) rfl;rw[<-HN.out.2.1] at hnw;rw[hln] at d0;have HO2:=hide ho2;have HB2:=hide hb2;have hsz2:=hb2.size;clear hb2 hg2 hn2 ho2 c0 c1 c2 hM2;by_cases hcx:cap=nx
  ·have hlc:ln=nx:=by omega
   have hs1:=hs0 hlc;subst hcx hlc;have hcc:ln-ln=0:=by omega
   clear hs0 hsl;go_wp2_with (at_builtin;refine wpList_append_own_at _ rfl (.tmp 24) (.tmp 31) 32 rfl w.heap.size 116 i0 (.agg #[.string ⟨#[]⟩,.string ⟨#[]⟩]) 2 32 underlying32 hif hz0 hz1 hz2 rfl (by decide) (.slice a2 n cp2) n (entV p) rfl HO2.out ⟨g,0,none⟩ 0 0 [] rfl rfl (λj u hj=>by simp at hj) (λu hu=>by cases hu) (by unfold maxLen;omega) (by omega) hsz2 ?_)
   intro v4 w4 ho4 hg4 _ hn4;obtain⟨a4,cp4,rfl⟩:=own_formN ho4;have hb4:Below w.heap.size w w4:=below_grown HB2.out hg4 (λg e=>(World.ownsRow.lt HO2.out g e).1) hsz2;obtain⟨f0,f1,f2⟩:=(H.out.below hb4).cells;have HS:=hide (H.out.set (es':=p++s) hb4 ho4 (by have:=HN.out;simp;omega) (by subst hs1;rw[entV_app];simp[entV]));clear hb4 hg4 hn4 ho4 d0 d1 d2 hnw;go_wp2_with fail
   refine bodyPost_ret (v:=.bool true) (by simp[results,results43,go_sem, *]) rfl ?_;exact⟨rfl,_,HS.out.1,HS.out.2⟩
  ·have hcx1:¬cap-nx=0:=by omega
   have hcx2:¬(cap:Int)=(nx:Int):=by omega
   clear hs0 hsl;go_wp2_with (at_builtin;refine wpList_append_own_at _ rfl (.tmp 24) (.tmp 31) 32 rfl w.heap.size 116 i0 (.agg #[.string ⟨#[]⟩,.string ⟨#[]⟩]) 2 32 underlying32 hif hz0 hz1 hz2 rfl (by decide) (.slice a2 n cp2) n (entV p) rfl HO2.out ⟨g,nx*2,none⟩ (ln-nx) (cap-nx) (entV s) rfl (by rw[entV_len,HN.out.2.2.2.2]) hnw (entV_one _) (by unfold maxLen;omega) (by omega) hsz2 ?_)
   intro v4 w4 ho4 hg4 _ hn4;obtain⟨a4,cp4,rfl⟩:=own_formN ho4;have hb4:Below w.heap.size w w4:=below_grown HB2.out hg4 (λg e=>(World.ownsRow.lt HO2.out g e).1) hsz2;obtain⟨f0,f1,f2⟩:=(H.out.below hb4).cells;have HS:=hide (H.out.set (es':=p++s) hb4 ho4 (by have:=HN.out;simp;omega) (by rw[entV_app]));clear hb4 hg4 hn4 ho4 d0 d1 d2 hnw;go_wp2_with fail
   refine bodyPost_ret (v:=.bool true) (by simp[results,results43,go_sem, *]) rfl ?_;exact⟨rfl,_,HS.out.1,HS.out.2⟩
theorem scan_step {most:Int}{fj:List Ent}{fr ed:ByteArray}{j:Nat}(hj:j<es.length)(h:addM most [] ((es.take j).filter λe=>inR fr ed e.1)=fj):addM most [] ((es.take (j+1)).filter λe=>inR fr ed e.1)=if inR fr ed es[j].1=true∧¬(fj.length:Int)=most then fj++[es[j]] else fj:=by
 have h0:fitM most []:=by unfold fitM;simp;omega
 have hf:fitM most fj:=by rw[<-h];exact addM_fit h0 _
 rw[take_snoc hj,List.filter_append,<-addM_app h0,h];by_cases h1:inR fr ed es[j].1=true
 ·have e:[es[j]].filter (λe=>inR fr ed e.1)=[es[j]]:=by simp[h1]
  rw[e];by_cases h2:(fj.length:Int)=most
  ·rw[addM_full h2,if_neg (λh=>h.2 h2)]
  ·rw[addM_one hf h2,if_pos ⟨h1,h2⟩]
 ·have e:[es[j]].filter (λe=>inR fr ed e.1)=[]:=by simp[h1]
  rw[e,addM_nil,if_neg (λh=>h1 h.1)]
theorem cMapScan (h:MpV w mb v es)(fr ed:ByteArray)(most:Int)(hl:es.length<=100000):Calls prog 45 #[(.pointer (some ⟨mb,0,none⟩)),.string fr,.string ed,.int .i64 most] w λe w'=>∃fv,e=.returned fv∧Below w.heap.size w w'∧w'.ownsRow w.heap.size 116 2 fv (scanE most false fr ed es).length (entV (scanE most false fr ed es)):=by
 obtain⟨c0,c1,c2⟩:=h.cells;obtain⟨a,cap,rfl,-,-,hel⟩:=row_el h.row;obtain⟨ln,hln⟩:∃ln,es.length=ln:=⟨_,rfl⟩;rw[hln] at c0 hl;obtain⟨i0,hif,hz0,hz1,hz2⟩:=info_parts infoE;have HEL:=hide hel;clear h hel;go_enter func45,ntmps45;go_wp2_with fail
 go_loopw [9,17] (λx9 x17 Y=>∃(j:Nat) (fj:List Ent) (c9:Nat) (a9:Option Addr),j<=ln∧x17=.int .i64 (j:Int)∧x9=.slice a9 fj.length c9∧Hid (Below w.heap.size w Y∧Y.ownsRow w.heap.size 116 2 (.slice a9 fj.length c9) fj.length (entV fj)∧addM most [] ((es.take j).filter λe=>inR fr ed e.1)=fj)) (λ_ x17 _=>ln-(intOf x17).toNat)
 case atStart=>exact⟨0,[],0,none,Nat.zero_le _,rfl,rfl,Below.refl _ _,World.ownsRow_nil _ _ _ _,by simp[addM_nil]⟩
 case round =>
  obtain⟨j,fj,c9,a9,hj,rfl,rfl,HI⟩:=hrel;by_cases hjl:j<ln
  ·have hji:j<es.length:=by omega
   obtain⟨g,off,rfl,hA⟩:=HEL.out.resolve_left (λe=>by rw[e] at hji;simp at hji);obtain⟨k1,k2⟩:=(hA.keep (w':=wr) (λcs hc=>(HI.out.1.block g (gl hc)).trans hc)).cell j hji;have HST:=hide (scan_step hji HI.out.2.2);obtain⟨ek,hek⟩:∃ek,es[j].1=ek:=⟨_,rfl⟩;obtain⟨ev,hev⟩:∃ev,es[j].2=ev:=⟨_,rfl⟩;have hejj:es[j]=(ek,ev):=Prod.ext hek hev;rw[hek] at k1;rw[hev] at k2;rw[hejj] at HST;have q1:(j:Int)<(ln:Int):=by omega
   have q2:(0:Int)<=(j:Int):=by omega
   have hjb:j<=100000:=by omega
   have hgl:g<wr.heap.size:=World.block_lt_of_cell? wr _ k1;have hfb:fj.length<=100000:=by
    have:=addM_len (most:=most) (fs:=[]) ((es.take j).filter λe=>inR fr ed e.1);rw[HI.out.2.2] at this;have:=List.length_filter_le (λe:Ent=>inR fr ed e.1) (es.take j);rw[List.length_take] at this;simp at *;omega
   have HJ:=hide (show j+1<=ln from hjl);have hsz:=HI.out.1.size;have HW:=hide (show Below w.heap.size w (wr.alloc (.cells #[.string ek,.string ev] 116))∧(wr.alloc (.cells #[.string ek,.string ev] 116)).ownsRow w.heap.size 116 2 (.slice a9 fj.length c9) fj.length (entV fj) from⟨HI.out.1.alloc hsz _,World.ownsRow.alloc HI.out.2.1 _⟩);have hin:inR fr ed ek=(!Op.bytesLess ek.toList fr.toList && (ed.toList.isEmpty || Op.bytesLess ek.toList ed.toList)):=rfl;clear hek hev hejj hji hjl hj;cases h1:Op.bytesLess ek.toList fr.toList with
   | true =>
    rw[h1] at hin;have HNI:=hide (show ¬inR fr ed ek=true by rw[hin];simp);clear hin;go_wp2_with fail
    go_roundw
    case rel=>exact⟨j+1,fj,c9,a9,HJ.out,by go_num,rfl,HW.out.1,HW.out.2,by rw[HST.out,if_neg (λh=>HNI.out h.1)]⟩
    case measure=>simp[intOf];have:=HJ.out;omega
   | false =>
    rw[h1] at hin;cases hE:ed.toList.isEmpty with
    | true =>
     rw[hE] at hin;have HIN:=hide (show inR fr ed ek=true by rw[hin];simp);clear hin;by_cases hne:(fj.length:Int)=most
     ·go_wp2_with fail
      go_roundw
      case rel=>exact⟨j+1,fj,c9,a9,HJ.out,by go_num,rfl,HW.out.1,HW.out.2,by rw[HST.out,if_neg (λh=>h.2 hne)]⟩
      case measure=>simp[intOf];have:=HJ.out;omega
     ·go_wp2_with (at_builtin;refine wpList_append_own_at _ rfl (.tmp 41) (.tmp 43) 32 rfl w.heap.size 116 i0 (.agg #[.string ⟨#[]⟩,.string ⟨#[]⟩]) 2 32 underlying32 hif hz0 hz1 hz2 rfl (by decide) (.slice a9 fj.length c9) fj.length (entV fj) rfl (World.ownsRow.alloc HW.out.2 _) ⟨wr.heap.size+1,0,none⟩ 1 1 [.string ek,.string ev] rfl rfl (by have:=newsE (wr.alloc (.cells #[.string ek,.string ev] 116)) ek ev;simpa using this) (entV_one [(ek,ev)]) (by unfold maxLen;omega) (by omega) (by simp;omega) ?_)
      intro v4 w4 ho4 hg4 _ hn4;obtain⟨a4,cp4,rfl⟩:=own_formN ho4;have HW4:=hide (show Below w.heap.size w w4∧w4.ownsRow w.heap.size 116 2 (.slice a4 (fj.length+1) cp4) (fj.length+1) (entV (fj++[(ek,ev)])) from⟨below_grown (HW.out.1.alloc (by simp;omega) _) hg4 (λg e=>(World.ownsRow.lt HW.out.2 g e).1) (by simp;omega),by rw[entV_app];exact ho4⟩);clear hg4 hn4 ho4;go_wp2_with fail
      go_roundw
      case rel=>exact⟨j+1,fj++[(ek,ev)],cp4,a4,HJ.out,by go_num,by simp,HW4.out.1,by simpa using HW4.out.2,by rw[HST.out,if_pos ⟨HIN.out,hne⟩]⟩
      case measure=>simp[intOf];have:=HJ.out;omega
    | false =>
     rw[hE] at hin;cases h2:Op.bytesLess ek.toList ed.toList with
     | true =>
      rw[h2] at hin;have HIN:=hide (show inR fr ed ek=true by rw[hin];simp);clear hin;by_cases hne:(fj.length:Int)=most
      ·go_wp2_with fail
       go_roundw
       case rel=>exact⟨j+1,fj,c9,a9,HJ.out,by go_num,rfl,HW.out.1,HW.out.2,by rw[HST.out,if_neg (λh=>h.2 hne)]⟩
       case measure=>simp[intOf];have:=HJ.out;omega
      ·go_wp2_with (at_builtin;refine wpList_append_own_at _ rfl (.tmp 41) (.tmp 43) 32 rfl w.heap.size 116 i0 (.agg #[.string ⟨#[]⟩,.string ⟨#[]⟩]) 2 32 underlying32 hif hz0 hz1 hz2 rfl (by decide) (.slice a9 fj.length c9) fj.length (entV fj) rfl (World.ownsRow.alloc HW.out.2 _) ⟨wr.heap.size+1,0,none⟩ 1 1 [.string ek,.string ev] rfl rfl (by have:=newsE (wr.alloc (.cells #[.string ek,.string ev] 116)) ek ev;simpa using this) (entV_one [(ek,ev)]) (by unfold maxLen;omega) (by omega) (by simp;omega) ?_)
       intro v4 w4 ho4 hg4 _ hn4;obtain⟨a4,cp4,rfl⟩:=own_formN ho4;have HW4:=hide (show Below w.heap.size w w4∧w4.ownsRow w.heap.size 116 2 (.slice a4 (fj.length+1) cp4) (fj.length+1) (entV (fj++[(ek,ev)])) from⟨below_grown (HW.out.1.alloc (by simp;omega) _) hg4 (λg e=>(World.ownsRow.lt HW.out.2 g e).1) (by simp;omega),by rw[entV_app];exact ho4⟩);clear hg4 hn4 ho4;go_wp2_with fail
       go_roundw
       case rel=>exact⟨j+1,fj++[(ek,ev)],cp4,a4,HJ.out,by go_num,by simp,HW4.out.1,by simpa using HW4.out.2,by rw[HST.out,if_pos ⟨HIN.out,hne⟩]⟩
       case measure=>simp[intOf];have:=HJ.out;omega
     | false =>
      rw[h2] at hin;have HNI:=hide (show ¬inR fr ed ek=true by rw[hin];simp);clear hin;go_wp2_with fail
      go_roundw
      case rel=>exact⟨j+1,fj,c9,a9,HJ.out,by go_num,rfl,HW.out.1,HW.out.2,by rw[HST.out,if_neg (λh=>HNI.out h.1)]⟩
      case measure=>simp[intOf];have:=HJ.out;omega
  ·have hje:j=ln:=by omega
   subst hje;have q1:¬(j:Int)<(j:Int):=by omega
   have HX:=hide (show scanE most false fr ed es=fj from by
    have:=HI.out.2.2;rw[<-hln,List.take_length] at this;exact this)
   clear hj hjl;go_wp2_with fail
   refine bodyPost_ret (v:=.slice a9 fj.length c9) (by simp[results,results45,go_sem, *]) rfl ?_;rw[HX.out];exact⟨_,rfl,HI.out.1,HI.out.2.1⟩
theorem scan_all (fr ed:ByteArray)(es:List Ent):scanE (-1) false fr ed es=es.filter λe=>inR fr ed e.1:=by
 unfold scanE addM dirL;simp
theorem cMapBack (h:MpV w mb v es)(fr ed:ByteArray)(most:Int)(hl:es.length<=100000):Calls prog 47 #[(.pointer (some ⟨mb,0,none⟩)),.string fr,.string ed,.int .i64 most] w λe w'=>∃fv,e=.returned fv∧Below w.heap.size w w'∧w'.ownsRow w.heap.size 116 2 fv (scanE most true fr ed es).length (entV (scanE most true fr ed es)):=by
 have HS:=hide (cMapScan h fr ed (-1) hl);rw[scan_all] at HS;obtain⟨al,hal⟩:∃al,(es.filter λe=>inR fr ed e.1)=al:=⟨_,rfl⟩;have hR:scanE most true fr ed es=addM most [] al.reverse:=by unfold scanE dirL;rw[hal];rfl
 have hlb:al.length<=100000:=by
  rw[<-hal];have:=List.length_filter_le (λe:Ent=>inR fr ed e.1) es;omega
 rw[hal] at HS;rw[hR];obtain⟨rv,hrv⟩:∃rv,al.reverse=rv:=⟨_,rfl⟩;rw[hrv];have hrl:rv.length=al.length:=by rw[<-hrv,List.length_reverse]
 have hra:∀j (hj:j<rv.length),al[al.length-1-j]?=some rv[j]:=λj hj=>by
  have:rv[j]?=some rv[j]:=List.getElem?_eq_getElem hj;rw[<-this,<-hrv,List.getElem?_reverse (by omega)]
 obtain⟨L,hL⟩:∃L,al.length=L:=⟨_,rfl⟩;rw[hL] at HS hlb hrl hra;have HRA:=hide hra;have h0:fitM most []:=by unfold fitM;simp;omega
 obtain⟨i0,hif,hz0,hz1,hz2⟩:=info_parts infoE;have HL:=hide (And.intro hL hrl);clear h hR hra hrv hal hl hL;go_enter func47,ntmps47;go_wp2_with fail
 refine HS.out.mono ?_;rintro e w1⟨fv,rfl,hb1,ho1⟩;rw[HL.out.1.symm] at ho1;have hel:=row_el ho1;obtain⟨a,cap,rfl,-,-,hel⟩:=hel;rw[HL.out.1];have HEL:=hide hel;have HB1:=hide hb1;have hsz1:=hb1.size;have hwL:IntKind.i64.wrap ((L:Int)-1)=(L:Int)-1:=by rw[IntKind.wrap_i64];omega
 clear ho1 hel hb1 HS;go_wp2_with fail
 go_loopw [9,11] (λx9 x11 Y=>∃(j c9:Nat) (a9:Option Addr),j<=L∧x11=.int .i64 ((L:Int)-1-(j:Int))∧x9=.slice a9 j c9∧Hid (Below w1.heap.size w1 Y∧Y.ownsRow w1.heap.size 116 2 (.slice a9 j c9) j (entV (rv.take j))∧(most<0∨(j:Int)<=most))) (λ_ x11 _=>(intOf x11+1).toNat)
 case atStart=>exact⟨0,0,none,Nat.zero_le _,by simp,rfl,Below.refl _ _,World.ownsRow_nil _ _ _ _,by rcases h0 with h0 | h0;exact .inl h0;right;simpa using h0⟩
 case round =>
  obtain⟨j,c9,a9,hj,rfl,rfl,HI⟩:=hrel;obtain⟨ix,hix⟩:∃ix:Int,(L:Int)-1-(j:Int)=ix:=⟨_,rfl⟩;have hlen:(rv.take j).length=j:=by rw[List.length_take,HL.out.2];omega
  have hfj:fitM most ([]++rv.take j):=by unfold fitM;rw[List.nil_append,hlen];exact HI.out.2.2
  by_cases hjl:j<L
  ·by_cases hfull:(j:Int)=most
   ·have HX:=hide (show addM most [] rv=rv.take j from by
     have e:rv=rv.take j++rv.drop j:=(List.take_append_drop _ _).symm
     conv=>lhs;rw[e]
     rw[addM_over h0 hfj (by rw[List.nil_append,hlen];exact hfull),List.nil_append])
    have q1:(0:Int)<=ix:=by omega
    rw[hix];have HN:=hide hlen;clear hlen hfj hix hj hjl;go_wp2_with fail
    refine bodyPost_ret (v:=.slice a9 j c9) (by simp[results,results47,go_sem, *]) rfl ?_;rw[HX.out,HN.out];exact⟨_,rfl,HB1.out.trans (HI.out.1.mono hsz1),ownN_mono HI.out.2.1 hsz1⟩
   ·have hjr:j<rv.length:=by rw[HL.out.2];exact hjl
    have hal:=HRA.out j hjr;obtain⟨i,hi⟩:∃i,L-1-j=i:=⟨_,rfl⟩;have hii:ix=(i:Int):=by omega
    subst hii;rw[hi] at hal;have hial:i<al.length:=by rw[HL.out.1];omega
    rw[List.getElem?_eq_getElem hial] at hal;injection hal with hal;obtain⟨g,off,rfl,hA⟩:=HEL.out.resolve_left (λe=>by rw[e] at hial;simp at hial);obtain⟨k1,k2⟩:=(hA.keep (w':=wr) (λ_ hc=>(HI.out.1.block g (gl hc)).trans hc)).cell i hial;rw[hal] at k1 k2;obtain⟨ek,hek⟩:∃ek,rv[j].1=ek:=⟨_,rfl⟩;obtain⟨ev,hev⟩:∃ev,rv[j].2=ev:=⟨_,rfl⟩;have hejj:rv[j]=(ek,ev):=Prod.ext hek hev;rw[hek] at k1;rw[hev] at k2;have q1:(0:Int)<=(i:Int):=by omega
    have q2:(i:Int)<(L:Int):=by omega
    have hsz:=HI.out.1.size;have hjb:j<=100000:=by omega
    have hwi:IntKind.i64.wrap ((i:Int)-1)=(i:Int)-1:=by rw[IntKind.wrap_i64];omega
    have hgl:g<wr.heap.size:=World.block_lt_of_cell? wr _ k1;have HJ:=hide (show rv.take (j+1)=rv.take j++[(ek,ev)]∧j+1<=L∧(i:Int)-1=(L:Int)-1-((j+1:Nat):Int)∧(most<0∨((j+1:Nat):Int)<=most) from⟨by rw[take_snoc hjr,hejj],hjl,by omega,by rcases HI.out.2.2 with h | h;exact .inl h;right;omega⟩);rw[hix];clear hlen hfj hix hj hjl hal hial hA hek hev hejj hjr hi;go_wp2_with (at_builtin;refine wpList_append_own_at _ rfl (.tmp 29) (.tmp 34) 32 rfl w1.heap.size 116 i0 (.agg #[.string ⟨#[]⟩,.string ⟨#[]⟩]) 2 32 underlying32 hif hz0 hz1 hz2 rfl (by decide) (.slice a9 j c9) j (entV (rv.take j)) rfl (World.ownsRow.alloc HI.out.2.1 _) ⟨wr.heap.size,0,none⟩ 1 1 [.string ek,.string ev] rfl rfl (newsE _ _ _) (entV_one [(ek,ev)]) (by unfold maxLen;omega) (by omega) (by simp;omega) ?_)
    intro v4 w4 ho4 hg4 _ hn4;obtain⟨a4,cp4,rfl⟩:=own_formN ho4;have HW4:=hide (show Below w1.heap.size w1 w4∧w4.ownsRow w1.heap.size 116 2 (.slice a4 (j+1) cp4) (j+1) (entV (rv.take (j+1))) from⟨below_grown (HI.out.1.alloc hsz _) hg4 (λg e=>(World.ownsRow.lt HI.out.2.1 g e).1) (by simp;omega),by rw[HJ.out.1,entV_app];exact ho4⟩);clear hg4 hn4 ho4;go_wp2_with fail
    go_roundw
    case rel=>exact⟨j+1,cp4,a4,HJ.out.2.1,by rw[HJ.out.2.2.1],rfl,HW4.out.1,HW4.out.2,HJ.out.2.2.2⟩
    case measure=>simp[intOf]
  ·have hje:j=L:=by omega
   have q1:¬(0:Int)<=ix:=by omega
   have HX:=hide (show addM most [] rv=rv.take j from by
    have e:rv.take j=rv:=List.take_of_length_le (by rw[HL.out.2];omega);rw[e] at hfj ⊢;rw[addM_all hfj,List.nil_append])
   rw[hix];have HN:=hide hlen;clear hlen hfj hix hj hjl hje;go_wp2_with fail
   refine bodyPost_ret (v:=.slice a9 j c9) (by simp[results,results47,go_sem, *]) rfl ?_;rw[HX.out,HN.out];exact⟨_,rfl,HB1.out.trans (HI.out.1.mono hsz1),ownN_mono HI.out.2.1 hsz1⟩
theorem cpickL (c n:Int)(w:World)(hc:-9223372036854775808<=c∧c<=9223372036854775807)(hn:0<n∧n<=10000):Calls prog 12 #[.int .i64 c,.int .i64 n] w λe w'=>e=.returned (.int .i64 (pickI c n))∧w'=w:=by
 unfold pickI;by_cases h:c<0
 ·rw[if_pos h];have t2:-((c+1).tmod n)=(-(c+1))%n:=by rw[<-Int.neg_tmod,Int.tmod_eq_emod_of_nonneg (by omega)]
  have T2:Hid _:=t2;clear t2;go_enter func12,ntmps12;go_wp2;go_ret;exact⟨congrArg (λz=>Ending.returned (.int .i64 z)) T2.out,rfl⟩
 ·rw[if_neg h];have t1:c.tmod n=c%n:=Int.tmod_eq_emod_of_nonneg (by omega);go_enter func12,ntmps12;go_wp2;go_ret;exact⟨rfl,rfl⟩
theorem cnumL (z:Int)(w:World):Calls prog 7 #[.int .i64 z] w λe w'=>e=.returned (.int .i64 z)∧w'=w:=by
 go_enter func7,ntmps7;go_wp2;go_ret;exact⟨rfl,rfl⟩
theorem cshortL (a:Option Addr)(n c:Nat)(w:World)(hn:n<=140737488355328)(hc:n<=c)(ha:a=none->n=0∧c=0):Calls prog 11 #[.slice a n c] w λe w'=>e=.returned (.slice a (min n 250) c)∧w'=w:=by
 by_cases h:n<=250
 ·rw[Nat.min_eq_left h];have h':(n:Int)<=250:=by omega
  go_enter func11,ntmps11;go_wp2_with fail
  go_ret;exact⟨by show Ending.returned (Value.slice a (min (n:Int) 250).toNat c)=_;rw[show(min (n:Int) 250).toNat=n by omega],rfl⟩
 ·rw[Nat.min_eq_right (by omega)];have h':¬(n:Int)<=250:=by omega
  have h2:(250:Int)<=(c:Int):=by omega
  cases a with
  | none=>have:=ha rfl;omega
  | some ad =>
   clear ha;go_enter func11,ntmps11;go_wp2_with fail
   go_ret;exact⟨by show Ending.returned (Value.slice (some ad) (min (n:Int) 250).toNat c)=_;rw[show(min (n:Int) 250).toNat=250 by omega],rfl⟩
theorem cIsKey (k:ByteArray)(w:World)(hs:k.size<=9223372036854775807):Calls prog 38 #[.string k] w λe w'=>e=.returned (.bool (decide (0<k.size∧k.size<=200)))∧w'=w:=by
 have HI:=hide (show Calls prog 82 #[.int .i64 (k.size:Int),.int .i64 1,.int .i64 200] w λe w'=>e=.returned (.bool (decide (0<k.size∧k.size<=200)))∧w'=w from by
  by_cases h1:0<k.size
  ·have k1:(1:Int)<=(k.size:Int):=by omega
   by_cases h2:k.size<=200
   ·have k2:(k.size:Int)<=200:=by omega
    rw[decide_eq_true ⟨h1,h2⟩];go_enter func82,ntmps82;go_wp2;go_ret;exact⟨rfl,rfl⟩
   ·have k2:¬(k.size:Int)<=200:=by omega
    rw[decide_eq_false (λh=>h2 h.2)];go_enter func82,ntmps82;go_wp2;go_ret;exact⟨rfl,rfl⟩
  ·have k1:¬(1:Int)<=(k.size:Int):=by omega
   rw[decide_eq_false (λh=>h1 h.1)];go_enter func82,ntmps82;go_wp2;go_ret;exact⟨rfl,rfl⟩)
 generalize decide (0<k.size∧k.size<=200)=b at *;go_enter func38,ntmps38;go_wp2_with fail
 refine HI.out.mono ?_;rintro e w1⟨rfl,hw⟩;rw[hw];clear hw;go_wp2_with fail
 go_ret;exact⟨rfl,rfl⟩
theorem clonger (s:ByteArray)(n:Int)(w:World)(hn:-9223372036854775808<=n∧n<=9223372036854775807)(hs:s.size<=140737488355328):Calls prog 41 #[.string s,.int .i64 n] w λe w'=>(∃v:ByteArray,e=.returned (.string v)∧v.size<=140737488355328)∧w'=w:=by
 have HP:=hide (cpickL n 3100 w hn ⟨by decide,by decide⟩);obtain⟨hp0,hp1⟩:=pickI_in n (n:=3100) (by decide);obtain⟨m,hm⟩:∃m:Nat,pickI n 3100=(m:Int):=⟨(pickI n 3100).toNat,by omega⟩;rw[hm] at HP hp1;have hmb:m<3100:=by omega
 clear hm hp0 hp1 hn;obtain⟨s',hs'⟩:∃s':ByteArray,s'=(if s.toList.isEmpty then⟨#[45]⟩ else s):=⟨_,rfl⟩;have h1:0<s'.size∧s'.size<=140737488355328:=by
  rw[hs'];split
  ·exact⟨by decide,by decide⟩
  ·rename_i h
   refine⟨?_,hs⟩;rcases Nat.eq_zero_or_pos s.size with h0 | h0
   ·exact absurd (by rw[List.isEmpty_iff,ByteArray.toList_eq];exact List.length_eq_zero_iff.1 (by simpa using h0)) h
   ·exact h0
 cases hE:s.toList.isEmpty with
 | true =>
  rw[hE,if_pos rfl] at hs';subst hs';have hse:s=⟨#[]⟩:=by
   rw[List.isEmpty_iff,ByteArray.toList_eq] at hE;cases s with
   | mk d =>
    have h1:=congrArg List.length hE;simp at h1;subst h1;rfl
  subst hse;clear hE hs;go_enter func41,ntmps41;go_wp2_with fail
  refine HP.out.mono ?_;rintro e w1⟨rfl,hw⟩;rw[hw];clear hw;go_wp2_with fail
  go_loopw [0] (λx0 Y=>Y=w∧∃u:ByteArray,x0=.string u∧0<u.size∧u.size<=140737488355328) (λx0 _=>m-(match x0 with | .string u=>u.size | _=>0))
  case atStart=>exact⟨rfl,_,rfl,h1.1,h1.2⟩
  case round =>
   obtain⟨rfl,u,rfl,hu0,hu1⟩:=hrel;by_cases hlt:u.size<m
   ·have q1:(u.size:Int)<(m:Int):=by omega
    have hsz:(u++u).size=u.size+u.size:=by simp
    go_wp2_with fail
    go_roundw
    case rel=>exact⟨trivial,u++u,rfl,by omega,by omega⟩
    case measure=>simp;omega
   ·have q1:¬(u.size:Int)<(m:Int):=by omega
    by_cases h2:m<u.size∧0<m
    ·have q2:(m:Int)<(u.size:Int):=by omega
     have q3:(0:Int)<(m:Int):=by omega
     have q4:(0:Int)<=(m:Int):=by omega
     have q5:(m:Int)<=(u.size:Int):=by omega
     go_wp2_with fail
     go_ret;exact⟨⟨_,rfl,by rw[ByteArray.size_extract];omega⟩,rfl⟩
    ·by_cases h3:m<u.size
     ·have q2:(m:Int)<(u.size:Int):=by omega
      have q3:¬(0:Int)<(m:Int):=by omega
      go_wp2_with fail
      go_ret;exact⟨⟨_,rfl,hu1⟩,rfl⟩
     ·have q2:¬(m:Int)<(u.size:Int):=by omega
      go_wp2_with fail
      go_ret;exact⟨⟨_,rfl,hu1⟩,rfl⟩
 | false =>
  rw[hE,if_neg (by decide)] at hs';subst hs';clear hs;go_enter func41,ntmps41;go_wp2_with fail
  refine HP.out.mono ?_;rintro e w1⟨rfl,hw⟩;rw[hw];clear hw;go_wp2_with fail
  go_loopw [0] (λx0 Y=>Y=w∧∃u:ByteArray,x0=.string u∧0<u.size∧u.size<=140737488355328) (λx0 _=>m-(match x0 with | .string u=>u.size | _=>0))
  case atStart=>exact⟨rfl,_,rfl,h1.1,h1.2⟩
  case round =>
   obtain⟨rfl,u,rfl,hu0,hu1⟩:=hrel;by_cases hlt:u.size<m
   ·have q1:(u.size:Int)<(m:Int):=by omega
    have hsz:(u++u).size=u.size+u.size:=by simp
    go_wp2_with fail
    go_roundw
    case rel=>exact⟨trivial,u++u,rfl,by omega,by omega⟩
    case measure=>simp;omega
   ·have q1:¬(u.size:Int)<(m:Int):=by omega
    by_cases h2:m<u.size∧0<m
    ·have q2:(m:Int)<(u.size:Int):=by omega
     have q3:(0:Int)<(m:Int):=by omega
     have q4:(0:Int)<=(m:Int):=by omega
     have q5:(m:Int)<=(u.size:Int):=by omega
     go_wp2_with fail
     go_ret;exact⟨⟨_,rfl,by rw[ByteArray.size_extract];omega⟩,rfl⟩
    ·by_cases h3:m<u.size
     ·have q2:(m:Int)<(u.size:Int):=by omega
      have q3:¬(0:Int)<(m:Int):=by omega
      go_wp2_with fail
      go_ret;exact⟨⟨_,rfl,hu1⟩,rfl⟩
     ·have q2:¬(m:Int)<(u.size:Int):=by omega
      go_wp2_with fail
      go_ret;exact⟨⟨_,rfl,hu1⟩,rfl⟩
theorem csameE {va:Value}(ha:EL w va es)(hb:EL w vb es)(hl:es.length<=100000):Calls prog 16 #[va,vb] w λe w'=>e=.returned (.bool true)∧Below w.heap.size w w':=by
 obtain⟨a,ca,rfl,-,-,ha⟩:=ha;obtain⟨b,cb,rfl,-,-,hb⟩:=hb;obtain⟨ln,hln⟩:∃ln,es.length=ln:=⟨_,rfl⟩;rw[hln] at hl ⊢;have HA:=hide ha;have HB:=hide hb;clear ha hb;go_enter func16,ntmps16;go_wp2_with fail
 go_loopw [13] (λx13 Y=>∃j:Nat,j<=ln∧x13=.int .i64 (j:Int)∧Hid (Below w.heap.size w Y)) (λx13 _=>ln-(intOf x13).toNat)
 case atStart=>exact⟨0,Nat.zero_le _,rfl,Below.refl _ _⟩
 case round =>
  obtain⟨j,hj,rfl,HI⟩:=hrel;by_cases hjl:j<ln
  ·have hji:j<es.length:=by omega
   obtain⟨g,off,rfl,hA⟩:=HA.out.resolve_left (λe=>by rw[e] at hji;simp at hji);obtain⟨g2,off2,rfl,hB⟩:=HB.out.resolve_left (λe=>by rw[e] at hji;simp at hji);obtain⟨k1,k2⟩:=(hA.keep (w':=wr) (λ_ hc=>(HI.out.block g (gl hc)).trans hc)).cell j hji;obtain⟨k3,k4⟩:=(hB.keep (w':=wr) (λ_ hc=>(HI.out.block g2 (gl hc)).trans hc)).cell j hji;obtain⟨ek,hek⟩:∃ek,es[j].1=ek:=⟨_,rfl⟩;obtain⟨ev,hev⟩:∃ev,es[j].2=ev:=⟨_,rfl⟩;rw[hek] at k1 k3;rw[hev] at k2 k4;have q1:(j:Int)<(ln:Int):=by omega
   have q2:(0:Int)<=(j:Int):=by omega
   have hjb:j<=100000:=by omega
   have HJ:=hide (show j+1<=ln from hjl);clear hA hB hek hev hji hj hjl;go_wp2_with fail
   go_region
   all_goals
    go_wp2_with fail
    go_roundw
    case rel=>exact⟨j+1,HJ.out,by go_num,HI.out.drew⟩
    case measure=>simp[intOf];have:=HJ.out;omega
  ·have hje:j=ln:=by omega
   subst hje;have q1:¬(j:Int)<(j:Int):=by omega
   clear hj hjl;go_wp2_with fail
   go_ret;exact⟨rfl,HI.out⟩
theorem row_setN {k:Nat}{u:Value}(h:w.ownsRow base e size (.slice (some ⟨g,0,none⟩) n cap) n xs):∃xs',(w.setCell ⟨g,k,none⟩ u).ownsRow base e size (.slice (some ⟨g,0,none⟩) n cap) n xs':=by
 rcases h.2 with⟨e,_⟩|⟨g',cap',cur,e,hb,hg,hc,hm,hs,ht⟩
 ·cases e
 ·injection e with e1 e2 e3;injection e1 with e1;injection e1 with e1 _ _;subst e1 e3;refine⟨((cur.setIfInBounds k u).toList).take (n*size),?_,.inr ⟨g,cap,cur.setIfInBounds k u,rfl,hb,set_blk hg,hc,hm,by simpa using hs,rfl⟩⟩;rw[List.length_take];have:(cur.setIfInBounds k u).toList.length=cur.size:=by simp
  rw[this,hs];exact Nat.min_eq_left (Nat.mul_le_mul_right _ hc)
theorem row_cellN {k:Nat}(h:w.ownsRow base e size (.slice (some ⟨g,0,none⟩) n cap) n xs)(hk:k<n*size):(∃u,w.cell? ⟨g,k,none⟩=some u)∧w.frozen? ⟨g,k,none⟩=false∧g<w.heap.size∧base<=g:=by
 rcases h.2 with⟨e,_⟩|⟨g',cap',cur,e,hb,hg,hc,hm,hs,ht⟩
 ·cases e
 ·injection e with e1 e2 e3;injection e1 with e1;injection e1 with e1 _ _;subst e1 e3;have hkc:k<cur.size:=by
   rw[hs];exact Nat.lt_of_lt_of_le hk (Nat.mul_le_mul_right _ hc)
  exact⟨⟨cur[k],by simp[World.cell?,hg,hkc]⟩,by simp[World.frozen?,hg],(gl hg),hb⟩
theorem newsE2 (w:World)(k v k2 v2:ByteArray):∀j u,([.string k,.string v,.string k2,.string v2]:List Value)[j]?=some u->(w.alloc (.cells #[.string k,.string v,.string k2,.string v2] 116)).cell? ((⟨w.heap.size,0,none⟩:Addr).add j)=some u:=by
 intro j u hj
 match j,hj with
 | 0,h=>cases h;go_simp
 | 1,h=>cases h;go_simp
 | 2,h=>cases h;go_simp
 | 3,h=>cases h;go_simp
theorem ctold (ho:w.ownsRow base 116 2 fv es.length (entV es))(hb:EL w vb es)(hl:es.length<=100000)(hB:base<=w.heap.size):Calls prog 44 #[fv,vb] w λe w'=>e=.returned (.bool true)∧w.grownBy w' fv.ownBlock:=by
 have HS:=hide (csameE (row_el ho) hb hl);obtain⟨ln,hln⟩:∃ln,es.length=ln:=⟨_,rfl⟩;rw[hln] at hl ho;obtain⟨a,cap,rfl⟩:=own_formN ho;obtain⟨i0,hif,hz0,hz1,hz2⟩:=info_parts infoE;have HO:=hide (And.intro ho hB);clear ho hb hB;go_enter func44,ntmps44;go_wp2_with fail
 refine HS.out.mono ?_;rintro e w1⟨rfl,hb1⟩;have HI1:=hide (show w.grownBy w1 (Value.slice a ln cap).ownBlock∧w1.ownsRow base 116 2 (.slice a ln cap) ln (entV es) from⟨below_but hb1 _,row_keep HO.out.1 λg hg=>hb1.block g (World.ownsRow.lt HO.out.1 g hg).2⟩);clear hb1 HS;go_wp2_with fail
 go_loopw [12] (λx12 Y=>∃(j:Nat) (xs:List Value),j<=ln∧x12=.int .i64 (j:Int)∧Hid (w.grownBy Y (Value.slice a ln cap).ownBlock∧Y.ownsRow base 116 2 (.slice a ln cap) ln xs)) (λx12 _=>ln-(intOf x12).toNat)
 case atStart=>exact⟨0,_,Nat.zero_le _,rfl,HI1.out⟩
 case round =>
  clear HI1;obtain⟨j,xs,hj,rfl,HI⟩:=hrel;by_cases hjl:j<ln
  ·obtain⟨g,rfl⟩:∃g,a=some ⟨g,0,none⟩:=by
    rcases HI.out.2.2 with⟨e,h0⟩|⟨g,cap',cur,e,_⟩
    ·omega
    ·injection e with e1;exact⟨g,e1⟩
   obtain⟨⟨u0,k0⟩,z0,hgl,hbg⟩:=row_cellN (k:=j*2) HI.out.2 (by omega);obtain⟨⟨u1,k1⟩,z1,-,-⟩:=row_cellN (k:=j*2+1) HI.out.2 (by omega);obtain⟨xs1,r1⟩:=row_setN (k:=j*2) (u:=.string ⟨#[115,112,111,105,108,116]⟩) HI.out.2;obtain⟨xs2,r2⟩:=row_setN (k:=j*2+1) (u:=.string ⟨#[]⟩) r1;have HJ:=hide (show j+1<=ln from hjl);have HW:=hide (show w.grownBy ((wr.setCell ⟨g,j*2,none⟩ (.string ⟨#[115,112,111,105,108,116]⟩)).setCell ⟨g,j*2+1,none⟩ (.string ⟨#[]⟩)) (Value.slice (some ⟨g,0,none⟩) ln cap).ownBlock∧_ from⟨But.trans (But.trans HI.out.1 (set_grown _ _ _ _)) (set_grown _ _ _ _),r2⟩);have q1:(j:Int)<(ln:Int):=by omega
   have q2:(0:Int)<=(j:Int):=by omega
   have hjb:j<=100000:=by omega
   clear r1 r2 hj hjl;go_wp2_with fail
   go_roundw
   case rel=>exact⟨j+1,xs2,HJ.out,by go_num,HW.out⟩
   case measure=>simp[intOf];have:=HJ.out;omega
  ·have hje:j=ln:=by omega
   subst hje;have q1:¬(j:Int)<(j:Int):=by omega
   have hsz:base<=wr.heap.size:=Nat.le_trans HO.out.2 HI.out.1.size;clear hj hjl;go_wp2_with (at_builtin;refine wpList_append_own_at _ rfl (.tmp 20) (.tmp 23) 32 rfl base 116 i0 (.agg #[.string ⟨#[]⟩,.string ⟨#[]⟩]) 2 32 underlying32 hif hz0 hz1 hz2 rfl (by decide) (.slice a j cap) j xs rfl (World.ownsRow.alloc HI.out.2 _) ⟨wr.heap.size,0,none⟩ 2 2 [.string ⟨#[115,112,111,105,108,116]⟩,.string ⟨#[]⟩,.string ⟨#[115,112,111,105,108,116]⟩,.string ⟨#[]⟩] rfl rfl (newsE2 _ _ _ _ _) (entV_one [(⟨#[115,112,111,105,108,116]⟩,⟨#[]⟩),(⟨#[115,112,111,105,108,116]⟩,⟨#[]⟩)]) (by unfold maxLen;omega) (by omega) (by simp;omega) ?_)
   intro v4 w4 ho4 hg4 _ hn4;have HW:=hide (But.trans (But.trans HI.out.1 (World.grownBy_alloc wr _ _)) hg4);obtain⟨a4,cp4,rfl⟩:=own_formN ho4;clear ho4 hg4 hn4;go_wp2_with fail
   go_ret;exact⟨rfl,HW.out⟩
abbrev SortK (l:List ByteArray):Prop:=l.Pairwise (λa b=>klt a b=true)
theorem ent_sort:∀(d:Nat) (lo hi:ByteArray) (t:T d),Bnd d lo hi t->SortK ((entT d t).map (·.1))
 | 0, lo, hi, t, h => by
  have:=(keys_sort 0 h).2.1;show SortK ((t.its.map λi=>(i.key,i.val)).map (·.1));rw[List.map_map];exact this
 | d + 1, lo, hi, t, h => by
  have key:∀(s:List (ByteArray×T d)),BS (Bnd d) s hi->SortK ((entS s).map (·.1)):=by
   intro s
   induction s with
   | nil=>intro _;exact List.Pairwise.nil
   | cons p r ih =>
    intro hb;obtain⟨h1,h2,h3,h4⟩:=hb;rw[entS_cons,List.map_append];refine List.pairwise_append.2 ⟨ent_sort d _ _ p.2 h2,ih h4,λa ha b hb'=>?_⟩;obtain⟨e,he,rfl⟩:=List.mem_map.1 ha;obtain⟨f,hf,rfl⟩:=List.mem_map.1 hb';have g1:=(ent_in d _ _ p.2 h2 e he).2.1;have g2:=(entS_in d r hi h4 f hf).1;cases r with
    | nil=>simp[entS] at hf
    | cons q r =>
     rcases g1 with g1|g1
     ·have hq:=(h3 q (by simp)).1;have g1:q.1=⟨#[]⟩:=g1;rw[g1] at hq;exact absurd hq (by decide)
     ·exact klt_le g1 g2
  exact key t.kids h.2
structure TrH (d:Nat) (t:T d) (es:List Ent):Prop where
 srt:SortK (es.map (·.1))
 key:∀e∈es,okK e.1
 dep:es.length<=250->d<=7
 nod:(nodT d t).length<=5*es.length+1
theorem Tr.more [Oth]{A:Nat->PgV}{fl os:List Nat}{pages d:Nat}{t:T d}{es:List Ent}(h:Tr A fl pages os t es):TrH d t es:=by
 have F:=h.gist;refine⟨?_,λe he=>?_,λhl=>?_,?_⟩
 ·rw[<-F.ent];exact ent_sort d _ _ t F.bnd
 ·rw[<-F.ent] at he;exact(ent_in d _ _ t F.bnd e he).2.2
 ·rcases h.ok.many with h0|h0
  ·omega
  ·rw[F.ent] at h0;have hlt:2 ^ d<2 ^ 8:=Nat.lt_of_le_of_lt (Nat.le_trans h0 hl) (by decide);have:=(Nat.pow_lt_pow_iff_right (by decide:1<2)).1 hlt;omega
 ·have:=nod_top F.bnd h.ok;rw[F.ent] at this;exact this
theorem getR_none:∀{es:List Ent},SortK (es.map (·.1))->(∀e∈es,¬e.1=k)->GetR es k ⟨#[]⟩ false
 | [],_,_=>⟨[],[],.inl ⟨rfl,rfl,rfl⟩,(λ_ h=>by cases h),(λ_ h=>by cases h)⟩
 | e :: r, hs, hn => by
  replace hs:(e.1::r.map (·.1)).Pairwise (λa b=>klt a b=true):=hs
  rw[List.pairwise_cons] at hs;rcases klt_tri e.1 k with h | h | h
  ·obtain⟨p,s,he,hp,hs'⟩:=getR_none hs.2 (λx hx=>hn x (List.mem_cons_of_mem _ hx));rcases he with⟨rfl,_,_⟩|⟨_,hc⟩
   ·exact⟨e::p,s,.inl ⟨rfl,rfl,rfl⟩,λx hx=>by rcases List.mem_cons.1 hx with rfl | hx;exact h;exact hp x hx,hs'⟩
   ·cases hc
  ·exact absurd h (hn e (List.mem_cons_self ..))
  ·refine⟨[],e::r,.inl ⟨rfl,rfl,rfl⟩,(λ_ h=>by cases h),λx hx=>?_⟩;rcases List.mem_cons.1 hx with rfl | hx
   ·exact h
   ·exact klt_tr h (hs.1 _ (List.mem_map.2 ⟨x,hx,rfl⟩))
structure LF (B mb:Nat) (w w':World):Prop where
 keep:∀(c:Nat) (cs:Array Value) (t:TypeId),w.heap[c]?=some (.cells cs t (0,0))->tyQ t=false->¬c=mb->w'.heap[c]?=some (.cells cs t (0,0))
 bel:Below B w w'
theorem LF.trans {w'':World}(h:LF B mb w w')(k:LF B mb w' w''):LF B mb w w'':=⟨λc cs t a b d=>k.keep c cs t (h.keep c cs t a b d) b d,h.bel.trans k.bel⟩
theorem TS.lf (h:TS w B D Gp V K pk m A fl pages)(hs:St2 w w' B V V')(mb:Nat):LF B mb w w':=⟨λ_ _ _ hc h1 _=>h.stay hs hc h1,hs.bel.toBelow⟩
theorem lf_map (hg:w.grownBy w' (some mb))(hB:B<=mb)(hl:B<=w.heap.size):LF B mb w w':=⟨λc _ _ hc _ hn=>(hg.block c (gl hc) (λe=>hn (by injection e))).trans hc,below_grown (Below.refl _ _) hg (λg e=>by injection e with e;omega) hl⟩
theorem TS.stayMp (h:TS w B D Gp V K pk m A fl pages)(hs:St2 w w' B V V')(hM:MpV w mb v es):MpV w' mb v es:=
 ⟨h.stay hs hM.blk (by decide),row_keep hM.row λg hg=>by
  obtain⟨cs,hcs⟩:=row_isN hM.row hg;exact(h.stay hs hcs (by decide)).trans hcs.symm⟩
theorem LF.mp {mb2:Nat}{v2:Value}{es2:List Ent}(h:LF B mb w w')(hM:MpV w mb v es)(h2:MpV w mb2 v2 es2)(hne:¬mb2=mb):MpV w' mb2 v2 es2:=
 ⟨h.keep _ _ _ h2.blk (by decide) hne,row_keep h2.row λg hg=>by
  obtain⟨cs,hcs⟩:=row_isN h2.row hg;refine(h.keep g cs _ hcs (by decide) (λe=>?_)).trans hcs.symm;rw[e,hM.blk] at hcs;injection hcs with hcs;injection hcs with _ hcs _;exact absurd hcs (by decide)⟩
theorem LF.tb2 {tb2 r2:Nat}(h:LF B mb w w')(hM:MpV w mb v es)(h2:TB w tb2 Gp r2):TB w' tb2 Gp r2:=h.keep tb2 _ _ h2 (by decide) (λe=>by
 have h2':w.heap[tb2]?=_:=h2;rw[e,hM.blk] at h2';injection h2' with h2';injection h2' with _ h2' _;exact absurd h2' (by decide))
theorem cstep1 [Oth]{d:Nat}{t:T d}(h:TS w B D Gp V K pk m A fl pages)(hm:m<=40000)(hT:Tr A fl pages os t es)(ht:TB w tb Gp (numT d t))(hM:MpV w mb v es)(hd:d<=20)(hes:es.length<=1000)(hsz:s.size<=140737488355328):Calls prog 14 #[(.pointer (some ⟨Gp,0,none⟩)),(.pointer (some ⟨tb,0,none⟩)),(.pointer (some ⟨mb,0,none⟩)),(.agg #[.int .i64 1,.int .i64 af,.int .i64 aa,.int .i64 an,.string s,.string tt,.slice kp kn kc,.slice ca cn cc])] w λe w'=>e=.returned (.bool true)∧∃V',TS w' B D Gp V' K pk m A fl pages∧St2 w w' B V V':=by
 have hb:Below w.heap.size w (w.alloc (.cells #[.int .i64 1,.int .i64 af,.int .i64 aa,.int .i64 an,.string s,.string tt,.slice kp kn kc,.slice ca cn cc] 45)):=((Below.refl _ _).alloc (Nat.le_refl _) _);obtain⟨h1,s1⟩:=h.below hb;have q0:(w.alloc (.cells #[.int .i64 1,.int .i64 af,.int .i64 aa,.int .i64 an,.string s,.string tt,.slice kp kn kc,.slice ca cn cc] 45)).heap[w.heap.size]?=some (.cells #[.int .i64 1,.int .i64 af,.int .i64 aa,.int .i64 an,.string s,.string tt,.slice kp kn kc,.slice ca cn cc] 45 (0,0)):=heap_alloc_new w _;have HI:=hide (λ(Y:World)=>cIsKey s Y (by omega));have HQ:=hide (λ(Y:World) (VY:PV) (y2:St2 (w.alloc (.cells #[.int .i64 1,.int .i64 af,.int .i64 aa,.int .i64 an,.string s,.string tt,.slice kp kn kc,.slice ca cn cc] 45)) Y B V VY)=>(show Y.cell? ⟨w.heap.size,4,none⟩=some (.string s) from by
  have:=h1.stay y2 q0 (by decide);simp[World.cell?,this]))
 have HMp:=hide (λ(Y:World) (VY:PV) (y2:St2 (w.alloc (.cells #[.int .i64 1,.int .i64 af,.int .i64 aa,.int .i64 an,.string s,.string tt,.slice kp kn kc,.slice ca cn cc] 45)) Y B V VY)=>h1.stayMp y2 (h.stayMp s1 hM));by_cases hk:okK s
 ·have hkd:decide (0<s.size∧s.size<=200)=true:=decide_eq_true hk;rw[hkd] at HI;have HG:=hide (cGet h1 hm hT (h.stayTB s1 ht) s hk hd);have HS:=hide s1;clear h h1 hT ht hM hb s1 hk hkd q0;go_enter func14,ntmps14;go_wp2_with fail
  refine(HI.out _).mono ?_;rintro e w1⟨rfl,hw⟩;rw[hw];clear hw;go_wp2_with fail
  refine HG.out.mono ?_;rintro e w2⟨val,is,rfl,hg,V2,q1,q2⟩;have d4:=HQ.out w2 V2 q2;have HMG:=hide (cMapGet (HMp.out w2 V2 q2) s val is hg (by omega));have HE:=hide (And.intro q1 (HS.out.trans q2));clear hg q1 q2 HG HQ HMp HS;go_wp2_with fail
  refine HMG.out.mono ?_;rintro e w3⟨rfl,hb3⟩;have HB:=hide (show ∃V',TS w3 B D Gp V' K pk m A fl pages∧St2 w w3 B V V' from⟨V2,(HE.out.1.below hb3).1,HE.out.2.trans (HE.out.1.below hb3).2⟩);clear hb3 HMG HE;go_wp2_with fail
  refine(cnumL 0 _).mono ?_;rintro e w4⟨rfl,hw⟩;rw[hw];clear hw;go_wp2_with fail
  go_ret;exact⟨rfl,HB.out⟩
 ·have hkd:decide (0<s.size∧s.size<=200)=false:=decide_eq_false hk;rw[hkd] at HI;have hg:GetR es s ⟨#[]⟩ false:=getR_none hT.more.srt (λe he q=>hk (by rw[<-q];exact hT.more.key e he));have HG:=hide (cGetN (w:=w.alloc (.cells #[.int .i64 1,.int .i64 af,.int .i64 aa,.int .i64 an,.string s,.string tt,.slice kp kn kc,.slice ca cn cc] 45)) (tb:=tb) s hk (by omega));have HMG:=hide (λ(Y:World) (hY:Below (w.alloc (.cells #[.int .i64 1,.int .i64 af,.int .i64 aa,.int .i64 an,.string s,.string tt,.slice kp kn kc,.slice ca cn cc] 45)).heap.size (w.alloc (.cells #[.int .i64 1,.int .i64 af,.int .i64 aa,.int .i64 an,.string s,.string tt,.slice kp kn kc,.slice ca cn cc] 45)) Y)=>(show Y.cell? ⟨w.heap.size,4,none⟩=some (.string s)∧TS Y B D Gp V K pk m A fl pages∧St2 w Y B V V∧Calls prog 40 #[(.pointer (some ⟨mb,0,none⟩)),.string s] Y λe w'=>e=.returned (.tuple #[.string ⟨#[]⟩,.bool false])∧Below Y.heap.size Y w' from⟨HQ.out Y V (h1.below hY).2,(h1.below hY).1,s1.trans (h1.below hY).2,cMapGet (HMp.out Y V (h1.below hY).2) s _ _ hg (by omega)⟩));clear h h1 hT ht hM hb s1 hk hkd q0 hg HQ HMp;go_enter func14,ntmps14;go_wp2_with fail
  refine(HI.out _).mono ?_;rintro e w1⟨rfl,hw⟩;rw[hw];clear hw;go_wp2_with fail
  refine HG.out.mono ?_;rintro e w2⟨rfl,hb2⟩;obtain⟨d4,q1,q2,q3⟩:=HMG.out w2 hb2;have HC:=hide q3;have HE:=hide (And.intro q1 q2);clear q1 q2 q3 hb2 HG HMG;go_wp2_with fail
  refine HC.out.mono ?_;rintro e w3⟨rfl,hb3⟩;have HB:=hide (show ∃V',TS w3 B D Gp V' K pk m A fl pages∧St2 w w3 B V V' from⟨V,(HE.out.1.below hb3).1,HE.out.2.trans (HE.out.1.below hb3).2⟩);clear hb3 HC HE;go_wp2_with fail
  refine(cnumL 1 _).mono ?_;rintro e w4⟨rfl,hw⟩;rw[hw];clear hw;go_wp2_with fail
  go_ret;exact⟨rfl,HB.out⟩
def stepP [Oth](w:World)(B D Gp:Nat)(K:Pgs)(pk m pages:Nat)(os:List Nat)(rt tb mb d n:Nat)(w':World):Prop:=
 ∃(V':PV) (m':Nat) (A':Nat->PgV) (fl':List Nat) (pages' d':Nat) (t':T d') (es':List Ent) (v':Value),TS w' B D Gp V' K pk m' A' fl' pages'∧Tr A' fl' pages' os t' es'∧numT d' t'=rt∧TB w' tb Gp rt∧MpV w' mb v' es'∧LF B mb w w'∧m'<=m+4*d+30∧pages'<=pages+d+7∧es'.length<=n+1
theorem putR_len {v:ByteArray}(h:PutR es k v es'):es'.length<=es.length+1:=by
 obtain⟨p,s,h1,rfl,-,-⟩:=h;rcases h1 with rfl|⟨v0,rfl⟩<;>simp<;>omega
theorem delR_len {b:Bool}(h:DelR es k b es'):es'.length<=es.length+1:=by
 obtain⟨p,s,h1,rfl,-,-⟩:=h;rcases h1 with⟨rfl,-⟩|⟨v0,rfl,-⟩<;>simp<;>omega
theorem stepP.same [Oth]{d:Nat}{t:T d}(h:TS w B D Gp V K pk m A fl pages)(hT:Tr A fl pages os t es)(ht:TB w tb Gp (numT d t))(hM:MpV w mb v es)(h':TS w' B D Gp V' K pk m A fl pages)(hs:St2 w w' B V V'):stepP w B D Gp K pk m pages os (numT d t) tb mb d es.length w':=
 ⟨V',m,A,fl,pages,d,t,es,v,h',hT,rfl,h.stayTB hs ht,h.stayMp hs hM,h.lf hs mb,by omega,by omega,by omega⟩
theorem step_told [Oth]{d:Nat}{t:T d}{V3:PV}(h:TS w B D Gp V K pk m A fl pages)(hT:Tr A fl pages os t es)(ht:TB w tb Gp (numT d t))(hM:MpV w mb v es)(h3:TS w3 B D Gp V3 K pk m A fl pages)(s3:St2 w w3 B V V3)(ho:w3.ownsRow base 116 2 fv n xs)(hb:w.heap.size<=base)(hg:w3.grownBy w4 fv.ownBlock):stepP w B D Gp K pk m pages os (numT d t) tb mb d es.length w4:=by
 have h4:TS w4 B D Gp V3 K pk m A fl pages:=h3.keptN ⟨hg.size,λc hc hl=>hg.block c hc (λe=>hl (by
  obtain⟨cs,hcs⟩:=row_isN ho e.symm;exact .inl ⟨cs,_,hcs,by decide⟩))⟩
 exact stepP.same h hT ht hM h4 (s3.keep2 (o:=fv.ownBlock) (o':=none) ⟨hg.os,hg.tape,hg.output,hg.size,λc hc h1 _=>hg.block c hc h1⟩ (λg e=>Nat.le_trans hb (World.ownsRow.lt ho g e).1) (λg e=>by cases e) h.lo)
theorem cstep2 [Oth]{d:Nat}{t:T d}(h:TS w B D Gp V K pk m A fl pages)(hm:m<=28000)(hpg:pages<=55000)(hT:Tr A fl pages os t es)(ht:TB w tb Gp (numT d t))(hM:MpV w mb v es)(hB:B<=mb)(hd:d<=20)(hes:es.length<=1000)(hsz:s.size<=140737488355328)(htz:tt.size<=140737488355328)(han:-9223372036854775808<=an∧an<=9223372036854775807):Calls prog 14 #[(.pointer (some ⟨Gp,0,none⟩)),(.pointer (some ⟨tb,0,none⟩)),(.pointer (some ⟨mb,0,none⟩)),(.agg #[.int .i64 2,.int .i64 af,.int .i64 aa,.int .i64 an,.string s,.string tt,.slice kp kn kc,.slice ca cn cc])] w λe w'=>e=.returned (.bool true)∧stepP w B D Gp K pk m pages os (numT d t) tb mb d es.length w':=by
 have hb:Below w.heap.size w (w.alloc (.cells #[.int .i64 2,.int .i64 af,.int .i64 aa,.int .i64 an,.string s,.string tt,.slice kp kn kc,.slice ca cn cc] 45)):=((Below.refl _ _).alloc (Nat.le_refl _) _);obtain⟨h1,s1⟩:=h.below hb;have q0:(w.alloc (.cells #[.int .i64 2,.int .i64 af,.int .i64 aa,.int .i64 an,.string s,.string tt,.slice kp kn kc,.slice ca cn cc] 45)).heap[w.heap.size]?=some (.cells #[.int .i64 2,.int .i64 af,.int .i64 aa,.int .i64 an,.string s,.string tt,.slice kp kn kc,.slice ca cn cc] 45 (0,0)):=heap_alloc_new w _;have HI:=hide (λ(Y:World)=>cIsKey s Y (by omega));have HLG:=hide (λ(Y:World)=>clonger tt an Y han htz);have hlo:=h.lo;by_cases hk:okK s
 ·have hkd:decide (0<s.size∧s.size<=200)=true:=decide_eq_true hk;rw[hkd] at HI;have HL:=hide (λ(val:ByteArray) (hv:3000<val.size) (hv2:val.size<=140737488355328)=>cPutL s val hk hv (by omega) tb (w.alloc (.cells #[.int .i64 2,.int .i64 af,.int .i64 aa,.int .i64 an,.string s,.string tt,.slice kp kn kc,.slice ca cn cc] 45)));have HP:=hide (λ(val:ByteArray) (hv:val.size<=3000)=>cPut h1 hm hpg hT (h.stayTB s1 ht) s val hk hv hd);have HE:=hide (λ(Y:World) (hY:Below (w.alloc (.cells #[.int .i64 2,.int .i64 af,.int .i64 aa,.int .i64 an,.string s,.string tt,.slice kp kn kc,.slice ca cn cc] 45)).heap.size (w.alloc (.cells #[.int .i64 2,.int .i64 af,.int .i64 aa,.int .i64 an,.string s,.string tt,.slice kp kn kc,.slice ca cn cc] 45)) Y)=>stepP.same h hT ht hM (h1.below hY).1 (s1.trans (h1.below hY).2));have HD:=hide (λ(Y:World) (V2:PV) (y:St2 (w.alloc (.cells #[.int .i64 2,.int .i64 af,.int .i64 aa,.int .i64 an,.string s,.string tt,.slice kp kn kc,.slice ca cn cc] 45)) Y B V V2)=>(show Y.cell? ⟨w.heap.size,4,none⟩=some (.string s)∧MpV Y mb v es∧TB Y tb Gp (numT d t)∧LF B mb w Y from⟨by
   have:=h1.stay y q0 (by decide);simp[World.cell?,this],h1.stayMp y (h.stayMp s1 hM),h1.stayTB y (h.stayTB s1 ht),h.lf (s1.trans y) mb⟩))
  clear h h1 hT ht hM hb s1 hk hkd q0;go_enter func14,ntmps14;go_wp2_with fail
  refine(HI.out _).mono ?_;rintro e w1⟨rfl,hw⟩;rw[hw];clear hw;go_wp2_with fail
  refine(HLG.out _).mono ?_;rintro e w2⟨⟨val,rfl,hv⟩,hw2⟩;rw[hw2];clear hw2;by_cases hv3:val.size<=3000
  ·have q3:¬(3000:Int)<(val.size:Int):=by omega
   have HP2:=hide (HP.out val hv3);clear HP HL HLG HI hv3;go_wp2_with fail
   refine HP2.out.mono ?_;rintro e w3⟨rfl,V3,A3,fl3,pages3,d3,t3,es3,p1,p2,p3,p4,p5,p6⟩;obtain⟨d4,m1,m2,m3⟩:=HD.out w3 V3 p5;have HMP:=hide (cMapPut m1 s val p4 (by omega));have HQ:=hide (show ∀(w4:World) (v4:Value),MpV w4 mb v4 es3->w3.grownBy w4 (some mb)->stepP w B D Gp K pk m pages os (numT d t) tb mb d es.length w4 from λw4 v4 y1 y2=>⟨V3,_,A3,fl3,pages3,d3,t3,es3,v4,p1.other y2 ⟨_,m1.blk⟩ (by decide),p2,p3,(lf_map y2 hB p1.lo).tb2 m1 m2,y1,m3.trans (lf_map y2 hB p1.lo),Nat.le_refl _,p6,putR_len p4⟩);clear p1 p2 p3 p4 p5 p6 m1 m2 m3 HP2 HE HD;go_wp2_with fail
   refine(cnumL 0 _).mono ?_;rintro e w4⟨rfl,hw⟩;rw[hw];clear hw;go_wp2_with fail
   refine HMP.out.mono ?_;rintro e w5⟨rfl,v5,y1,y2⟩;have HZ:=hide (HQ.out w5 v5 y1 y2);clear y1 y2 HMP HQ;go_wp2_with fail
   go_ret;exact⟨rfl,HZ.out⟩
  ·have q3:(3000:Int)<(val.size:Int):=by omega
   have HL2:=hide (HL.out val (by omega) hv);clear HP HL HLG HI hv3 hv;go_wp2_with fail
   refine HL2.out.mono ?_;rintro e w3⟨rfl,hb3⟩;have HZ:=hide (HE.out w3 hb3);clear hb3 HL2 HE HD;go_wp2_with fail
   refine(cnumL 8 _).mono ?_;rintro e w4⟨rfl,hw⟩;rw[hw];clear hw;go_wp2_with fail
   go_ret;exact⟨rfl,HZ.out⟩
 ·have hkd:decide (0<s.size∧s.size<=200)=false:=decide_eq_false hk;rw[hkd] at HI;have HN:=hide (λ(val:ByteArray)=>cPutN (w:=w.alloc (.cells #[.int .i64 2,.int .i64 af,.int .i64 aa,.int .i64 an,.string s,.string tt,.slice kp kn kc,.slice ca cn cc] 45)) (tb:=tb) s val hk (by omega));have HE:=hide (λ(Y:World) (hY:Below (w.alloc (.cells #[.int .i64 2,.int .i64 af,.int .i64 aa,.int .i64 an,.string s,.string tt,.slice kp kn kc,.slice ca cn cc] 45)).heap.size (w.alloc (.cells #[.int .i64 2,.int .i64 af,.int .i64 aa,.int .i64 an,.string s,.string tt,.slice kp kn kc,.slice ca cn cc] 45)) Y)=>stepP.same h hT ht hM (h1.below hY).1 (s1.trans (h1.below hY).2));clear h h1 hT ht hM hb s1 hk hkd q0;go_enter func14,ntmps14;go_wp2_with fail
  refine(HI.out _).mono ?_;rintro e w1⟨rfl,hw⟩;rw[hw];clear hw;go_wp2_with fail
  refine(HLG.out _).mono ?_;rintro e w2⟨⟨val,rfl,hv⟩,hw2⟩;rw[hw2];clear hw2 HLG HI;go_wp2_with fail
  refine(HN.out val).mono ?_;rintro e w3⟨rfl,hb3⟩;have HZ:=hide (HE.out w3 hb3);clear hb3 HN HE;go_wp2_with fail
  refine(cnumL 1 _).mono ?_;rintro e w4⟨rfl,hw⟩;rw[hw];clear hw;go_wp2_with fail
  go_ret;exact⟨rfl,HZ.out⟩
theorem cstep3 [Oth]{d:Nat}{t:T d}(h:TS w B D Gp V K pk m A fl pages)(hm:m<=28000)(hpg:pages<=55000)(hT:Tr A fl pages os t es)(ht:TB w tb Gp (numT d t))(hM:MpV w mb v es)(hB:B<=mb)(hd:d<=20)(hes:es.length<=1000)(hsz:s.size<=140737488355328):Calls prog 14 #[(.pointer (some ⟨Gp,0,none⟩)),(.pointer (some ⟨tb,0,none⟩)),(.pointer (some ⟨mb,0,none⟩)),(.agg #[.int .i64 3,.int .i64 af,.int .i64 aa,.int .i64 an,.string s,.string tt,.slice kp kn kc,.slice ca cn cc])] w λe w'=>e=.returned (.bool true)∧stepP w B D Gp K pk m pages os (numT d t) tb mb d es.length w':=by
 have hb:Below w.heap.size w (w.alloc (.cells #[.int .i64 3,.int .i64 af,.int .i64 aa,.int .i64 an,.string s,.string tt,.slice kp kn kc,.slice ca cn cc] 45)):=((Below.refl _ _).alloc (Nat.le_refl _) _);obtain⟨h1,s1⟩:=h.below hb;have q0:(w.alloc (.cells #[.int .i64 3,.int .i64 af,.int .i64 aa,.int .i64 an,.string s,.string tt,.slice kp kn kc,.slice ca cn cc] 45)).heap[w.heap.size]?=some (.cells #[.int .i64 3,.int .i64 af,.int .i64 aa,.int .i64 an,.string s,.string tt,.slice kp kn kc,.slice ca cn cc] 45 (0,0)):=heap_alloc_new w _;have HI:=hide (λ(Y:World)=>cIsKey s Y (by omega));by_cases hk:okK s
 ·have hkd:decide (0<s.size∧s.size<=200)=true:=decide_eq_true hk;rw[hkd] at HI;have HP:=hide (cDelete h1 hm hpg hT (h.stayTB s1 ht) s hk hd);have HD:=hide (λ(Y:World) (V2:PV) (y:St2 (w.alloc (.cells #[.int .i64 3,.int .i64 af,.int .i64 aa,.int .i64 an,.string s,.string tt,.slice kp kn kc,.slice ca cn cc] 45)) Y B V V2)=>(show Y.cell? ⟨w.heap.size,4,none⟩=some (.string s)∧MpV Y mb v es∧TB Y tb Gp (numT d t)∧LF B mb w Y from⟨by
   have:=h1.stay y q0 (by decide);simp[World.cell?,this],h1.stayMp y (h.stayMp s1 hM),h1.stayTB y (h.stayTB s1 ht),h.lf (s1.trans y) mb⟩))
  clear h h1 hT ht hM hb s1 hk hkd q0;go_enter func14,ntmps14;go_wp2_with fail
  refine(HI.out _).mono ?_;rintro e w1⟨rfl,hw⟩;rw[hw];clear hw;go_wp2_with fail
  refine HP.out.mono ?_;rintro e w3⟨is,rfl,V3,A3,fl3,pages3,d3,t3,es3,p1,p2,p3,p4,p5,p6⟩;obtain⟨d4,m1,m2,m3⟩:=HD.out w3 V3 p5;have HMP:=hide (cMapDel m1 s is p4 (by omega));have HQ:=hide (show ∀(w4:World) (v4:Value),MpV w4 mb v4 es3->w3.grownBy w4 (some mb)->stepP w B D Gp K pk m pages os (numT d t) tb mb d es.length w4 from λw4 v4 y1 y2=>⟨V3,_,A3,fl3,pages3,d3,t3,es3,v4,p1.other y2 ⟨_,m1.blk⟩ (by decide),p2,p3,(lf_map y2 hB p1.lo).tb2 m1 m2,y1,m3.trans (lf_map y2 hB p1.lo),Nat.le_refl _,p6,delR_len p4⟩);clear p1 p2 p3 p4 p5 p6 m1 m2 m3 HP HD HI;go_wp2_with fail
  refine HMP.out.mono ?_;rintro e w5⟨rfl,v5,y1,y2⟩;have HZ:=hide (HQ.out w5 v5 y1 y2);clear y1 y2 HMP HQ;go_wp2_with fail
  refine(cnumL 0 _).mono ?_;rintro e w6⟨rfl,hw⟩;rw[hw];clear hw;go_wp2_with fail
  go_ret;exact⟨rfl,HZ.out⟩
 ·have hkd:decide (0<s.size∧s.size<=200)=false:=decide_eq_false hk;rw[hkd] at HI;have HN:=hide (cDelN (w:=w.alloc (.cells #[.int .i64 3,.int .i64 af,.int .i64 aa,.int .i64 an,.string s,.string tt,.slice kp kn kc,.slice ca cn cc] 45)) (tb:=tb) s hk (by omega));have HE:=hide (λ(Y:World) (hY:Below (w.alloc (.cells #[.int .i64 3,.int .i64 af,.int .i64 aa,.int .i64 an,.string s,.string tt,.slice kp kn kc,.slice ca cn cc] 45)).heap.size (w.alloc (.cells #[.int .i64 3,.int .i64 af,.int .i64 aa,.int .i64 an,.string s,.string tt,.slice kp kn kc,.slice ca cn cc] 45)) Y)=>stepP.same h hT ht hM (h1.below hY).1 (s1.trans (h1.below hY).2));clear h h1 hT ht hM hb s1 hk hkd q0;go_enter func14,ntmps14;go_wp2_with fail
  refine(HI.out _).mono ?_;rintro e w1⟨rfl,hw⟩;rw[hw];clear hw;go_wp2_with fail
  refine HN.out.mono ?_;rintro e w3⟨rfl,hb3⟩;have HZ:=hide (HE.out w3 hb3);clear hb3 HN HE HI;go_wp2_with fail
  refine(cnumL 1 _).mono ?_;rintro e w4⟨rfl,hw⟩;rw[hw];clear hw;go_wp2_with fail
  go_ret;exact⟨rfl,HZ.out⟩
theorem cstep4 [Oth]{d:Nat}{t:T d}(h:TS w B D Gp V K pk m A fl pages)(hm:m<=40000)(hT:Tr A fl pages os t es)(ht:TB w tb Gp (numT d t))(hM:MpV w mb v es)(hes:es.length<=1000)(hsz:s.size<=140737488355328):Calls prog 14 #[(.pointer (some ⟨Gp,0,none⟩)),(.pointer (some ⟨tb,0,none⟩)),(.pointer (some ⟨mb,0,none⟩)),(.agg #[.int .i64 4,.int .i64 af,.int .i64 aa,.int .i64 an,.string s,.string tt,.slice kp kn kc,.slice ca cn cc])] w λe w'=>e=.returned (.bool true)∧stepP w B D Gp K pk m pages os (numT d t) tb mb d es.length w':=by
 have hb:Below w.heap.size w (w.alloc (.cells #[.int .i64 4,.int .i64 af,.int .i64 aa,.int .i64 an,.string s,.string tt,.slice kp kn kc,.slice ca cn cc] 45)):=((Below.refl _ _).alloc (Nat.le_refl _) _);obtain⟨h1,s1⟩:=h.below hb;have q0:(w.alloc (.cells #[.int .i64 4,.int .i64 af,.int .i64 aa,.int .i64 an,.string s,.string tt,.slice kp kn kc,.slice ca cn cc] 45)).heap[w.heap.size]?=some (.cells #[.int .i64 4,.int .i64 af,.int .i64 aa,.int .i64 an,.string s,.string tt,.slice kp kn kc,.slice ca cn cc] 45 (0,0)):=heap_alloc_new w _;have HI:=hide (λ(Y:World)=>cIsKey s Y (by omega));have HC:=hide (cScan h1 hm hT (h.stayTB s1 ht) s tt an (by omega));have HSL:=hide (show(scanE an false s tt es).length<=100000 from by
  unfold scanE;refine Nat.le_trans (addM_len _) ?_;rw[dir_len];have:=List.length_filter_le (λe:Ent=>inR s tt e.1) es;simp;omega)
 have HD:=hide (λ(Y:World) (V2:PV) (y:St2 (w.alloc (.cells #[.int .i64 4,.int .i64 af,.int .i64 aa,.int .i64 an,.string s,.string tt,.slice kp kn kc,.slice ca cn cc] 45)) Y B V V2)=>(show(Y.cell? ⟨w.heap.size,4,none⟩=some (.string s)∧Y.cell? ⟨w.heap.size,5,none⟩=some (.string tt)∧Y.cell? ⟨w.heap.size,3,none⟩=some (.int .i64 an))∧MpV Y mb v es from by
  have hq:=h1.stay y q0 (by decide);exact⟨⟨by simp[World.cell?,hq],by simp[World.cell?,hq],by simp[World.cell?,hq]⟩,h1.stayMp y (h.stayMp s1 hM)⟩))
 have HST:=hide (λ(w3 w4:World) (V3:PV) (fv:Value) (n:Nat) (xs:List Value) (y1:TS w3 B D Gp V3 K pk m A fl pages) (y2:St2 (w.alloc (.cells #[.int .i64 4,.int .i64 af,.int .i64 aa,.int .i64 an,.string s,.string tt,.slice kp kn kc,.slice ca cn cc] 45)) w3 B V V3) (y3:w3.ownsRow (w.alloc (.cells #[.int .i64 4,.int .i64 af,.int .i64 aa,.int .i64 an,.string s,.string tt,.slice kp kn kc,.slice ca cn cc] 45)).heap.size 116 2 fv n xs) (y4:w3.grownBy w4 fv.ownBlock)=>step_told h hT ht hM y1 (s1.trans y2) y3 (by simp) y4);clear h h1 hT ht hM hb s1 q0;cases hk:decide (0<s.size∧s.size<=200) with
 | true =>
  rw[hk] at HI;clear hk;go_enter func14,ntmps14;go_wp2_with fail
  refine(HI.out _).mono ?_;rintro e w1⟨rfl,hw⟩;rw[hw];clear hw;go_wp2_with fail
  refine HC.out.mono ?_;rintro e w2⟨fv,V2,rfl,p1,p2,p3⟩;obtain⟨⟨d4,d5,d3⟩,m1⟩:=HD.out w2 V2 p2;obtain⟨a9,c9,rfl⟩:=own_formN p3;have HMS:=hide (cMapScan m1 s tt an (by omega));have HP:=hide (And.intro p1 (And.intro p2 p3));clear p1 p2 p3 m1 HC HD HI;go_wp2_with fail
  refine HMS.out.mono ?_;rintro e w3⟨fm,rfl,hb3,ho3⟩;obtain⟨h3,s3⟩:=HP.out.1.below hb3;have hr3:=row_keep HP.out.2.2 (w':=w3) λg hg=>hb3.block g (World.ownsRow.lt HP.out.2.2 g hg).2
  have HTO:=hide (ctold hr3 (row_el ho3) (HSL.out) (Nat.le_trans HP.out.2.1.bel.size hb3.size));have HZ:=hide (λ(w4:World) (hg:w3.grownBy w4 (Value.slice a9 (scanE an false s tt es).length c9).ownBlock)=>HST.out w3 w4 V2 _ _ _ h3 (HP.out.2.1.trans s3) hr3 hg);obtain⟨a8,c8,rfl⟩:=own_formN ho3;clear hb3 ho3 h3 s3 hr3 HMS HP HST;go_wp2_with fail
  refine HTO.out.mono ?_;rintro e w4⟨rfl,hg4⟩;have HY:=hide (HZ.out w4 hg4);clear hg4 HTO HZ;go_wp2_with fail
  refine(cnumL 0 _).mono ?_;rintro e w5⟨rfl,hw⟩;rw[hw];clear hw;go_wp2_with fail
  go_ret;exact⟨rfl,HY.out⟩
 | false =>
  rw[hk] at HI;clear hk;go_enter func14,ntmps14;go_wp2_with fail
  refine(HI.out _).mono ?_;rintro e w1⟨rfl,hw⟩;rw[hw];clear hw;go_wp2_with fail
  refine HC.out.mono ?_;rintro e w2⟨fv,V2,rfl,p1,p2,p3⟩;obtain⟨⟨d4,d5,d3⟩,m1⟩:=HD.out w2 V2 p2;obtain⟨a9,c9,rfl⟩:=own_formN p3;have HMS:=hide (cMapScan m1 s tt an (by omega));have HP:=hide (And.intro p1 (And.intro p2 p3));clear p1 p2 p3 m1 HC HD HI;go_wp2_with fail
  refine HMS.out.mono ?_;rintro e w3⟨fm,rfl,hb3,ho3⟩;obtain⟨h3,s3⟩:=HP.out.1.below hb3;have hr3:=row_keep HP.out.2.2 (w':=w3) λg hg=>hb3.block g (World.ownsRow.lt HP.out.2.2 g hg).2
  have HTO:=hide (ctold hr3 (row_el ho3) (HSL.out) (Nat.le_trans HP.out.2.1.bel.size hb3.size));have HZ:=hide (λ(w4:World) (hg:w3.grownBy w4 (Value.slice a9 (scanE an false s tt es).length c9).ownBlock)=>HST.out w3 w4 V2 _ _ _ h3 (HP.out.2.1.trans s3) hr3 hg);obtain⟨a8,c8,rfl⟩:=own_formN ho3;clear hb3 ho3 h3 s3 hr3 HMS HP HST;go_wp2_with fail
  refine HTO.out.mono ?_;rintro e w4⟨rfl,hg4⟩;have HY:=hide (HZ.out w4 hg4);clear hg4 HTO HZ;go_wp2_with fail
  refine(cnumL 0 _).mono ?_;rintro e w5⟨rfl,hw⟩;rw[hw];clear hw;go_wp2_with fail
  go_ret;exact⟨rfl,HY.out⟩
theorem cstep5 [Oth]{d:Nat}{t:T d}(h:TS w B D Gp V K pk m A fl pages)(hm:m<=40000)(hT:Tr A fl pages os t es)(ht:TB w tb Gp (numT d t))(hM:MpV w mb v es)(hes:es.length<=1000)(hsz:s.size<=140737488355328):Calls prog 14 #[(.pointer (some ⟨Gp,0,none⟩)),(.pointer (some ⟨tb,0,none⟩)),(.pointer (some ⟨mb,0,none⟩)),(.agg #[.int .i64 5,.int .i64 af,.int .i64 aa,.int .i64 an,.string s,.string tt,.slice kp kn kc,.slice ca cn cc])] w λe w'=>e=.returned (.bool true)∧stepP w B D Gp K pk m pages os (numT d t) tb mb d es.length w':=by
 have hb:Below w.heap.size w (w.alloc (.cells #[.int .i64 5,.int .i64 af,.int .i64 aa,.int .i64 an,.string s,.string tt,.slice kp kn kc,.slice ca cn cc] 45)):=((Below.refl _ _).alloc (Nat.le_refl _) _);obtain⟨h1,s1⟩:=h.below hb;have q0:(w.alloc (.cells #[.int .i64 5,.int .i64 af,.int .i64 aa,.int .i64 an,.string s,.string tt,.slice kp kn kc,.slice ca cn cc] 45)).heap[w.heap.size]?=some (.cells #[.int .i64 5,.int .i64 af,.int .i64 aa,.int .i64 an,.string s,.string tt,.slice kp kn kc,.slice ca cn cc] 45 (0,0)):=heap_alloc_new w _;have HI:=hide (λ(Y:World)=>cIsKey s Y (by omega));have HC:=hide (cBack h1 hm hT (h.stayTB s1 ht) s tt an (by omega));have HSL:=hide (show(scanE an true s tt es).length<=100000 from by
  unfold scanE;refine Nat.le_trans (addM_len _) ?_;rw[dir_len];have:=List.length_filter_le (λe:Ent=>inR s tt e.1) es;simp;omega)
 have HD:=hide (λ(Y:World) (V2:PV) (y:St2 (w.alloc (.cells #[.int .i64 5,.int .i64 af,.int .i64 aa,.int .i64 an,.string s,.string tt,.slice kp kn kc,.slice ca cn cc] 45)) Y B V V2)=>(show(Y.cell? ⟨w.heap.size,4,none⟩=some (.string s)∧Y.cell? ⟨w.heap.size,5,none⟩=some (.string tt)∧Y.cell? ⟨w.heap.size,3,none⟩=some (.int .i64 an))∧MpV Y mb v es from by
  have hq:=h1.stay y q0 (by decide);exact⟨⟨by simp[World.cell?,hq],by simp[World.cell?,hq],by simp[World.cell?,hq]⟩,h1.stayMp y (h.stayMp s1 hM)⟩))
 have HST:=hide (λ(w3 w4:World) (V3:PV) (fv:Value) (n:Nat) (xs:List Value) (y1:TS w3 B D Gp V3 K pk m A fl pages) (y2:St2 (w.alloc (.cells #[.int .i64 5,.int .i64 af,.int .i64 aa,.int .i64 an,.string s,.string tt,.slice kp kn kc,.slice ca cn cc] 45)) w3 B V V3) (y3:w3.ownsRow (w.alloc (.cells #[.int .i64 5,.int .i64 af,.int .i64 aa,.int .i64 an,.string s,.string tt,.slice kp kn kc,.slice ca cn cc] 45)).heap.size 116 2 fv n xs) (y4:w3.grownBy w4 fv.ownBlock)=>step_told h hT ht hM y1 (s1.trans y2) y3 (by simp) y4);clear h h1 hT ht hM hb s1 q0;cases hk:decide (0<s.size∧s.size<=200) with
 | true =>
  rw[hk] at HI;clear hk;go_enter func14,ntmps14;go_wp2_with fail
  refine(HI.out _).mono ?_;rintro e w1⟨rfl,hw⟩;rw[hw];clear hw;go_wp2_with fail
  refine HC.out.mono ?_;rintro e w2⟨fv,V2,rfl,p1,p2,p3⟩;obtain⟨⟨d4,d5,d3⟩,m1⟩:=HD.out w2 V2 p2;obtain⟨a9,c9,rfl⟩:=own_formN p3;have HMS:=hide (cMapBack m1 s tt an (by omega));have HP:=hide (And.intro p1 (And.intro p2 p3));clear p1 p2 p3 m1 HC HD HI;go_wp2_with fail
  refine HMS.out.mono ?_;rintro e w3⟨fm,rfl,hb3,ho3⟩;obtain⟨h3,s3⟩:=HP.out.1.below hb3;have hr3:=row_keep HP.out.2.2 (w':=w3) λg hg=>hb3.block g (World.ownsRow.lt HP.out.2.2 g hg).2
  have HTO:=hide (ctold hr3 (row_el ho3) (HSL.out) (Nat.le_trans HP.out.2.1.bel.size hb3.size));have HZ:=hide (λ(w4:World) (hg:w3.grownBy w4 (Value.slice a9 (scanE an true s tt es).length c9).ownBlock)=>HST.out w3 w4 V2 _ _ _ h3 (HP.out.2.1.trans s3) hr3 hg);obtain⟨a8,c8,rfl⟩:=own_formN ho3;clear hb3 ho3 h3 s3 hr3 HMS HP HST;go_wp2_with fail
  refine HTO.out.mono ?_;rintro e w4⟨rfl,hg4⟩;have HY:=hide (HZ.out w4 hg4);clear hg4 HTO HZ;go_wp2_with fail
  refine(cnumL 0 _).mono ?_;rintro e w5⟨rfl,hw⟩;rw[hw];clear hw;go_wp2_with fail
  go_ret;exact⟨rfl,HY.out⟩
 | false =>
  rw[hk] at HI;clear hk;go_enter func14,ntmps14;go_wp2_with fail
  refine(HI.out _).mono ?_;rintro e w1⟨rfl,hw⟩;rw[hw];clear hw;go_wp2_with fail
  refine HC.out.mono ?_;rintro e w2⟨fv,V2,rfl,p1,p2,p3⟩;obtain⟨⟨d4,d5,d3⟩,m1⟩:=HD.out w2 V2 p2;obtain⟨a9,c9,rfl⟩:=own_formN p3;have HMS:=hide (cMapBack m1 s tt an (by omega));have HP:=hide (And.intro p1 (And.intro p2 p3));clear p1 p2 p3 m1 HC HD HI;go_wp2_with fail
  refine HMS.out.mono ?_;rintro e w3⟨fm,rfl,hb3,ho3⟩;obtain⟨h3,s3⟩:=HP.out.1.below hb3;have hr3:=row_keep HP.out.2.2 (w':=w3) λg hg=>hb3.block g (World.ownsRow.lt HP.out.2.2 g hg).2
  have HTO:=hide (ctold hr3 (row_el ho3) (HSL.out) (Nat.le_trans HP.out.2.1.bel.size hb3.size));have HZ:=hide (λ(w4:World) (hg:w3.grownBy w4 (Value.slice a9 (scanE an true s tt es).length c9).ownBlock)=>HST.out w3 w4 V2 _ _ _ h3 (HP.out.2.1.trans s3) hr3 hg);obtain⟨a8,c8,rfl⟩:=own_formN ho3;clear hb3 ho3 h3 s3 hr3 HMS HP HST;go_wp2_with fail
  refine HTO.out.mono ?_;rintro e w4⟨rfl,hg4⟩;have HY:=hide (HZ.out w4 hg4);clear hg4 HTO HZ;go_wp2_with fail
  refine(cnumL 0 _).mono ?_;rintro e w5⟨rfl,hw⟩;rw[hw];clear hw;go_wp2_with fail
  go_ret;exact⟨rfl,HY.out⟩
section
variable {Ak:Nat->PgV}{flk:List Nat}
theorem cstep6 (h:TS w B D Gp V K pk m A fl pages)(hm:m<=40000)(hsz:s.size<=140737488355328):Calls prog 14 #[(.pointer (some ⟨Gp,0,none⟩)),(.pointer (some ⟨tb,0,none⟩)),(.pointer (some ⟨mb,0,none⟩)),(.agg #[.int .i64 6,.int .i64 af,.int .i64 aa,.int .i64 an,.string s,.string tt,.slice kp kn kc,.slice ca cn cc])] w λe w'=>e=.returned (.bool true)∧∃V' K',TS w' B D Gp V' K' pages (m+2) A fl pages∧KS K' pages A fl∧St2 w w' B V V':=by
 have hb:Below w.heap.size w (w.alloc (.cells #[.int .i64 6,.int .i64 af,.int .i64 aa,.int .i64 an,.string s,.string tt,.slice kp kn kc,.slice ca cn cc] 45)):=((Below.refl _ _).alloc (Nat.le_refl _) _);obtain⟨h1,s1⟩:=h.below hb;have HI:=hide (λ(Y:World)=>cIsKey s Y (by omega));have HC:=hide (ctcommit h1 hm);have HS:=hide s1;clear h h1 hb s1;cases hk:decide (0<s.size∧s.size<=200) with
 | true =>
  rw[hk] at HI;clear hk;go_enter func14,ntmps14;go_wp2_with fail
  refine(HI.out _).mono ?_;rintro e w1⟨rfl,hw⟩;rw[hw];clear hw;go_wp2_with fail
  refine HC.out.mono ?_;rintro e w2⟨rfl,V2,K2,p1,p2,p3⟩;have HP:=hide (And.intro p1 (And.intro p2 (HS.out.trans p3)));clear p1 p2 p3 HC HI;go_wp2_with fail
  refine(cnumL 0 _).mono ?_;rintro e w3⟨rfl,hw⟩;rw[hw];clear hw;go_wp2_with fail
  go_ret;exact⟨rfl,V2,K2,HP.out⟩
 | false =>
  rw[hk] at HI;clear hk;go_enter func14,ntmps14;go_wp2_with fail
  refine(HI.out _).mono ?_;rintro e w1⟨rfl,hw⟩;rw[hw];clear hw;go_wp2_with fail
  refine HC.out.mono ?_;rintro e w2⟨rfl,V2,K2,p1,p2,p3⟩;have HP:=hide (And.intro p1 (And.intro p2 (HS.out.trans p3)));clear p1 p2 p3 HC HI;go_wp2_with fail
  refine(cnumL 0 _).mono ?_;rintro e w3⟨rfl,hw⟩;rw[hw];clear hw;go_wp2_with fail
  go_ret;exact⟨rfl,V2,K2,HP.out⟩
theorem cstep8 (h:TS w B D Gp V K pk m A fl pages)(hm:m<=40000)(hK:KS K pk Ak flk)(hsz:s.size<=140737488355328):Calls prog 14 #[(.pointer (some ⟨Gp,0,none⟩)),(.pointer (some ⟨tb,0,none⟩)),(.pointer (some ⟨mb,0,none⟩)),(.agg #[.int .i64 8,.int .i64 af,.int .i64 aa,.int .i64 an,.string s,.string tt,.slice kp kn kc,.slice ca cn cc])] w λe w'=>e=.returned (.bool true)∧∃V',TS w' B D Gp V' K pk m Ak flk pk∧St2 w w' B V V':=by
 have hb:Below w.heap.size w (w.alloc (.cells #[.int .i64 8,.int .i64 af,.int .i64 aa,.int .i64 an,.string s,.string tt,.slice kp kn kc,.slice ca cn cc] 45)):=((Below.refl _ _).alloc (Nat.le_refl _) _);obtain⟨h1,s1⟩:=h.below hb;have HI:=hide (λ(Y:World)=>cIsKey s Y (by omega));have HC:=hide (ctrollback h1 (by omega) hK);have HS:=hide s1;clear h h1 hb s1;cases hk:decide (0<s.size∧s.size<=200) with
 | true =>
  rw[hk] at HI;clear hk;go_enter func14,ntmps14;go_wp2_with fail
  refine(HI.out _).mono ?_;rintro e w1⟨rfl,hw⟩;rw[hw];clear hw;go_wp2_with fail
  refine HC.out.mono ?_;rintro e w2⟨rfl,V2,p1,p3⟩;have HP:=hide (And.intro p1 (HS.out.trans p3));clear p1 p3 HC HI;go_wp2_with fail
  refine(cnumL 0 _).mono ?_;rintro e w3⟨rfl,hw⟩;rw[hw];clear hw;go_wp2_with fail
  go_ret;exact⟨rfl,V2,HP.out⟩
 | false =>
  rw[hk] at HI;clear hk;go_enter func14,ntmps14;go_wp2_with fail
  refine(HI.out _).mono ?_;rintro e w1⟨rfl,hw⟩;rw[hw];clear hw;go_wp2_with fail
  refine HC.out.mono ?_;rintro e w2⟨rfl,V2,p1,p3⟩;have HP:=hide (And.intro p1 (HS.out.trans p3));clear p1 p3 HC HI;go_wp2_with fail
  refine(cnumL 0 _).mono ?_;rintro e w3⟨rfl,hw⟩;rw[hw];clear hw;go_wp2_with fail
  go_ret;exact⟨rfl,V2,HP.out⟩
theorem cstepN (ak:Int)(h1:¬ak=1)(h2:¬ak=2)(h3:¬ak=3)(h4:¬ak=4)(h5:¬ak=5)(h6:¬ak=6)(h8:¬ak=8)(hsz:s.size<=140737488355328):Calls prog 14 #[(.pointer (some ⟨Gp,0,none⟩)),(.pointer (some ⟨tb,0,none⟩)),(.pointer (some ⟨mb,0,none⟩)),(.agg #[.int .i64 ak,.int .i64 af,.int .i64 aa,.int .i64 an,.string s,.string tt,.slice kp kn kc,.slice ca cn cc])] w λe w'=>e=.returned (.bool true)∧Below w.heap.size w w':=by
 have hb:Below w.heap.size w (w.alloc (.cells #[.int .i64 ak,.int .i64 af,.int .i64 aa,.int .i64 an,.string s,.string tt,.slice kp kn kc,.slice ca cn cc] 45)):=((Below.refl _ _).alloc (Nat.le_refl _) _);have HI:=hide (λ(Y:World)=>cIsKey s Y (by omega));have HB:=hide hb;clear hb;cases hk:decide (0<s.size∧s.size<=200) with
 | true =>
  rw[hk] at HI;clear hk;go_enter func14,ntmps14;go_wp2_with fail
  refine(HI.out _).mono ?_;rintro e w1⟨rfl,hw⟩;rw[hw];clear hw;go_wp2_with fail
  go_ret;exact⟨rfl,HB.out⟩
 | false =>
  rw[hk] at HI;clear hk;go_enter func14,ntmps14;go_wp2_with fail
  refine(HI.out _).mono ?_;rintro e w1⟨rfl,hw⟩;rw[hw];clear hw;go_wp2_with fail
  go_ret;exact⟨rfl,HB.out⟩
end
end Go.Proofs.YtiaibgfhigdgdaaGreat
