/- a part -/
import Derived.Test.YtfjkockcgddgbaaGreatP11
import Derived.Test.YtfjkockcgddgbaaGreatShelf
import Derived.Lib.OwnBridge
import Derived.Sort.OwnSortedInts
import Derived.Test.YtfjkockcgddgbaaGreatP9
set_option maxRecDepth 100000
set_option maxHeartbeats 8000000
namespace Go.Proofs.YtfjkockcgddgbaaGreat
open Go.RowKit Go.Lib Go.Maps
variable {w w' w'' X Y w1 w2:World}{B D Gp pk m i Lk c kd lk:Nat}{n x:Int}{v:Value}{b:Bk}{P:PS}{L:LS}{S:DS}{r q:Option Nat}{s:ByteArray}{l:List Int}{C K:Pgs}{o:Obj}{t:TypeId}
attribute [local go_sem ↓] Go.wp_at_zero Go.wp_at_succ
theorem hide {p:Prop}(h:p):Hid p:=h
structure PV where
 b:Bk
 P:PS
 L:LS
 S:DS
 N:Pgs
structure PO (w:World) (B D Gp:Nat) (V:PV) (C K:Pgs) (pk m:Nat):Prop where
 pp:PP w B D Gp V.b V.P V.L V.S
 pi:PI V.P V.L V.S C K V.N pk m
 lo:B≤w.heap.size
structure St2 (w w':World) (B:Nat) (V V':PV):Prop where
 bel:BelP V.b.M V'.b.M B w w'
 nf:NoF V.S→NoF V'.S
theorem St2.refl (w:World)(B:Nat)(V:PV):St2 w w B V V:=⟨BelP.refl _ _ _,id⟩
theorem St2.trans {V V' V'':PV}(h:St2 w w' B V V')(k:St2 w' w'' B V' V''):St2 w w'' B V V'':=⟨h.bel.trans k.bel,fun n=>k.nf (h.nf n)⟩
theorem owns_sliceI {base n:Nat}{xs:List Value}(h:w.ownsRow base 3 1 v n xs):∃a cap,v=.slice a n cap:=by
 rcases h.2 with⟨e,h0⟩|⟨g,cap,cur,e,_⟩
 ·exact⟨none,0,by rw[e,h0]⟩
 ·exact⟨_,cap,e⟩
theorem PP.vo (h:PP X B D Gp b P L S):∃a cap,b.vo=.slice a P.order.length cap:=owns_sliceI h.ord
theorem newsI (w:World)(n:Int):∀j u,([Value.int .i64 n]:List Value)[j]?=some u→(w.alloc (.cells #[.int .i64 n] 3)).cell? ((⟨w.heap.size,0,none⟩:Addr).add j)=some u:=by
 intro j u hj;rw[add_none]
 match j,hj with
 | 0,h=>cases h;go_simp
 | j+1,h=>simp at h
theorem grown_alloc (h:X.grownBy Y r)(o:Obj):X.grownBy (Y.alloc o) r:=But.trans h (World.grownBy_alloc Y o r)
theorem PP.more (h:PP X B D Gp b P L S)(hB:B≤X.heap.size)(hn:i64 n)(hl:P.order.length≤63)(hk:∀x,(P.fs x).isSome=true→x∈P.order)(hf:P.fs n=none):∃Y,(Instr.mapUpdate 126 (.map (some b.bF)) (.int .i64 n) (.pointer (some ⟨X.heap.size,0,none⟩))).run Tryz.prog (X.alloc (.cells #[.string s,.int .i64 0,.bool false] 136))=.ok () Y∧PP Y B D Gp b { P with fs:=updR P.fs n ⟨X.heap.size,s,false⟩} L S∧BelP b.M b.M B X Y:=by
 have hb:Below X.heap.size X (X.alloc (.cells #[.string s,.int .i64 0,.bool false] 136)):=(Below.refl _ _).alloc (Nat.le_refl _) _;have h1:=h.below hb;have hm:=h1.fmap.small P.order (fun x hx=>hk x (by cases hq:P.fs x with | none=>rw[hq] at hx;cases hx | some f=>rfl));obtain⟨Y,hrun,hM,hg⟩:=hm.put (by omega) (x:=n) (v:=X.heap.size) hn;have hnew:(X.alloc (.cells #[.string s,.int .i64 0,.bool false] 136)).heap[X.heap.size]?=some (.cells (frC ⟨X.heap.size,s,false⟩) 136 (0,0)):=heap_alloc_new X _;refine⟨Y,hrun,h1.fmaps hg (k:=P.order.length+1) (hM.congr fun x _=>?_) (by omega) (fun m f hf'=>?_) (fun m m' f f' hm1 hm2 he=>?_),(below_belP hb hB _).trans (h1.fmaps_bel hg (Nat.le_trans hB hb.size))⟩
 ·unfold updP updR;by_cases e:x=n
  ·rw[if_pos e,if_pos e];rfl
  ·rw[if_neg e,if_neg e]
 ·by_cases e:m=n
  ·subst e;rw[updR_at] at hf';injection hf' with hf';subst hf';exact⟨hnew,hB⟩
  ·rw[updR_ne _ _ e] at hf';exact h1.frs m f hf'
 ·by_cases e:m=n
  ·by_cases e':m'=n
   ·rw[e,e']
   ·subst e;rw[updR_at] at hm1;injection hm1 with hm1;subst hm1
    rw[updR_ne _ _ e'] at hm2;have:=(h.fcells hm2).2.2.2.2.2;have he:X.heap.size=f'.blk:=he;omega
  ·by_cases e':m'=n
   ·subst e';rw[updR_at] at hm2;injection hm2 with hm2;subst hm2
    rw[updR_ne _ _ e] at hm1;have:=(h.fcells hm1).2.2.2.2.2;have he:f.blk=X.heap.size:=he;omega
   ·rw[updR_ne _ _ e] at hm1;rw[updR_ne _ _ e'] at hm2;exact h1.inj m m' f f' hm1 hm2 he
theorem PP.own5 (h:PP X B D Gp b P L S)(hg:X.grownBy Y r)(hr:∀g,r=some g→b.vo.ownBlock=some g):Y.cell? ⟨Gp,5,none⟩=some b.vo∧Y.frozen? ⟨Gp,5,none⟩=false∧Gp<Y.heap.size:=by
 have hb:Y.heap[Gp]?=some (.cells (poolC b P) 131 (0,0)):=by
  refine(hg.block Gp h.lt (fun e=>?_)).trans h.blk;have:=hr _ e.symm;exact ne_CC (h.kinds.2.2.2.2.2.2.2 _ this) h.kinds.1 (by decide) rfl
 exact⟨by simp[World.cell?,hb,poolC],by simp[World.frozen?,hb],(Array.getElem?_eq_some_iff.1 hb).1⟩
theorem PP.reord (h:PP X B D Gp b P L S)(hB:B≤X.heap.size)(hg:X.grownBy Y b.vo.ownBlock)(ho:Y.ownsRow B 3 1 v l.length (l.map (Value.int .i64)))(hown:v.ownBlock=b.vo.ownBlock∨∃k,v.ownBlock=some k∧X.heap.size≤k):PP (Y.setCell ⟨Gp,5,none⟩ v) B D Gp { b with vo:=v } { P with order:=l } L S∧BelP b.M b.M B X (Y.setCell ⟨Gp,5,none⟩ v)∧Y.cell? ⟨Gp,5,none⟩=some b.vo∧Y.frozen? ⟨Gp,5,none⟩=false∧Gp<Y.heap.size:=
 ⟨h.order hg (fun _ hg=>hg) ho (fun g hg'=>by
   rcases hown with e|⟨k,e,hk⟩
   ·left;rw[←e];exact hg'
   ·right;rw[e] at hg';injection hg' with hg';omega),h.order_bel hg (fun _ hg=>hg) hB,h.own5 hg (fun _ hg=>hg)⟩
theorem chold (n:Int)(s:ByteArray)(h:PP X B D Gp b P L S)(hB:B≤X.heap.size)(hn:i64 n)(hl:P.order.length≤63)(hk:∀x,(P.fs x).isSome=true→x∈P.order)(hf:P.fs n=none):Calls Tryz.prog 111 #[(.pointer (some ⟨Gp,0,none⟩)),.int .i64 n,.string s] X fun e w'=>∃v,e=.returned (.pointer (some ⟨X.heap.size,0,none⟩))∧PP w' B D Gp { b with vo:=v } { P with fs:=updR P.fs n ⟨X.heap.size,s,false⟩,order:=P.order++[n]} L S∧BelP b.M b.M B X w':=by
 obtain⟨Y,hrun,hY,hbY⟩:=h.more (s:=s) hB hn hl hk hf;obtain⟨c0,c1,c2,c3,c4,c5,c6,c7,c8,c9⟩:=(h.below ((Below.refl _ _).alloc (Nat.le_refl _) (.cells #[.string s,.int .i64 0,.bool false] 136))).cells;obtain⟨d0,d1,d2,d3,d4,d5,d6,d7,d8,d9⟩:=hY.cells;obtain⟨oa,oc,hvo⟩:=h.vo;rw[hvo] at d5;have HY:Hid (PP Y B D Gp b { P with fs:=updR P.fs n ⟨X.heap.size,s,false⟩} L S):=hY;have HBY:Hid (BelP b.M b.M B X Y):=hbY;have HB0:Hid (B≤X.heap.size):=hB;have HV:Hid (b.vo=.slice oa P.order.length oc):=hvo;have hi0:(Tryz.prog.info? 3).map (fun i=>(i.zero,i.size,i.bytes))=some (some (.int .i64 0),1,8):=by kernel_rfl
 obtain⟨i0,hi,hz⟩:=Option.map_eq_some_iff.1 hi0;simp only[Prod.mk.injEq] at hz;obtain⟨hz0,hz1,hz2⟩:=hz;have HL:Hid (P.order.length≤63):=hl;clear h hY hbY hB c0 c1 c2 c3 c5 c6 c7 c8 c9 d0 d1 d2 d3 d6 d7 d8 d9 hk hf hvo hl;go_enter Tryz.func111,Tryz.ntmps111;go_wp2_with (first
  | (at_builtin;refine wpList_append_own_at _ rfl _ _ 36 rfl B 3 i0 (.int .i64 0) 1 8 Tryz.underlying36 hi hz0 hz1 hz2 rfl (by decide) (.slice oa P.order.length oc) P.order.length (P.order.map (Value.int .i64)) rfl (by rw[←HV.out];exact World.ownsRow.alloc HY.out.ord _) ⟨Y.heap.size,0,none⟩ 1 1 [.int .i64 n] rfl rfl (newsI _ _) (fun x hx=>by simp at hx;subst hx;rfl) (by have:=HL.out;unfold maxLen;omega) (by have:=HL.out;omega) (by simp;exact Nat.le_trans HB0.out (Nat.le_trans HBY.out.size (by omega))) ?_;intro v1 w2 ho1 hg1 hnil1 hown1;obtain⟨a1,cap1,rfl⟩:=owns_sliceI ho1;have HH:=HY.out.reord (l:=P.order++[n]) (Nat.le_trans HB0.out HBY.out.size) (by rw[HV.out];exact But.trans (World.grownBy_alloc Y _ _) hg1) (by rw[List.length_append,List.map_append];exact ho1) (by rw[HV.out];exact hown1.imp id (fun e=>⟨_,e,by simp⟩));have HZ:Hid (PP (w2.setCell ⟨Gp,5,none⟩ (.slice a1 (P.order.length+1) cap1)) B D Gp { b with vo:=(.slice a1 (P.order.length+1) cap1)} { P with fs:=updR P.fs n ⟨X.heap.size,s,false⟩,order:=P.order++[n]} L S):=HH.1;have HBZ:Hid (BelP b.M b.M B X (w2.setCell ⟨Gp,5,none⟩ (.slice a1 (P.order.length+1) cap1))):=HBY.out.trans HH.2.1;have e5:=HH.2.2.1;rw[HV.out] at e5;have f5:=HH.2.2.2.1;have l5:=HH.2.2.2.2;clear HH ho1 hg1 hnil1 hown1)
  | go_in)
 go_ret;exact⟨_,rfl,HZ.out,HBZ.out⟩
theorem PP.changed {f:FrP}(h:PP X B D Gp b P L S)(hf:P.fs n=some f)(hB:B≤X.heap.size)(hn:i64 n)(hc:∀x,P.chg x=true→0≤x∧x<59999):PP ((X.setCell ⟨f.blk,0,none⟩ (.string s)).setCell ⟨f.blk,2,none⟩ (.bool true)) B D Gp b { P with fs:=updR P.fs n ⟨f.blk,s,true⟩} L S∧BelP b.M b.M B X ((X.setCell ⟨f.blk,0,none⟩ (.string s)).setCell ⟨f.blk,2,none⟩ (.bool true))∧∃Y,(Instr.mapUpdate 127 (.map (some b.bC)) (.int .i64 n) (.agg #[])).run Tryz.prog ((X.setCell ⟨f.blk,0,none⟩ (.string s)).setCell ⟨f.blk,2,none⟩ (.bool true))=.ok () Y∧PP Y B D Gp b (chP P n f.blk s) L S∧BelP b.M b.M B X Y:=by
 have hg:X.grownBy ((X.setCell ⟨f.blk,0,none⟩ (.string s)).setCell ⟨f.blk,2,none⟩ (.bool true)) (some f.blk):=((But.refl X (some f.blk)).set 0 (.string s)).set 2 (.bool true);have h1:=h.frame (f':=⟨f.blk,s,true⟩) hf rfl hg (by rw[set_blk (set_blk (h.frs n f hf).1)];rfl);have b1:=h.frame_bel hf hg hB;obtain⟨Y,hrun,hM,hgY⟩:=(h1.chm.small 59999 hc).put (by omega) (x:=n) hn;exact⟨h1,b1,Y,hrun,h1.chms hgY hM (by omega),b1.trans (h1.chms_bel hgY (Nat.le_trans hB hg.size))⟩
theorem cchange (n:Int)(f:FrP)(s:ByteArray)(h:PP X B D Gp b P L S)(hf:P.fs n=some f)(hB:B≤X.heap.size)(hn:i64 n)(hc:∀x,P.chg x=true→0≤x∧x<59999):Calls Tryz.prog 110 #[(.pointer (some ⟨Gp,0,none⟩)),.int .i64 n,(.pointer (some ⟨f.blk,0,none⟩)),.string s] X fun e w'=>e=.returned (.tuple #[])∧PP w' B D Gp b (chP P n f.blk s) L S∧BelP b.M b.M B X w':=by
 obtain⟨h1,b1,Y,hrun,hY,hbY⟩:=h.changed (s:=s) hf hB hn hc;obtain⟨f0,f1,f2,z0,z2,hlt⟩:=h.fcells hf;obtain⟨d0,d1,d2,d3,d4,d5,d6,d7,d8,d9⟩:=h1.cells;have HY:Hid (PP Y B D Gp b (chP P n f.blk s) L S):=hY;have HBY:Hid (BelP b.M b.M B X Y):=hbY;generalize f.blk=g at *;clear h h1 b1 hY hbY hB d0 d1 d2 d3 d4 d5 d7 d8 d9 hc f1;go_enter Tryz.func110,Tryz.ntmps110;go_wp2;go_end0;exact⟨rfl,HY.out,HBY.out⟩
theorem ctoLog {V:PV}(h:PO w B D Gp V C K pk m)(hm:m≤50000)(n:Int)(f:FrP)(hf:V.P.fs n=some f)(hd:f.dirty=true):Calls Tryz.prog 114 #[(.pointer (some ⟨Gp,0,none⟩)),.int .i64 n] w fun e w'=>∃V',PO w' B D Gp V' C K pk m∧St2 w w' B V V'∧IntS w w'∧V'.b=V.b∧((e=.returned (.int .i64 0)∧V'.P={ V.P with fs:=updR V.P.fs n { f with dirty:=false }})∨(e=.returned (.int .i64 2)∧V'.S.down=true∧V'.P=V.P)):=by
 obtain⟨⟨G,bp,bf,bF,bC,vo⟩,P,L,S,N⟩:=V;obtain⟨pp,pi,lo⟩:=h
 dsimp only at pp pi hf
 obtain⟨g1,g2,g3,g4,g5⟩:=pi.held hf;have hpg:=pi.pg;obtain⟨n,rfl⟩:∃k:Nat,n=k:=⟨n.toNat,by omega⟩;have hn:i64 (n:Int):=i64_in (by omega) (by omega);have hl:=pp.fmap.look1 hn;simp only[hf,Option.map_some,ptrO] at hl;obtain⟨c0,c1,c2,c3,c4,c5,c6,c7,c8,c9⟩:=pp.cells;obtain⟨f0,f1,f2,z0,z2,hlt⟩:=pp.fcells hf;obtain⟨j,k,i1,i2,i3,i4⟩:=pi.inv;have hfr:=i1.fr;have HA:Hid (∀W,Below w.heap.size w W→Calls Tryz.prog 13 #[(.pointer (some ⟨G,0,none⟩)),.int .i64 (n:Int),.string f.text] W fun e w'=>e=.returned (.int .i64 (apL L S n f.text).1)∧PL w' B D G bp bf (60000+1) (apL L S n f.text).2.1 (apL L S n f.text).2.2∧BelL G bp bf B W w'):=fun W hW=>cappend n f.text W B D G bp bf 60000 k L S (pp.log.below hW) (Nat.le_trans lo hW.size) (by decide) i3 (by omega) (by omega)
 have HP:Hid (PP w B D Gp ⟨G,bp,bf,bF,bC,vo⟩ P L S):=pp;have HI:Hid (PI P L S C K N pk m):=pi;have HLO:Hid (B≤w.heap.size):=lo;have hok:=apL_ok (L:=L) i3 n f.text;have hnf:NoF S→NoF (apL L S n f.text).2.2:=fun h=>apL_nf h _ _
 rcases ap_out i1 (by omega) (by omega:n<60000) g5 with e1 | ⟨u1,S1,e1,v1,I1⟩
 ·rw[e1] at HA hok hnf;have HNF:Hid (NoF S→NoF { S with down:=true }):=hnf;clear pp pi hok hnf e1 i1 i2 i3 i4 c1 c2 c3 c5 c6 c7 c8 c9 f1 f2 z0 z2 hfr;go_enter Tryz.func114,Tryz.ntmps114;go_wp2_with fail
  go_region_with (go_at_call 13;refine(HA.out _ ((Below.refl _ _).drew)).mono ?_;rintro e w5⟨rfl,hp5,hb5⟩)
  all_goals
   have HF5:Hid (BelL G bp bf B w w5):=(below_log ((Below.refl _ _).drew) HLO.out G bp bf).trans hb5;have HP5:Hid (PP w5 B D Gp ⟨G,bp,bf,bF,bC,vo⟩ P L { S with down:=true }):=HP.out.logs HF5.out (by
    obtain⟨j,k,i1,-⟩:=HI.out.inv;exact hp5.small i1.pos i1.posF)
   clear hp5 hb5;go_wp2;go_ret;exact⟨⟨⟨G,bp,bf,bF,bC,vo⟩,P,L,{ S with down:=true },N⟩,⟨HP5.out,HI.out.down,Nat.le_trans HLO.out HF5.out.size⟩,⟨HP.out.belL HF5.out,HNF.out⟩,fun g cs hg=>HP.out.logs_stay HF5.out hg (by decide) (by decide),rfl,.inr ⟨rfl,rfl,rfl⟩⟩
 ·rw[e1] at HA hok hnf;have HNF:Hid (NoF S→NoF S1):=hnf;have HI1:Hid (PI { P with fs:=updR P.fs n { f with dirty:=false }} { L with fh:=updM L.fh n L.fr,fr:=L.fr+1 } S1 C K (wth N n f.text) pk m):=by
   refine pi.logged hf hd rfl (fun j' hj hjm=>?_) (fun k' hk'=>?_)
   ·rcases ap_out hj (by omega) (by omega:n<60000) g5 with e2 | ⟨u2,S2,e2,v2,I2⟩
    ·rw[e1] at e2;cases e2
    ·rw[e1] at e2;injection e2 with _ e2;injection e2 with _ e2;subst e2;exact I2
   ·have:=apL_ok (L:=L) hk' n f.text;rw[e1] at this;exact this
  have HSM:Hid ((∀x,((updM L.fh n L.fr) x).isSome=true→0≤x∧x<60000)∧∀x,(L.pl x).isSome=true→0≤x∧x<60000):=(⟨I1.posF,I1.pos⟩:(∀x,((updM L.fh n L.fr) x).isSome=true→0≤x∧x<((60000:Nat):Int))∧∀x,(L.pl x).isSome=true→0≤x∧x<((60000:Nat):Int));clear pp pi hok hnf e1 i1 i2 i3 i4 c1 c2 c3 c5 c6 c7 c8 c9 f1 f2 z0 z2 hfr I1;go_enter Tryz.func114,Tryz.ntmps114;go_wp2_with fail
  go_region_with (go_at_call 13;refine(HA.out _ ((Below.refl _ _).drew)).mono ?_;rintro e w5⟨rfl,hp5,hb5⟩)
  all_goals
   have HF5:Hid (BelL G bp bf B w w5):=(below_log ((Below.refl _ _).drew) HLO.out G bp bf).trans hb5;have HP5:Hid (PP w5 B D Gp ⟨G,bp,bf,bF,bC,vo⟩ P { L with fh:=updM L.fh n L.fr,fr:=L.fr+1 } S1):=HP.out.logs HF5.out (hp5.small HSM.out.2 HSM.out.1);have hg:w5.grownBy (w5.setCell ⟨f.blk,2,none⟩ (.bool false)) (some f.blk):=set_grown _ _ _ _;have HP6:Hid (PP (w5.setCell ⟨f.blk,2,none⟩ (.bool false)) B D Gp ⟨G,bp,bf,bF,bC,vo⟩ { P with fs:=updR P.fs n { f with dirty:=false }} { L with fh:=updM L.fh n L.fr,fr:=L.fr+1 } S1):=HP5.out.frame hf rfl hg (by rw[set_blk (HP5.out.frs n f hf).1];rfl);have HB6:Hid (BelP (Bk.M ⟨G,bp,bf,bF,bC,vo⟩) (Bk.M ⟨G,bp,bf,bF,bC,vo⟩) B w (w5.setCell ⟨f.blk,2,none⟩ (.bool false))):=(HP.out.belL HF5.out).trans (HP5.out.frame_bel hf hg (Nat.le_trans HLO.out HF5.out.size));obtain⟨q0,q1,q2,y0,y2,hlt5⟩:=HP5.out.fcells hf;clear hp5 hb5 hg q0 q1 y0;go_wp2;go_ret;exact⟨⟨⟨G,bp,bf,bF,bC,vo⟩,{ P with fs:=updR P.fs n { f with dirty:=false }},{ L with fh:=updM L.fh n L.fr,fr:=L.fr+1 },S1,wth N n f.text⟩,⟨HP6.out,HI1.out,Nat.le_trans HLO.out HB6.out.size⟩,⟨HB6.out,HNF.out⟩,fun g cs hg=>by
    have e5:=HP.out.logs_stay HF5.out hg (by decide) (by decide);refine((set_grown w5 f.blk 2 (.bool false)).block g (Array.getElem?_eq_some_iff.1 (e5.trans hg)).1 (fun e=>?_)).trans e5;injection e with e;exact ne_CC ⟨_,(HP5.out.frs n f hf).1⟩ ⟨_,e5.trans hg⟩ (by decide) e,rfl,.inl ⟨rfl,rfl⟩⟩
open Go.Sort
theorem PP.row (h:PP X B D Gp b P L S)(hne:¬P.order=[]):∃g cap,b.vo=.slice (some ⟨g,0,none⟩) P.order.length cap∧B≤g∧g<X.heap.size∧P.order.length≤cap∧cap≤maxLen∧Holds (Value.int .i64) X g 0 P.order.toArray:=by
 have hv:b.vo≠.slice none 0 0:=fun e=>by
  rcases h.ord.2 with⟨_,h0⟩|⟨g,cap,cur,e',_⟩
  ·exact hne (List.length_eq_zero_iff.1 h0)
  ·rw[e] at e';cases e'
 obtain⟨g,cap,e,h1,h2,h3,h4,h5,h6⟩:=holds_of_ownsRow h.ord hv;exact⟨g,cap,e,h1,h2,h3,h4,h6⟩
theorem holds_cell {g:Nat}(h:Holds (Value.int .i64) w g 0 l.toArray)(j:Nat)(hj:j<l.length):w.cell? ⟨g,j,none⟩=some (.int .i64 (l.getD j 0)):=by
 have:=(h j (by simpa using hj)).1;rw[Nat.zero_add] at this;rw[this];simp[hj]
theorem erase_take (hi:i<l.length):(l.take i++l.drop (i+1)++List.replicate (i+1-i) 0).take (l.length-1)=l.eraseIdx i:=by
 rw[List.eraseIdx_eq_take_drop_succ];rw[List.take_append_of_le_length (by simp;omega),List.take_of_length_le (by simp;omega)]
theorem cdelete (i:Nat)(h:PP X B D Gp b P L S)(hi:i<P.order.length)(hl:P.order.length≤64):Calls Tryz.prog 128 #[b.vo,.int .i64 i,.int .i64 ((i:Int)+1)] X fun e w'=>∃a c,e=.returned (.slice a (P.order.length-1) c)∧w'.ownsRow B 3 1 (.slice a (P.order.length-1) c) (P.order.eraseIdx i).length ((P.order.eraseIdx i).map (Value.int .i64))∧X.grownBy w' b.vo.ownBlock∧(Value.slice a (P.order.length-1) c).ownBlock=b.vo.ownBlock:=by
 obtain⟨g,cap,e,h1,h2,h3,h4,h5⟩:=h.row (fun k=>by rw[k] at hi;simp at hi);have ho:=h.ord;rw[e] at ho ⊢;have:=Tryz.slices_Delete_int g 0 cap i (i+1) P.order X h5 h3 (by unfold maxLen at h4;omega) (by omega) (by omega);rw[show((i+1:Nat):Int)=(i:Int)+1 by omega,show P.order.length-(i+1-i)=P.order.length-1 by omega] at this;refine this.mono ?_;rintro r w'⟨rfl,q,rfl⟩;have hz:(P.order.take i++P.order.drop (i+1)++List.replicate (i+1-i) 0).length=P.order.length:=by simp;omega
 have hrow:=ownsRow_putRow (q:=q) (k:=P.order.length-1) ho hz (by omega);rw[erase_take hi] at hrow;have hle:(P.order.eraseIdx i).length=P.order.length-1:=by rw[List.length_eraseIdx,if_pos hi]
 refine⟨some ⟨g,0,none⟩,cap,rfl,by rw[hle];exact hrow,?_,rfl⟩;have:=grownBy_sortedI (w:=X) (g:=g) (n:=q) (os:=#[]) (P.order.take i++P.order.drop (i+1)++List.replicate (i+1-i) 0).toArray;rw[grow_empty] at this;exact this
theorem idx_of (hn:l.Nodup)(hx:x∈l):∃i:Nat,i<l.length∧idxOf (l.take l.length) x=i∧l[i]?=some x:=by
 obtain⟨i,hi,rfl⟩:=List.getElem_of_mem hx;refine⟨i,hi,idxOf_hit l l.length i _ hi (Nat.le_refl _) (getD_at hi) (fun j hj=>?_),List.getElem?_eq_getElem hi⟩;rw[getD_at (show j<l.length by omega)];intro e;have:=(List.getElem_inj hn).1 e;omega
theorem cwithout (n:Int)(h:PP X B D Gp b P L S)(hn:n∈P.order)(hd:P.order.Nodup)(hl:P.order.length≤64):Calls Tryz.prog 129 #[(.pointer (some ⟨Gp,0,none⟩)),.int .i64 n] X fun e w'=>∃i a c,P.order[i]?=some n∧i<P.order.length∧e=.returned (.slice a (P.order.length-1) c)∧w'.ownsRow B 3 1 (.slice a (P.order.length-1) c) (P.order.eraseIdx i).length ((P.order.eraseIdx i).map (Value.int .i64))∧X.grownBy w' b.vo.ownBlock∧(Value.slice a (P.order.length-1) c).ownBlock=b.vo.ownBlock:=by
 obtain⟨i,hi,hix,hat⟩:=idx_of hd hn;obtain⟨c0,c1,c2,c3,c4,c5,c6,c7,c8,c9⟩:=h.cells;have HD:=hide (cdelete i h hi hl);obtain⟨g,cap,e,h1,h2,h3,h4,h5⟩:=h.row (fun k=>by rw[k] at hi;simp at hi);rw[e] at c5 HD ⊢;have hI:=Tryz.slices_Index_int g 0 P.order.length cap P.order n X (Nat.le_refl _) (by omega) (fun j hj=>by rw[Nat.zero_add];exact holds_cell h5 j hj);rw[hix] at hI;have HI:=hide (hI);have hi63:(i:Int)<1000:=by omega
 clear h c0 c1 c2 c3 c4 c6 c7 c8 c9 h5 hI hix hd hn;go_enter Tryz.func129,Tryz.ntmps129;go_wp2_with fail
 refine HI.out.mono ?_;rintro e w1⟨rfl,hw⟩;rw[hw];clear hw;go_wp2_with fail
 refine HD.out.mono ?_;rintro r w2⟨a,c,rfl,q1,q2,q3⟩;have HQ:=hide (q1);have HQ2:=hide (q2);have HQ3:=hide (q3);clear q1 q2 q3;go_wp2;go_ret;exact⟨i,a,c,hat,hi,rfl,HQ.out,HQ2.out,HQ3.out⟩
theorem PP.drop (h:PP X B D Gp b P L S)(hg:X.grownBy Y (some b.bF))(hM:MF Y b.bF 65 (delP (fun n=>(P.fs n).map (·.blk)) x)):PP Y B D Gp b { P with fs:=delR P.fs x } L S:=by
 refine h.fmaps hg (hM.congr fun n _=>?_) (Nat.le_refl _) (fun n f hf=>?_) (fun n n' f f' hf hf'=>?_)
 ·unfold delR delP;by_cases e:n=x
  ·rw[if_pos e,if_pos e];rfl
  ·rw[if_neg e,if_neg e]
 ·by_cases e:n=x
  ·subst e;rw[delR_at] at hf;cases hf
  ·rw[delR_ne _ e] at hf;exact h.frs n f hf
 ·by_cases e:n=x
  ·subst e;rw[delR_at] at hf;cases hf
  ·by_cases e':n'=x
   ·subst e';rw[delR_at] at hf';cases hf'
   ·rw[delR_ne _ e] at hf;rw[delR_ne _ e'] at hf';exact h.inj n n' f f' hf hf'
theorem cmakeRoom {V:PV}(h:PO w B D Gp V C K pk m)(hm:m≤50000):Calls Tryz.prog 109 #[(.pointer (some ⟨Gp,0,none⟩))] w fun e w'=>∃V',PO w' B D Gp V' C K pk m∧St2 w w' B V V'∧V'.P.pages=V.P.pages∧V'.P.free=V.P.free∧V'.P.most=V.P.most∧(∀n f,V'.P.fs n=some f→V.P.fs n=some f)∧((e=.returned (.int .i64 0)∧V'.P.order.length<V'.P.most)∨(e=.returned (.int .i64 2)∧V'.S.down=true)):=by
 obtain⟨oa,oc,hvo⟩:=h.pp.vo;obtain⟨c0,c1,c2,c3,c4,c5,c6,c7,c8,c9⟩:=h.pp.cells;have hmo:=h.pi.most;rw[hvo] at c5;by_cases hl:V.P.order.length<V.P.most
 ·have hl':(V.P.order.length:Int)<(V.P.most:Int):=by omega
  have HP:Hid (PO w B D Gp V C K pk m):=h;have HL:=hide (hl);clear hl h hvo c0 c2 c3 c4 c6 c7 c8 c9;go_enter Tryz.func109,Tryz.ntmps109;go_wp2_with fail
  go_region
  all_goals
   go_wp2;go_ret;exact⟨V,⟨HP.out.pp.below ((Below.refl _ _).drew),HP.out.pi,HP.out.lo⟩,⟨below_belP ((Below.refl _ _).drew) HP.out.lo _,id⟩,rfl,rfl,rfl,fun _ _ hn=>hn,.inl ⟨rfl,HL.out⟩⟩
 ·have hl':¬(V.P.order.length:Int)<(V.P.most:Int):=by omega
  obtain⟨x,r,hxr⟩:∃x r,V.P.order=x::r:=by
   cases hq:V.P.order with
   | nil=>rw[hq] at hl;simp at hl;omega
   | cons x r=>exact⟨x,r,rfl⟩
  have hx:=h.pi.rng x (by rw[hxr];exact List.mem_cons_self ..);have hpg:=h.pi.pg;have hx64:i64 x:=i64_in (by omega) (by omega);obtain⟨f,hf⟩:∃f,V.P.fs x=some f:=Option.isSome_iff_exists.1 ((h.pi.keys x).1 (by rw[hxr];exact List.mem_cons_self ..));have hW:PO w.drew B D Gp V C K pk m:=⟨h.pp.below ((Below.refl _ _).drew),h.pi,h.lo⟩;have HW:Hid (PO w.drew B D Gp V C K pk m):=hW;have HSW:Hid (St2 w w.drew B V V):=(⟨below_belP ((Below.refl _ _).drew) h.lo _,id⟩:St2 w w.drew B V V);obtain⟨g,cap,hg0,g1,g2,g3,g4,g5⟩:=hW.pp.row (by rw[hxr];simp);rw[hvo] at hg0;injection hg0 with ea _ ec;subst ea ec;have hcx:w.drew.cell? ⟨g,0,none⟩=some (.int .i64 x):=by
   have:=holds_cell g5 0 (by rw[hxr];simp);rw[this,hxr];rfl
  have HIX:Hid (Calls Tryz.prog 115 #[.slice (some ⟨g,0,none⟩) V.P.order.length oc,.func (.func 127) #[(.pointer (some ⟨Gp,0,none⟩))] #[]] w.drew fun e w'=>e=.returned (.int .i64 0)∧w'=w.drew):=by
   have:=cindexL (.pointer (some ⟨Gp,0,none⟩)) (fun _=>true) g 0 V.P.order.length oc V.P.order w.drew rfl (by omega) (fun j hj=>by rw[Nat.zero_add];exact holds_cell g5 j hj) (fun y hy=>by
    obtain⟨f',hf'⟩:=Option.isSome_iff_exists.1 ((hW.pi.keys y).1 hy);have:=hW.pi.rng y hy;exact cisLoose hW.pp hf' (i64_in (by omega) (by omega)))
   rw[hxr] at this ⊢;exact this
  have hlk:=hW.pp.fmap.look1 hx64;simp only[hf,Option.map_some,ptrO] at hlk;obtain⟨f0,f1,f2,z0,z2,hlt⟩:=hW.pp.fcells hf;obtain⟨e0,e1,e2,e3,e4,e5,e6,e7,e8,e9⟩:=hW.pp.cells;rw[hvo] at e5;have HX64:Hid (i64 x):=hx64;have HXR:Hid (V.P.order=x::r):=hxr;have hlen:V.P.order.length=r.length+1:=by rw[hxr];rfl
  have HVO:Hid (V.b.vo=.slice (some ⟨g,0,none⟩) V.P.order.length oc):=hvo;clear h hW hvo c0 c2 c3 c4 c6 c7 c8 c9 g5 hx64 hxr e0 e1 e2 e3 e6 e7 e8 e9 f0 f1 z0 z2;cases hd:f.dirty with
  | false =>
   rw[hd] at f2;have HFF:Hid (V.P.fs x=some f):=hf;have HDD:Hid (f.dirty=false):=hd;clear hf hd;rw[hlen] at HVO HIX c5 e5 hl';go_enter Tryz.func109,Tryz.ntmps109;go_wp2_with fail
   go_region
   all_goals
    go_wp2_with fail
    refine HIX.out.mono ?_;rintro e w1⟨rfl,hw⟩;rw[hw];clear hw;have HPP5:Hid (PP w.drew B D Gp V.b V.P V.L V.S):=HW.out.pp;have HPI5:Hid (PI V.P V.L V.S C K V.N pk m):=HW.out.pi;have HLO5:Hid (B≤w.drew.heap.size):=HW.out.lo;have HS5:Hid (St2 w w.drew B V V):=HSW;have HO5:Hid (V.b.vo=.slice (some ⟨g,0,none⟩) (r.length+1) oc):=HVO;have HR5:Hid (V.P.order=x::r):=HXR;have HF5:Hid (V.P.fs x=some f):=HFF;have HC5:Hid (f.dirty=false):=HDD;obtain⟨c0,c1,c2,c3,c4,c5,c6,c7,c8,c9⟩:=HPP5.out.cells;rw[HO5.out] at c5;obtain⟨Y,hrun,hM,hgY⟩:=HPP5.out.fmap.drop HX64.out 0 (x:=x);have HY:Hid (PP Y B D Gp V.b { V.P with fs:=delR V.P.fs x } V.L V.S):=HPP5.out.drop hgY hM;have HBY:Hid (BelP V.b.M V.b.M B w.drew Y):=HPP5.out.fmaps_bel hgY HLO5.out;obtain⟨d0,d1,d2,d3,d4,d5,d6,d7,d8,d9⟩:=HY.out.cells;rw[HO5.out] at d5;have HD:=hide (cdelete 0 HY.out (by show 0<V.P.order.length;rw[HR5.out];simp) (by have:=HPI5.out.most;show V.P.order.length≤64;omega));simp only[HR5.out,HO5.out,List.eraseIdx_cons_zero,List.length_cons,Nat.add_sub_cancel,Int.natCast_zero,Int.zero_add] at HD;clear hM hgY c0 c1 c2 c3 c5 c6 c7 c8 c9 d0 d1 d2 d3 d4 d6 d7 d8 d9;go_wp2_with fail
    refine HD.out.mono ?_;rintro e w8⟨a8,c8,rfl,q1,q2,q3⟩;obtain⟨u5,z5,l5⟩:=HY.out.own5 q2 (fun g hg=>by rw[HO5.out];exact hg);rw[HO5.out] at u5;have HZ:Hid (PP (w8.setCell ⟨Gp,5,none⟩ (.slice a8 r.length c8)) B D Gp { V.b with vo:=(.slice a8 r.length c8)} { V.P with fs:=delR V.P.fs x,order:=r } V.L V.S):=
     HY.out.order (l:=r) q2 (fun g hg=>by rw[HO5.out];exact hg) q1 (fun g hg=>by left;rw[HO5.out,←q3];exact hg)
    have HBZ:Hid (BelP V.b.M V.b.M B w.drew (w8.setCell ⟨Gp,5,none⟩ (.slice a8 r.length c8))):=HBY.out.trans (HY.out.order_bel q2 (fun g hg=>by rw[HO5.out];exact hg) (Nat.le_trans HLO5.out HBY.out.size));have HPI:Hid (PI { V.P with fs:=delR V.P.fs x,order:=r } V.L V.S C K V.N pk m):=HPI5.out.gone HR5.out HF5.out HC5.out;clear q1 q2 q3 HD;go_wp2;go_ret;refine⟨⟨{ V.b with vo:=(.slice a8 r.length c8)},{ V.P with fs:=delR V.P.fs x,order:=r },V.L,V.S,V.N⟩,⟨HZ.out,HPI.out,Nat.le_trans HLO5.out HBZ.out.size⟩,HS5.out.trans ⟨HBZ.out,id⟩,rfl,rfl,rfl,fun y fy hy=>?_,.inl ⟨rfl,?_⟩⟩
    ·have hy:delR V.P.fs x y=some fy:=hy;by_cases e:y=x
     ·rw[e,delR_at] at hy;cases hy
     ·rw[delR_ne _ e] at hy;exact hy
    ·have h1:=HPI5.out.most.1;rw[HR5.out] at h1;show r.length<V.P.most;simp at h1;omega
  | true =>
   rw[hd] at f2;have HFF:Hid (V.P.fs x=some f):=hf;have HDD:Hid (f.dirty=true):=hd;have HTL:=hide (ctoLog HW.out hm x f hf hd);clear hf hd;rw[hlen] at HVO HIX c5 e5 hl';go_enter Tryz.func109,Tryz.ntmps109;go_wp2_with fail
   go_region
   all_goals
    go_wp2_with fail
    refine HIX.out.mono ?_;rintro e w1⟨rfl,hw⟩;rw[hw];clear hw;go_wp2_with fail
    refine HTL.out.mono ?_;rintro e w5⟨V4,k1,k2,-,k3,(⟨rfl,k4⟩ | ⟨rfl,k5,k4⟩)⟩
    ·have HP4:Hid (PO w5 B D Gp V4 C K pk m):=k1;have HS4:Hid (St2 w w5 B V V4):=HSW.out.trans k2;obtain⟨p0,p1,p2,p3,p4,p5,p6,p7,p8,p9⟩:=k1.pp.cells;have z9:=k1.pp.unfrozen 9;have hv4:V4.b.vo=.slice (some ⟨g,0,none⟩) (r.length+1) oc:=by rw[k3];exact HVO.out
     rw[hv4] at p5;obtain⟨PX,hPX⟩:∃PX:PS,PX={ V4.P with spills:=wrap64 (V4.P.spills+1)}:=⟨_,rfl⟩;have hfp:(PX.fs=V4.P.fs∧PX.order=V4.P.order)∧(PX.pages=V4.P.pages∧PX.free=V4.P.free∧PX.most=V4.P.most):=by rw[hPX];exact⟨⟨rfl,rfl⟩,rfl,rfl,rfl⟩
     have HPP5:Hid (PP (w5.setCell ⟨Gp,9,none⟩ (.int .i64 (wrap64 (V4.P.spills+1)))) B D Gp V4.b PX V4.L V4.S):=by
      rw[hPX];exact hide (k1.pp.own rfl rfl rfl rfl)
     have HPI5:Hid (PI PX V4.L V4.S C K V4.N pk m):=by
      rw[hPX];exact hide (k1.pi.stat _ _ _ _)
     have HLO5:Hid (B≤(w5.setCell ⟨Gp,9,none⟩ (.int .i64 (wrap64 (V4.P.spills+1)))).heap.size):=Nat.le_trans k1.lo (set_grown w5 Gp 9 _).size;have HS5:Hid (St2 w (w5.setCell ⟨Gp,9,none⟩ (.int .i64 (wrap64 (V4.P.spills+1)))) B V V4):=HS4.out.trans (⟨k1.pp.own_bel 9 _ k1.lo,id⟩:St2 w5 _ B V4 V4);have HO5:Hid (V4.b.vo=.slice (some ⟨g,0,none⟩) (r.length+1) oc):=hv4;have HR5:Hid (PX.order=x::r):=by rw[hfp.1.2,k4];exact HXR
     have HF5:Hid (PX.fs x=some { f with dirty:=false }):=by rw[hfp.1.1,k4];exact hide (updR_at _ _ _)
     have HK5:Hid (PX.pages=V.P.pages∧PX.free=V.P.free∧PX.most=V.P.most∧∀n f',¬n=x→PX.fs n=some f'→V.P.fs n=some f'):=by
      rw[hfp.1.1,hfp.2.1,hfp.2.2.1,hfp.2.2.2,k4];refine hide ⟨rfl,rfl,rfl,fun n f' hne hn=>?_⟩;have hn:updR V.P.fs x _ n=some f':=hn;rw[updR_ne _ _ hne] at hn;exact hn
     clear k1 k2 k3 k4 hPX hfp HTL p0 p1 p2 p3 p6 p7 p8 e4 e5 f2 hlk hcx c1 c5 hv4;obtain⟨c0,c1,c2,c3,c4,c5,c6,c7,c8,c9⟩:=HPP5.out.cells;rw[HO5.out] at c5;obtain⟨Y,hrun,hM,hgY⟩:=HPP5.out.fmap.drop HX64.out 0 (x:=x);have HY:Hid (PP Y B D Gp V4.b { PX with fs:=delR PX.fs x } V4.L V4.S):=HPP5.out.drop hgY hM;have HBY:Hid (BelP V4.b.M V4.b.M B (w5.setCell ⟨Gp,9,none⟩ (.int .i64 (wrap64 (V4.P.spills+1)))) Y):=HPP5.out.fmaps_bel hgY HLO5.out;obtain⟨d0,d1,d2,d3,d4,d5,d6,d7,d8,d9⟩:=HY.out.cells;rw[HO5.out] at d5;have HD:=hide (cdelete 0 HY.out (by show 0<PX.order.length;rw[HR5.out];simp) (by have:=HPI5.out.most;show PX.order.length≤64;omega));simp only[HR5.out,HO5.out,List.eraseIdx_cons_zero,List.length_cons,Nat.add_sub_cancel,Int.natCast_zero,Int.zero_add] at HD;clear hM hgY c0 c1 c2 c3 c5 c6 c7 c8 c9 d0 d1 d2 d3 d4 d6 d7 d8 d9;go_wp2_with fail
     refine HD.out.mono ?_;rintro e w8⟨a8,c8,rfl,q1,q2,q3⟩;obtain⟨u5,z5,l5⟩:=HY.out.own5 q2 (fun g hg=>by rw[HO5.out];exact hg);rw[HO5.out] at u5;have HZ:Hid (PP (w8.setCell ⟨Gp,5,none⟩ (.slice a8 r.length c8)) B D Gp { V4.b with vo:=(.slice a8 r.length c8)} { PX with fs:=delR PX.fs x,order:=r } V4.L V4.S):=
      HY.out.order (l:=r) q2 (fun g hg=>by rw[HO5.out];exact hg) q1 (fun g hg=>by left;rw[HO5.out,←q3];exact hg)
     have HBZ:Hid (BelP V4.b.M V4.b.M B (w5.setCell ⟨Gp,9,none⟩ (.int .i64 (wrap64 (V4.P.spills+1)))) (w8.setCell ⟨Gp,5,none⟩ (.slice a8 r.length c8))):=HBY.out.trans (HY.out.order_bel q2 (fun g hg=>by rw[HO5.out];exact hg) (Nat.le_trans HLO5.out HBY.out.size));have HPI:Hid (PI { PX with fs:=delR PX.fs x,order:=r } V4.L V4.S C K V4.N pk m):=HPI5.out.gone HR5.out HF5.out rfl;clear q1 q2 q3 HD;go_wp2;go_ret;refine⟨⟨{ V4.b with vo:=(.slice a8 r.length c8)},{ PX with fs:=delR PX.fs x,order:=r },V4.L,V4.S,V4.N⟩,⟨HZ.out,HPI.out,Nat.le_trans HLO5.out HBZ.out.size⟩,HS5.out.trans ⟨HBZ.out,id⟩,HK5.out.1,HK5.out.2.1,HK5.out.2.2.1,fun y fy hy=>?_,.inl ⟨rfl,?_⟩⟩
     ·have hy:delR PX.fs x y=some fy:=hy;by_cases e:y=x
      ·rw[e,delR_at] at hy;cases hy
      ·rw[delR_ne _ e] at hy;exact HK5.out.2.2.2 y fy e hy
     ·have h1:=HPI5.out.most.1;rw[HR5.out] at h1;show r.length<PX.most;simp at h1;omega
    ·have HP4:Hid (PO w5 B D Gp V4 C K pk m):=k1;have HS4:Hid (St2 w w5 B V V4):=HSW.out.trans k2;have HK4:Hid (V4.S.down=true∧V4.P=V.P):=(⟨k5,k4⟩:V4.S.down=true∧V4.P=V.P);clear k1 k2 k3 k4 k5 HTL;go_wp2;go_ret;exact⟨V4,HP4.out,HS4.out,by rw[HK4.out.2],by rw[HK4.out.2],by rw[HK4.out.2],fun n f' hn=>by rw[HK4.out.2] at hn;exact hn,.inr ⟨rfl,HK4.out.1⟩⟩
theorem erase_perm (hi:i<l.length)(h:l[i]?=some x):(l.eraseIdx i++[x]).Perm l:=by
 have hx:l[i]=x:=by rw[List.getElem?_eq_getElem hi] at h;injection h
 have h1:l=l.take i++x::l.drop (i+1):=by rw[←hx,←List.drop_eq_getElem_cons,List.take_append_drop]
 rw[List.eraseIdx_eq_take_drop_succ];refine List.Perm.trans ?_ (List.Perm.of_eq h1.symm);rw[List.append_assoc];exact List.Perm.append_left _ List.perm_append_comm
theorem infoIntP:(Tryz.prog.info? 3).map (fun i=>(i.zero,i.size,i.bytes))=some (some (.int .i64 0),1,8):=by kernel_rfl
theorem use_grown {w3:World}(h:w1.grownBy w2 r)(e:q=r)(hg:(w2.alloc o).grownBy w3 q):w1.grownBy w3 r:=by
 rw[e] at hg;exact But.trans (grown_alloc h o) hg
theorem use_len {ol:Nat}(hi:i<l.length)(h:ol+1=l.length):(l.eraseIdx i++[n]).length=ol+1:=by
 rw[List.length_append,List.length_eraseIdx,if_pos hi];simp;omega
theorem use_own {v:Option Nat}(h:w1.grownBy w2 r)(e:q=r)(hv:v=q∨v=some (w2.alloc o).heap.size):v=r∨∃k,v=some k∧w1.heap.size≤k:=by
 rcases hv with h1|h1
 ·left;rw[h1,e]
 ·right;exact⟨_,h1,by have:=h.size;simp;omega⟩
theorem cuse_hit {V:PV}(h:PO w B D Gp V C K pk m)(n:Int)(f:FrP)(hf:V.P.fs n=some f):Calls Tryz.prog 112 #[(.pointer (some ⟨Gp,0,none⟩)),.int .i64 n] w fun e w'=>∃V',PO w' B D Gp V' C K pk m∧St2 w w' B V V'∧V'.P.pages=V.P.pages∧V'.P.free=V.P.free∧V'.P.fs=V.P.fs∧e=.returned (.tuple #[(.pointer (some ⟨f.blk,0,none⟩)),.int .i64 0]):=by
 obtain⟨g1,g2,g3,g4,g5⟩:=h.pi.held hf;have hpg:=h.pi.pg;have hmo:=h.pi.most;have hn:i64 n:=i64_in (by omega) (by omega);have hn0:¬n<0:=by omega
 have hn1:¬(V.P.pages:Int)≤n:=by omega
 have hlk:=h.pp.fmap.look hn;simp only[hf,Option.map_some,ptrO,Option.isSome_some] at hlk;obtain⟨c0,c1,c2,c3,c4,c5,c6,c7,c8,c9⟩:=h.pp.cells;have z7:=h.pp.unfrozen 7;have HP1:Hid (PP (w.setCell ⟨Gp,7,none⟩ (.int .i64 (wrap64 (V.P.hits+1)))) B D Gp V.b { V.P with hits:=wrap64 (V.P.hits+1)} V.L V.S):=h.pp.own rfl rfl rfl rfl;have HB1:Hid (BelP V.b.M V.b.M B w (w.setCell ⟨Gp,7,none⟩ (.int .i64 (wrap64 (V.P.hits+1))))):=h.pp.own_bel 7 _ h.lo;have HPI:Hid (PI V.P V.L V.S C K V.N pk m):=h.pi;have HLO:Hid (B≤w.heap.size):=h.lo;have HWO:=hide (cwithout n HP1.out g1 h.pi.nd (by show V.P.order.length≤64;omega));obtain⟨i0,hi,hz⟩:=Option.map_eq_some_iff.1 infoIntP;simp only[Prod.mk.injEq] at hz;obtain⟨hz0,hz1,hz2⟩:=hz;have hol:V.P.order.length≤64:=by omega
 clear h c0 c1 c3 c5 c6 c8 c9 hf g1 g2 g3 g4 g5 hpg hmo;generalize hW1:w.setCell ⟨Gp,7,none⟩ (.int .i64 (wrap64 (V.P.hits+1)))=w1 at *;go_enter Tryz.func112,Tryz.ntmps112;go_wp2_with fail
 refine HWO.out.mono ?_;rintro e w2⟨i,a,c,q0,q1,rfl,q2,q3,q4⟩
 change V.P.order[i]?=some n at q0
 change i<V.P.order.length at q1
 have hle:(V.P.order.eraseIdx i).length=V.P.order.length-1:=by rw[List.length_eraseIdx,if_pos q1]
 have HQ2:Hid (w2.ownsRow B 3 1 (.slice a (V.P.order.length-1) c) (V.P.order.length-1) ((V.P.order.eraseIdx i).map (Value.int .i64))):=by rw[←hle];rw[←hle] at q2;exact q2
 have HQ3:Hid (w1.grownBy w2 V.b.vo.ownBlock):=q3;have HQ4:Hid ((Value.slice a (V.P.order.length-1) c).ownBlock=V.b.vo.ownBlock):=q4;have HQ0:Hid (V.P.order[i]?=some n∧i<V.P.order.length):=(⟨q0,q1⟩:V.P.order[i]?=some n∧i<V.P.order.length);have hszb:B≤w2.heap.size:=Nat.le_trans HLO.out (Nat.le_trans HB1.out.size q3.size);obtain⟨ol,hol2⟩:∃ol,ol=V.P.order.length-1:=⟨_,rfl⟩;rw[←hol2] at HQ2 HQ4 ⊢;have HOL:Hid (ol+1=V.P.order.length):=by show ol+1=V.P.order.length;omega
 clear q0 q1 q2 q3 q4 HWO hle hol2;go_wp2_with (first
  | (at_builtin;refine wpList_append_own_at _ rfl _ _ 36 rfl B 3 i0 (.int .i64 0) 1 8 Tryz.underlying36 hi hz0 hz1 hz2 rfl (by decide) (.slice a ol c) ol ((V.P.order.eraseIdx i).map (Value.int .i64)) rfl (World.ownsRow.alloc HQ2.out _) ⟨w2.heap.size,0,none⟩ 1 1 [.int .i64 n] rfl rfl (newsI _ _) (fun x hx=>by simp at hx;subst hx;rfl) (by have:=HOL.out;unfold maxLen;omega) (by have:=HOL.out;omega) (by simp;omega) ?_;intro v1 w3 ho1 hg1 hnil1 hown1;obtain⟨a1,cap1,rfl⟩:=owns_sliceI ho1;have HH:=HP1.out.reord (l:=V.P.order.eraseIdx i++[n]) (Nat.le_trans HLO.out HB1.out.size) (use_grown HQ3.out HQ4.out hg1) (by rw[use_len HQ0.out.2 HOL.out,List.map_append];exact ho1) (use_own HQ3.out HQ4.out hown1);have HZ:Hid (PP (w3.setCell ⟨Gp,5,none⟩ (.slice a1 (ol+1) cap1)) B D Gp { V.b with vo:=(.slice a1 (ol+1) cap1)} { V.P with hits:=wrap64 (V.P.hits+1),order:=V.P.order.eraseIdx i++[n]} V.L V.S):=HH.1;have HBZ:Hid (BelP V.b.M V.b.M B w (w3.setCell ⟨Gp,5,none⟩ (.slice a1 (ol+1) cap1))):=HB1.out.trans HH.2.1;have e5:=HH.2.2.1;have f5:=HH.2.2.2.1;have l5:=HH.2.2.2.2;clear HH ho1 hg1 hnil1 hown1)
  | go_in)
 have HPZ:Hid (PI { V.P with hits:=wrap64 (V.P.hits+1),order:=V.P.order.eraseIdx i++[n]} V.L V.S C K V.N pk m):=((HPI.out.perm (erase_perm HQ0.out.2 HQ0.out.1)).stat _ _ _ _)
 go_ret2
 exact⟨⟨{ V.b with vo:=(.slice a1 (ol+1) cap1)},{ V.P with hits:=wrap64 (V.P.hits+1),order:=V.P.order.eraseIdx i++[n]},V.L,V.S,V.N⟩,⟨HZ.out,HPZ.out,Nat.le_trans HLO.out HBZ.out.size⟩,⟨HBZ.out,id⟩,rfl,rfl,rfl,rfl⟩
theorem cuse_miss {V:PV}(h:PO w B D Gp V C K pk m)(hm:m≤50000)(n:Int)(n0:0≤n)(n1:n<V.P.pages)(hf:V.P.fs n=none):Calls Tryz.prog 112 #[(.pointer (some ⟨Gp,0,none⟩)),.int .i64 n] w fun e w'=>∃V',PO w' B D Gp V' C K pk m∧St2 w w' B V V'∧V'.P.pages=V.P.pages∧V'.P.free=V.P.free∧(∀x f,V'.P.fs x=some f→f.dirty=true→V.P.fs x=some f)∧((∃f,V'.P.fs n=some f∧C n=some f.text∧e=.returned (.tuple #[(.pointer (some ⟨f.blk,0,none⟩)),.int .i64 0]))∨(e=.returned (.tuple #[.pointer none,.int .i64 2])∧V'.S.down=true)):=by
 have hpg:=h.pi.pg;have hn:i64 n:=i64_in (by omega) (by omega);have hn0:¬n<0:=by omega
 have hn1:¬(V.P.pages:Int)≤n:=by omega
 have hlk:=h.pp.fmap.look hn;simp only[hf,Option.map_none,ptrO,Option.isSome_none] at hlk;obtain⟨c0,c1,c2,c3,c4,c5,c6,c7,c8,c9⟩:=h.pp.cells;have HMR:=hide (cmakeRoom h hm);have HNR:Hid (0≤n∧n<V.P.pages∧V.P.fs n=none∧i64 n):=(⟨n0,n1,hf,hn⟩:0≤n∧n<V.P.pages∧V.P.fs n=none∧i64 n);clear h c0 c1 c3 c5 c6 c7 c8 c9 hf;go_enter Tryz.func112,Tryz.ntmps112;go_wp2_with fail
 refine HMR.out.mono ?_;rintro e w1⟨V1,k1,k2,k3,k4,k5,k6,(⟨rfl,k7⟩ | ⟨rfl,k7⟩)⟩
 ·have HP1:Hid (PO w1 B D Gp V1 C K pk m):=k1;have HS1:Hid (St2 w w1 B V V1):=k2;have hnone:V1.P.fs n=none:=by
   cases hq:V1.P.fs n with
   | none=>rfl
   | some f =>
    have:=k6 n f hq;rw[HNR.out.2.2.1] at this;cases this
  have HK1:=hide (show V1.P.pages=V.P.pages∧V1.P.free=V.P.free∧V1.P.fs n=none∧V1.P.order.length<V1.P.most from⟨k3,k4,hnone,k7⟩);clear hnone;have HSUB:=hide (k6);obtain⟨t,t1,t2,t3,t4⟩:=k1.pi.cur n n0 (by omega);have hN:=t4 HK1.out.2.2.1;obtain⟨nn,rfl⟩:∃k:Nat,n=k:=⟨n.toNat,by omega⟩;obtain⟨j,kk,i1,i2,i3,i4⟩:=k1.pi.inv;have hrd:=rd_out i1 (by omega) (by omega:nn<60000) hN (k1.pp.log.dsk.len 0 (by decide)) (k1.pp.log.dsk.len 2 (by decide));have HRD:=hide (creadL (nn:Int) w1 B D V1.b.G V1.b.bp V1.b.bf 60000 V1.L V1.S k1.pp.log (i1.okp (by omega)) (i1.okf (by omega)));obtain⟨c0,c1,c2,c3,c4,c5,c6,c7,c8,c9⟩:=k1.pp.cells;have HT:Hid (C nn=some t):=t1;clear k1 k2 k3 k4 k5 k6 k7 t1 t2 t3 t4 hN i1 i2 i3 i4 c1 c2 c3 c4 c5 c6 c7 c8 c9 HMR hlk;rcases hrd with hr | ⟨hdn,hr⟩
  ·rw[hr] at HRD;clear hr;go_wp2_with fail
   refine HRD.out.mono ?_;rintro e w2⟨rfl,hb2⟩;have HP2:Hid (PO w2 B D Gp V1 C K pk m):=(⟨HP1.out.pp.below hb2,HP1.out.pi,Nat.le_trans HP1.out.lo hb2.size⟩:PO w2 B D Gp V1 C K pk m);have HS2:Hid (St2 w w2 B V V1):=HS1.out.trans ⟨below_belP hb2 HP1.out.lo _,id⟩;obtain⟨d0,d1,d2,d3,d4,d5,d6,d7,d8,d9⟩:=HP2.out.pp.cells;have z8:=HP2.out.pp.unfrozen 8;have HP3:Hid (PP (w2.setCell ⟨Gp,8,none⟩ (.int .i64 (wrap64 (V1.P.misses+1)))) B D Gp V1.b { V1.P with misses:=wrap64 (V1.P.misses+1)} V1.L V1.S):=HP2.out.pp.own rfl rfl rfl rfl;have HS3:Hid (BelP V1.b.M V1.b.M B w2 (w2.setCell ⟨Gp,8,none⟩ (.int .i64 (wrap64 (V1.P.misses+1))))):=HP2.out.pp.own_bel 8 _ HP2.out.lo;have hml:=HP1.out.pi.most;have HH:=hide (chold (nn:Int) t HP3.out (Nat.le_trans HP2.out.lo HS3.out.size) HNR.out.2.2.2 (by have:=HK1.out.2.2.2;show V1.P.order.length≤63;omega) (fun x hx=>(HP1.out.pi.keys x).2 hx) HK1.out.2.2.1);clear hb2 d0 d1 d2 d3 d4 d5 d6 d7 d9 HRD c0;generalize hW3:w2.setCell ⟨Gp,8,none⟩ (.int .i64 (wrap64 (V1.P.misses+1)))=w3 at *;go_wp2_with fail
   refine HH.out.mono ?_;rintro e w4⟨v,rfl,q1,q2⟩;have HQ1:=hide (q1);have HQ2:=hide (q2);clear q1 q2 HH;go_wp2
   go_ret2
   refine⟨⟨{ V1.b with vo:=v },_,V1.L,V1.S,V1.N⟩,⟨HQ1.out,?_,Nat.le_trans HP2.out.lo (Nat.le_trans HS3.out.size HQ2.out.size)⟩,HS2.out.trans ⟨HS3.out.trans HQ2.out,id⟩,HK1.out.1,HK1.out.2.1,fun x f hx hd=>?_,.inl ⟨_,updR_at _ _ _,HT.out,rfl⟩⟩
   ·have hp:=HNR.out;have hq:=HK1.out;exact(HP1.out.pi.hold w3.heap.size hp.1 (by omega) hq.2.2.1 HT.out hq.2.2.2).stat V1.P.hits (wrap64 (V1.P.misses+1)) V1.P.spills V1.P.free
   ·have hx:updR V1.P.fs (nn:Int) ⟨w3.heap.size,t,false⟩ x=some f:=hx;by_cases e:x=(nn:Int)
    ·rw[e,updR_at] at hx;injection hx with hx;rw[←hx] at hd;cases hd
    ·rw[updR_ne _ _ e] at hx;exact HSUB.out x f hx
  ·rw[hr] at HRD;have HDN:Hid (V1.S.down=true):=hdn;clear hr hdn;go_wp2_with fail
   refine HRD.out.mono ?_;rintro e w2⟨rfl,hb2⟩;have HP2:Hid (PO w2 B D Gp V1 C K pk m):=(⟨HP1.out.pp.below hb2,HP1.out.pi,Nat.le_trans HP1.out.lo hb2.size⟩:PO w2 B D Gp V1 C K pk m);have HS2:Hid (St2 w w2 B V V1):=HS1.out.trans ⟨below_belP hb2 HP1.out.lo _,id⟩;clear hb2 HRD;go_wp2
   go_ret2
   exact⟨V1,HP2.out,HS2.out,HK1.out.1,HK1.out.2.1,fun x f hx _=>HSUB.out x f hx,.inr ⟨rfl,HDN.out⟩⟩
 ·have HP1:Hid (PO w1 B D Gp V1 C K pk m):=k1;have HS1:Hid (St2 w w1 B V V1):=k2;have HK1:Hid (V1.P.pages=V.P.pages∧V1.P.free=V.P.free∧V1.S.down=true):=(⟨k3,k4,k7⟩:V1.P.pages=V.P.pages∧V1.P.free=V.P.free∧V1.S.down=true);have HSUB:=hide (k6);clear k1 k2 k3 k4 k5 k6 k7 HMR;go_wp2
  go_ret2
  exact⟨V1,HP1.out,HS1.out,HK1.out.1,HK1.out.2.1,fun x f hx _=>HSUB.out x f hx,.inr ⟨rfl,HK1.out.2.2⟩⟩
theorem cuse {V:PV}(h:PO w B D Gp V C K pk m)(hm:m≤50000)(n:Int)(n0:0≤n)(n1:n<V.P.pages):Calls Tryz.prog 112 #[(.pointer (some ⟨Gp,0,none⟩)),.int .i64 n] w fun e w'=>∃V',PO w' B D Gp V' C K pk m∧St2 w w' B V V'∧V'.P.pages=V.P.pages∧V'.P.free=V.P.free∧(∀x f,V'.P.fs x=some f→f.dirty=true→V.P.fs x=some f)∧((∃f,V'.P.fs n=some f∧C n=some f.text∧e=.returned (.tuple #[(.pointer (some ⟨f.blk,0,none⟩)),.int .i64 0]))∨(e=.returned (.tuple #[.pointer none,.int .i64 2])∧V'.S.down=true)):=by
 cases hf:V.P.fs n with
 | none=>exact cuse_miss h hm n n0 n1 hf
 | some f =>
  refine(cuse_hit h n f hf).mono ?_;rintro e w'⟨V',k1,k2,k3,k4,k5,rfl⟩;exact⟨V',k1,k2,k3,k4,fun x g hx _=>by rw[k5] at hx;exact hx,.inl ⟨f,by rw[k5];exact hf,(h.pi.held hf).2.2.2.1,rfl⟩⟩
def noT:Nat→ByteArray:=fun _=>⟨#[]⟩
def pgB (K Lk:Nat):ByteArray:=⟨(sealed K Lk 0 noT).toArray⟩
theorem no_len (S:Nat→ByteArray):4*0+len S 0≤1012:=by simp[len]
theorem pgB_size (K Lk:Nat):(pgB K Lk).size=1024:=by unfold pgB;rw[size_mk,sealed_len (no_len _)]
theorem pgB_good {K:Nat}(hK:1≤K∧K≤5)(hL:Lk≤2147483647):good (pgB K Lk)∧byt (pgB K Lk) 4=K∧four (pgB K Lk) 8=Lk∧cls (pgB K Lk)=[]:=
 ⟨sealed_good hK hL (no_len _),sealed_kind (no_len _) hK.2,sealed_link (no_len _) hL,by unfold pgB;rw[sealed_cls (no_len _)];rfl⟩
theorem copenB {K:Nat}(hK:1≤K∧K≤5)(hL:Lk≤2147483647)(w:World):Calls Tryz.prog 72 #[.string (pgB K Lk)] w fun e w'=>(∃a c,e=.returned (.tuple #[.agg #[.int .i64 K,.int .i64 Lk,.slice a 0 c],.int .i64 0]))∧Below w.heap.size w w':=by
 obtain⟨g1,g2,g3,g4⟩:=pgB_good hK hL;refine(copenq (pgB K Lk) w (pgB_size _ _)).mono ?_;rintro e w'⟨(⟨_,v,rfl,ho⟩|⟨k,_⟩),hb⟩
 ·rw[g4] at ho;rw[g2,g3];obtain⟨a,c,rfl,-⟩:=sta_own (L:=[]) ho;exact⟨⟨a,c,rfl⟩,hb⟩
 ·exact absurd g1 k
theorem csealB {K:Nat}(hK:1≤K∧K≤5)(hL:Lk≤2147483647)(a:Option Addr)(c:Nat)(w:World):Calls Tryz.prog 106 #[.agg #[.int .i64 K,.int .i64 Lk,.slice a 0 c]] w fun e w'=>e=.returned (.tuple #[.string (pgB K Lk),.int .i64 0])∧Below w.heap.size w w':=by
 refine(cseal_ok K Lk a 0 c noT w (.inl rfl) hK hL (no_len _)).mono ?_;rintro e w'⟨rfl,hb⟩;exact⟨rfl,hb⟩
theorem PO.chs {V:PV}(h:PO w B D Gp V C K pk m):∀x,V.P.chg x=true→0≤x∧x<59999:=fun x hx=>by
 have:=h.pi.chr x hx;have:=h.pi.pg;omega
theorem PO.mono {V:PV}{m':Nat}(h:PO w B D Gp V C K pk m)(hm:m≤m'):PO w B D Gp V C K pk m':=⟨h.pp,h.pi.mono hm,h.lo⟩
theorem PO.below {V:PV}(h:PO w B D Gp V C K pk m)(hb:Below w.heap.size w w'):PO w' B D Gp V C K pk m∧St2 w w' B V V:=⟨⟨h.pp.below hb,h.pi,Nat.le_trans h.lo hb.size⟩,⟨below_belP hb h.lo _,id⟩⟩
theorem PO.stay {V V':PV}{cs:Array Value}(h:PO w B D Gp V C K pk m)(hs:St2 w w' B V V')(hc:w.heap[c]?=some (.cells cs t (0,0)))(ht:tyQ t=false):w'.heap[c]?=some (.cells cs t (0,0)):=by
 obtain⟨k1,k2,k3,k4,k5,k6,k7,k8⟩:=h.pp.kinds;refine(hs.bel.far c (Array.getElem?_eq_some_iff.1 hc).1 (fun cur e fz he=>?_) (fun hm=>?_)).trans hc
 ·rw[hc] at he;injection he with he;injection he with _ he _;rw[←he];exact ht
 ·simp only[Bk.M,List.mem_cons,List.not_mem_nil,or_false] at hm;rcases hm with rfl | rfl | rfl | rfl
  ·exact ne_CM ⟨_,hc⟩ k3 rfl
  ·exact ne_CM ⟨_,hc⟩ k4 rfl
  ·exact ne_CM ⟨_,hc⟩ k5 rfl
  ·exact ne_CM ⟨_,hc⟩ k6 rfl
theorem PO.other {V:PV}(h:PO w B D Gp V C K pk m)(hg:w.grownBy w' (some c))(hc:isC w c t)(ht:tyQ t=false):PO w' B D Gp V C K pk m:=⟨h.pp.other hg hc ht,h.pi,Nat.le_trans h.lo hg.size⟩
theorem St2.other {V V':PV}(h:St2 w w' B V V')(hg:w'.grownBy w'' (some c))(hc:w.heap.size≤c)(hB:B≤w.heap.size):St2 w w'' B V V':=⟨h.bel.other hg hc hB,h.nf⟩
theorem cput {V:PV}(h:PO w B D Gp V C K pk m)(hm:m≤50000)(n:Int)(n0:0≤n)(n1:n<V.P.pages)(s:ByteArray)(hs:s.size=1024):Calls Tryz.prog 77 #[(.pointer (some ⟨Gp,0,none⟩)),.int .i64 n,.string s] w fun e w'=>∃V',St2 w w' B V V'∧V'.P.pages=V.P.pages∧V'.P.free=V.P.free∧((e=.returned (.int .i64 0)∧PO w' B D Gp V' (wth C n s) K pk (m+1))∨(e=.returned (.int .i64 2)∧V'.S.down=true∧PO w' B D Gp V' C K pk m)):=by
 have HU:=hide (cuse h hm n n0 n1);have hpg:=h.pi.pg;have HN:Hid (i64 n):=i64_in (by omega) (by omega);have HS:Hid (s.size=1024):=hs;clear h hs;go_enter Tryz.func77,Tryz.ntmps77;go_wp2_with fail
 refine HU.out.mono ?_;rintro e w1⟨V1,k1,k2,k3,k4,-,(⟨f,k5,k6,rfl⟩ | ⟨rfl,k5⟩)⟩
 ·have HC:=hide (cchange n f s k1.pp k5 k1.lo HN.out k1.chs);have HP:Hid (PO w1 B D Gp V1 C K pk m):=k1;have HS1:Hid (St2 w w1 B V V1):=k2;have HK:Hid (V1.P.pages=V.P.pages∧V1.P.free=V.P.free∧V1.P.fs n=some f):=(⟨k3,k4,k5⟩:V1.P.pages=V.P.pages∧V1.P.free=V.P.free∧V1.P.fs n=some f);clear k1 k2 k3 k4 k5 k6 HU;go_wp2_with fail
  refine HC.out.mono ?_;rintro e w2⟨rfl,q1,q2⟩;have HQ1:=hide (q1);have HQ2:=hide (q2);clear q1 q2 HC;go_wp2;go_ret;exact⟨⟨V1.b,chP V1.P n f.blk s,V1.L,V1.S,V1.N⟩,HS1.out.trans ⟨HQ2.out,id⟩,HK.out.1,HK.out.2.1,.inl ⟨rfl,⟨HQ1.out,HP.out.pi.change HK.out.2.2 HS.out,Nat.le_trans HP.out.lo HQ2.out.size⟩⟩⟩
 ·have HP:Hid (PO w1 B D Gp V1 C K pk m):=k1;have HS1:Hid (St2 w w1 B V V1):=k2;have HK:Hid (V1.P.pages=V.P.pages∧V1.P.free=V.P.free∧V1.S.down=true):=(⟨k3,k4,k5⟩:V1.P.pages=V.P.pages∧V1.P.free=V.P.free∧V1.S.down=true);clear k1 k2 k3 k4 k5 HU;go_wp2;go_ret;exact⟨V1,HS1.out,HK.out.1,HK.out.2.1,.inr ⟨rfl,HK.out.2.2,HP.out⟩⟩
theorem creadP {V:PV}(h:PO w B D Gp V C K pk m)(hm:m≤50000)(n:Int)(n0:0≤n)(n1:n<V.P.pages):Calls Tryz.prog 82 #[(.pointer (some ⟨Gp,0,none⟩)),.int .i64 n] w fun e w'=>∃V',PO w' B D Gp V' C K pk m∧St2 w w' B V V'∧V'.P.pages=V.P.pages∧V'.P.free=V.P.free∧((∃t,C n=some t∧e=.returned (.tuple #[.string t,.int .i64 0]))∨(e=.returned (.tuple #[.string ⟨#[]⟩,.int .i64 2])∧V'.S.down=true)):=by
 have HU:=hide (cuse h hm n n0 n1);clear h;go_enter Tryz.func82,Tryz.ntmps82;go_wp2_with fail
 refine HU.out.mono ?_;rintro e w1⟨V1,k1,k2,k3,k4,-,(⟨f,k5,k6,rfl⟩ | ⟨rfl,k5⟩)⟩
 ·obtain⟨f0,f1,f2,z0,z2,hlt⟩:=k1.pp.fcells k5;have HP:Hid (PO w1 B D Gp V1 C K pk m):=k1;have HS1:Hid (St2 w w1 B V V1):=k2;have HK:Hid (V1.P.pages=V.P.pages∧V1.P.free=V.P.free∧C n=some f.text):=(⟨k3,k4,k6⟩:V1.P.pages=V.P.pages∧V1.P.free=V.P.free∧C n=some f.text);clear k1 k2 k3 k4 k5 k6 HU f1 f2 z0 z2;go_wp2
  go_ret2
  exact⟨V1,HP.out,HS1.out,HK.out.1,HK.out.2.1,.inl ⟨_,HK.out.2.2,rfl⟩⟩
 ·have HP:Hid (PO w1 B D Gp V1 C K pk m):=k1;have HS1:Hid (St2 w w1 B V V1):=k2;have HK:Hid (V1.P.pages=V.P.pages∧V1.P.free=V.P.free∧V1.S.down=true):=(⟨k3,k4,k5⟩:V1.P.pages=V.P.pages∧V1.P.free=V.P.free∧V1.S.down=true);clear k1 k2 k3 k4 k5 HU;go_wp2
  go_ret2
  exact⟨V1,HP.out,HS1.out,HK.out.1,HK.out.2.1,.inr ⟨rfl,HK.out.2.2⟩⟩
theorem cwriteP {V:PV}(h:PO w B D Gp V C K pk m)(hm:m≤50000)(n:Int)(n0:0<n)(n1:n<V.P.pages)(s:ByteArray)(hs:s.size=1024):Calls Tryz.prog 37 #[(.pointer (some ⟨Gp,0,none⟩)),.int .i64 n,.string s] w fun e w'=>∃V',St2 w w' B V V'∧V'.P.pages=V.P.pages∧V'.P.free=V.P.free∧((e=.returned (.int .i64 0)∧PO w' B D Gp V' (wth C n s) K pk (m+1))∨(e=.returned (.int .i64 2)∧V'.S.down=true∧PO w' B D Gp V' C K pk m)):=by
 have HU:=hide (cput h hm n (by omega) n1 s hs);have e1:(n == 0)=false:=by simp;omega
 have e2:((s.size:Int) != 1024)=false:=by simp;omega
 have e3:¬n=0:=by omega
 have e4:(s.size:Int)=1024:=by omega
 clear h hs;go_enter Tryz.func37,Tryz.ntmps37;go_wp2_with fail
 refine HU.out.mono ?_;rintro e w1⟨V1,k1,k2,k3,(⟨rfl,k4⟩ | ⟨rfl,k4,k5⟩)⟩
 ·have HK:Hid (St2 w w1 B V V1∧V1.P.pages=V.P.pages∧V1.P.free=V.P.free∧PO w1 B D Gp V1 (wth C n s) K pk (m+1)):=(⟨k1,k2,k3,k4⟩:St2 w w1 B V V1∧V1.P.pages=V.P.pages∧V1.P.free=V.P.free∧PO w1 B D Gp V1 (wth C n s) K pk (m+1));clear k1 k2 k3 k4 HU;go_wp2;go_ret;exact⟨V1,HK.out.1,HK.out.2.1,HK.out.2.2.1,.inl ⟨rfl,HK.out.2.2.2⟩⟩
 ·have HK:Hid (St2 w w1 B V V1∧V1.P.pages=V.P.pages∧V1.P.free=V.P.free∧V1.S.down=true∧PO w1 B D Gp V1 C K pk m):=(⟨k1,k2,k3,k4,k5⟩:St2 w w1 B V V1∧V1.P.pages=V.P.pages∧V1.P.free=V.P.free∧V1.S.down=true∧PO w1 B D Gp V1 C K pk m);clear k1 k2 k3 k4 k5 HU;go_wp2;go_ret;exact⟨V1,HK.out.1,HK.out.2.1,HK.out.2.2.1,.inr ⟨rfl,HK.out.2.2.2⟩⟩
theorem copened {V:PV}(h:PO w B D Gp V C K pk m)(hm:m≤50000)(n:Int)(n0:0≤n)(n1:n<V.P.pages)(hk:1≤kd∧kd≤5)(hl:lk≤2147483647)(hC:C n=some (pgB kd lk)):Calls Tryz.prog 74 #[(.pointer (some ⟨Gp,0,none⟩)),.int .i64 n] w fun e w'=>∃V',PO w' B D Gp V' C K pk m∧St2 w w' B V V'∧V'.P.pages=V.P.pages∧V'.P.free=V.P.free∧((∃a c,e=.returned (.tuple #[.agg #[.int .i64 kd,.int .i64 lk,.slice a 0 c],.int .i64 0]))∨(e=.returned (.tuple #[.agg #[.int .i64 0,.int .i64 0,.slice none 0 0],.int .i64 2])∧V'.S.down=true)):=by
 have hb:Below w.heap.size w (w.alloc (.cells #[.int .i64 0,.int .i64 0,.slice none 0 0] 123)):=((Below.refl _ _).alloc (Nat.le_refl _) _);obtain⟨h1,s1⟩:=h.below hb;have HU:=hide (cuse h1 hm n n0 n1);have HS1:Hid (St2 w (w.alloc (.cells #[.int .i64 0,.int .i64 0,.slice none 0 0] 123)) B V V):=s1;have HLO:Hid (B≤w.heap.size):=h.lo;have HX:Hid (Bx3 (w.alloc (.cells #[.int .i64 0,.int .i64 0,.slice none 0 0] 123)) w.heap.size (.int .i64 0) (.int .i64 0) (.slice none 0 0)):=Bx3.new _ _ _ _;have HH1:Hid (PO (w.alloc (.cells #[.int .i64 0,.int .i64 0,.slice none 0 0] 123)) B D Gp V C K pk m):=h1;clear h h1 s1 hb;go_enter Tryz.func74,Tryz.ntmps74;go_wp2_with fail
 refine HU.out.mono ?_;rintro e w1⟨V1,k1,k2,k3,k4,-,(⟨f,k5,k6,rfl⟩ | ⟨rfl,k5⟩)⟩
 ·obtain⟨f0,f1,f2,z0,z2,hlt⟩:=k1.pp.fcells k5;rw[hC] at k6;injection k6 with k6;rw[←k6] at f0;have HB1:Hid (Bx3 w1 w.heap.size (.int .i64 0) (.int .i64 0) (.slice none 0 0)):=HH1.out.stay k2 HX.out (by decide);have HP:Hid (PO w1 B D Gp V1 C K pk m):=k1;have HS:Hid (St2 w w1 B V V1):=HS1.out.trans k2;have HK:Hid (V1.P.pages=V.P.pages∧V1.P.free=V.P.free):=(⟨k3,k4⟩:V1.P.pages=V.P.pages∧V1.P.free=V.P.free);clear k1 k2 k3 k4 k5 k6 HU f1 f2 z0 z2;go_wp2_with fail
  refine(copenB hk hl _).mono ?_;rintro e w2⟨⟨a,c,rfl⟩,hb2⟩;have hX2:=HB1.out.below hb2;have x0:=hX2.c0;have x1:=hX2.c1;have x2:=hX2.c2;have y0:=hX2.fz 0;have y1:=hX2.fz 1;have y2:=hX2.fz 2;have hXlt:=hX2.lt;obtain⟨p2,s2⟩:=HP.out.below hb2;have hg:=grown_put w2 w.heap.size (.int .i64 kd) (.int .i64 lk) (.slice a 0 c);have HP3:Hid (PO (((w2.setCell ⟨w.heap.size,0,none⟩ (.int .i64 kd)).setCell ⟨w.heap.size,1,none⟩ (.int .i64 lk)).setCell ⟨w.heap.size,2,none⟩ (.slice a 0 c)) B D Gp V1 C K pk m):=p2.other hg ⟨_,hX2⟩ (by decide);have HS3:Hid (St2 w (((w2.setCell ⟨w.heap.size,0,none⟩ (.int .i64 kd)).setCell ⟨w.heap.size,1,none⟩ (.int .i64 lk)).setCell ⟨w.heap.size,2,none⟩ (.slice a 0 c)) B V V1):=(HS.out.trans s2).other hg (Nat.le_refl _) HLO.out;clear hb2 hX2 p2 s2 hg;go_wp2;exact bodyPost_ret (v:=.tuple #[.agg #[.int .i64 kd,.int .i64 lk,.slice a 0 c],.int .i64 0]) (by simp[results,Tryz.results74,go_sem, *]) rfl ⟨V1,HP3.out,HS3.out,HK.out.1,HK.out.2,.inl ⟨a,c,rfl⟩⟩
 ·have hX2:Bx3 w1 w.heap.size (.int .i64 0) (.int .i64 0) (.slice none 0 0):=HH1.out.stay k2 HX.out (by decide);have x0:=hX2.c0;have x1:=hX2.c1;have x2:=hX2.c2;have y0:=hX2.fz 0;have y1:=hX2.fz 1;have y2:=hX2.fz 2;have hXlt:=hX2.lt;have hg:=grown_put w1 w.heap.size (.int .i64 0) (.int .i64 0) (.slice none 0 0);have HP3:Hid (PO (((w1.setCell ⟨w.heap.size,0,none⟩ (.int .i64 0)).setCell ⟨w.heap.size,1,none⟩ (.int .i64 0)).setCell ⟨w.heap.size,2,none⟩ (.slice none 0 0)) B D Gp V1 C K pk m):=k1.other hg ⟨_,hX2⟩ (by decide);have HS3:Hid (St2 w (((w1.setCell ⟨w.heap.size,0,none⟩ (.int .i64 0)).setCell ⟨w.heap.size,1,none⟩ (.int .i64 0)).setCell ⟨w.heap.size,2,none⟩ (.slice none 0 0)) B V V1):=(HS1.out.trans k2).other hg (Nat.le_refl _) HLO.out;have HK:Hid (V1.P.pages=V.P.pages∧V1.P.free=V.P.free∧V1.S.down=true):=(⟨k3,k4,k5⟩:V1.P.pages=V.P.pages∧V1.P.free=V.P.free∧V1.S.down=true);clear k1 k2 k3 k4 k5 HU hX2 hg;go_wp2;exact bodyPost_ret (v:=.tuple #[.agg #[.int .i64 0,.int .i64 0,.slice none 0 0],.int .i64 2]) (by simp[results,Tryz.results74,go_sem, *]) rfl ⟨V1,HP3.out,HS3.out,HK.out.1,HK.out.2.1,.inr ⟨rfl,HK.out.2.2⟩⟩
theorem csealP {V:PV}(h:PO w B D Gp V C K pk m)(hm:m≤50000)(n:Int)(n0:0≤n)(n1:n<V.P.pages)(hk:1≤kd∧kd≤5)(hl:lk≤2147483647)(a:Option Addr)(c:Nat):Calls Tryz.prog 76 #[(.pointer (some ⟨Gp,0,none⟩)),.int .i64 n,.agg #[.int .i64 kd,.int .i64 lk,.slice a 0 c]] w fun e w'=>∃V',St2 w w' B V V'∧V'.P.pages=V.P.pages∧V'.P.free=V.P.free∧((e=.returned (.int .i64 0)∧PO w' B D Gp V' (wth C n (pgB kd lk)) K pk (m+1))∨(e=.returned (.int .i64 2)∧V'.S.down=true∧PO w' B D Gp V' C K pk m)):=by
 have HP:Hid (PO w B D Gp V C K pk m):=h;have HN:=hide (show 0≤n∧n<V.P.pages from⟨n0,n1⟩);have HB1:=hide (show Below w.heap.size w (w.alloc (.cells #[.int .i64 kd,.int .i64 lk,.slice a 0 c] 123)) from((Below.refl _ _).alloc (Nat.le_refl _) _));clear h;go_enter Tryz.func76,Tryz.ntmps76;go_wp2_with fail
 refine(csealB hk hl a c _).mono ?_;rintro e w1⟨rfl,hb1⟩;have hb2:Below w.heap.size w w1:=keepBelow HB1.out hb1;obtain⟨p1,s1⟩:=HP.out.below hb2;have HU:=hide (cput p1 hm n HN.out.1 HN.out.2 (pgB kd lk) (pgB_size _ _));have HS1:=hide (s1);clear hb1 hb2 p1 s1;go_wp2_with fail
 refine HU.out.mono ?_;rintro e w2⟨V1,k1,k2,k3,(⟨rfl,k4⟩ | ⟨rfl,k4,k5⟩)⟩
 ·have HK:=hide (show St2 w1 w2 B V V1∧V1.P.pages=V.P.pages∧V1.P.free=V.P.free∧PO w2 B D Gp V1 (wth C n (pgB kd lk)) K pk (m+1) from⟨k1,k2,k3,k4⟩);clear k1 k2 k3 k4 HU;go_wp2;go_ret;exact⟨V1,HS1.out.trans HK.out.1,HK.out.2.1,HK.out.2.2.1,.inl ⟨rfl,HK.out.2.2.2⟩⟩
 ·have HK:=hide (show St2 w1 w2 B V V1∧V1.P.pages=V.P.pages∧V1.P.free=V.P.free∧V1.S.down=true∧PO w2 B D Gp V1 C K pk m from⟨k1,k2,k3,k4,k5⟩);clear k1 k2 k3 k4 k5 HU;go_wp2;go_ret;exact⟨V1,HS1.out.trans HK.out.1,HK.out.2.1,HK.out.2.2.1,.inr ⟨rfl,HK.out.2.2.2⟩⟩
theorem csetFree {V:PV}(h:PO w B D Gp V C K pk m)(hm:m≤49000)(l:Nat)(hl:l≤2147483647){fr:Nat}(hf:fr≤2147483647)(hC:C 0=some (pgB 4 fr)):Calls Tryz.prog 75 #[(.pointer (some ⟨Gp,0,none⟩)),.int .i64 (l:Int)] w fun e w'=>∃V',St2 w w' B V V'∧V'.P.pages=V.P.pages∧((e=.returned (.int .i64 0)∧V'.P.free=l∧PO w' B D Gp V' (wth C 0 (pgB 4 l)) K pk (m+1))∨(e=.returned (.int .i64 2)∧V'.S.down=true∧PO w' B D Gp V' C K pk m)):=by
 have hpg:=h.pi.pg;have HO:=hide (copened h (by omega) 0 (by omega) (by omega) (kd:=4) (lk:=fr) ⟨by decide,by decide⟩ hf hC);have HPG:=hide (show 1≤V.P.pages by omega);clear h hpg;go_enter Tryz.func75,Tryz.ntmps75;go_wp2_with fail
 refine HO.out.mono ?_;rintro e w1⟨V1,k1,k2,k3,k4,(⟨a,c,rfl⟩ | ⟨rfl,k5⟩)⟩
 ·have HS1:=hide (k2);have HP1:=hide (k1);have HK:=hide (show V1.P.pages=V.P.pages from k3);have HU:=hide (fun(W:World) (hW:PO W B D Gp V1 C K pk m)=>csealP hW (by omega) 0 (by omega) (by have:=HPG.out;omega) (kd:=4) (lk:=l) ⟨by decide,by decide⟩ hl a c);clear k1 k2 k3 k4 HO;go_wp2_with fail
  refine(HU.out _ ?hPO).mono ?_
  case hPO=>exact(HP1.out.below (((Below.refl _ _).alloc (Nat.le_refl _) _))).1
  rintro e w2⟨V2,j1,j2,j3,(⟨rfl,j4⟩|⟨rfl,j4,j5⟩)⟩
  ·have HS2:Hid (St2 w w2 B V V2):=(HS1.out.trans (HP1.out.below (((Below.refl _ _).alloc (Nat.le_refl _) _))).2).trans j1;obtain⟨c0,c1,c2,c3,c4,c5,c6,c7,c8,c9⟩:=j4.pp.cells;have z3:=j4.pp.unfrozen 3;have HP3:Hid (PO (w2.setCell ⟨Gp,3,none⟩ (.int .i64 (l:Int))) B D Gp ⟨V2.b,{ V2.P with free:=l },V2.L,V2.S,V2.N⟩ (wth C 0 (pgB 4 l)) K pk (m+1)):=(⟨j4.pp.own rfl rfl rfl rfl,j4.pi.stat _ _ _ _,Nat.le_trans j4.lo (set_grown w2 Gp 3 _).size⟩:PO _ B D Gp ⟨V2.b,{ V2.P with free:=l },V2.L,V2.S,V2.N⟩ _ K pk (m+1));have HS3:Hid (St2 w (w2.setCell ⟨Gp,3,none⟩ (.int .i64 (l:Int))) B V ⟨V2.b,{ V2.P with free:=l },V2.L,V2.S,V2.N⟩):=HS2.out.trans (⟨j4.pp.own_bel 3 _ j4.lo,id⟩:St2 w2 _ B V2 ⟨V2.b,{ V2.P with free:=l },V2.L,V2.S,V2.N⟩);have HK2:=hide (show V2.P.pages=V.P.pages by rw[j2];exact HK.out);clear j1 j2 j3 j4 HU c0 c1 c2 c4 c5 c6 c7 c8 c9;go_wp2;go_ret;exact⟨_,HS3.out,HK2.out,.inl ⟨rfl,rfl,HP3.out⟩⟩
  ·have HS2:Hid (St2 w w2 B V V2):=(HS1.out.trans (HP1.out.below (((Below.refl _ _).alloc (Nat.le_refl _) _))).2).trans j1;have HK2:=hide (show V2.P.pages=V.P.pages∧V2.S.down=true∧PO w2 B D Gp V2 C K pk m from⟨by rw[j2];exact HK.out,j4,j5⟩);clear j1 j2 j3 j4 j5 HU;go_wp2;go_ret;exact⟨_,HS2.out,HK2.out.1,.inr ⟨rfl,HK2.out.2⟩⟩
 ·have HS1:=hide (k2);have HP1:=hide (k1);have HK:=hide (show V1.P.pages=V.P.pages∧V1.S.down=true from⟨k3,k5⟩);clear k1 k2 k3 k4 k5 HO;go_wp2;go_ret;exact⟨V1,HS1.out.trans (HP1.out.below (((Below.refl _ _).alloc (Nat.le_refl _) _))).2,HK.out.1,.inr ⟨rfl,HK.out.2,(HP1.out.below (((Below.refl _ _).alloc (Nat.le_refl _) _))).1⟩⟩
theorem cfree {V:PV}(h:PO w B D Gp V C K pk m)(hm:m≤48000)(n:Nat)(n0:0<n)(n1:n<V.P.pages)(hf:V.P.free≤2147483647)(hC:C 0=some (pgB 4 V.P.free)):Calls Tryz.prog 39 #[(.pointer (some ⟨Gp,0,none⟩)),.int .i64 (n:Int)] w fun e w'=>∃V' C',St2 w w' B V V'∧V'.P.pages=V.P.pages∧PO w' B D Gp V' C' K pk (m+2)∧((e=.returned (.int .i64 0)∧V'.P.free=n∧C'=wth (wth C n (pgB 3 V.P.free)) 0 (pgB 4 n))∨(e=.returned (.int .i64 2)∧V'.S.down=true)):=by
 have hpg:=h.pi.pg;have HU:=hide (csealP h (by omega) n (by omega) (by omega) (kd:=3) (lk:=V.P.free) ⟨by decide,by decide⟩ hf none 0);obtain⟨c0,c1,c2,c3,c4,c5,c6,c7,c8,c9⟩:=h.pp.cells;have hn0:¬(n:Int)=0:=by omega
 have hn1:((n:Int) == 0)=false:=by simp;omega
 have HN:=hide (show 0<n∧n<V.P.pages∧V.P.pages≤59000 from⟨n0,n1,hpg.2.2⟩);have HC:=hide (hC);clear h hpg c0 c1 c2 c4 c5 c6 c7 c8 c9 hC n0 n1;go_enter Tryz.func39,Tryz.ntmps39;go_wp2_with fail
 refine HU.out.mono ?_;rintro e w1⟨V1,k1,k2,k3,(⟨rfl,k4⟩ | ⟨rfl,k4,k5⟩)⟩
 ·have HS1:=hide (k1);have HK:=hide (show V1.P.pages=V.P.pages from k2);have hq:=HN.out;have HF:=hide (csetFree k4 (by omega) n (by omega) (fr:=V.P.free) hf (by rw[wth_ne _ _ (by omega)];exact HC.out));clear k1 k2 k3 k4 HU hq c3;go_wp2_with fail
  refine HF.out.mono ?_;rintro e w2⟨V2,j1,j2,(⟨rfl,j3,j4⟩ | ⟨rfl,j3,j4⟩)⟩
  ·have HR:=hide (show St2 w w2 B V V2∧V2.P.pages=V.P.pages∧V2.P.free=n∧PO w2 B D Gp V2 (wth (wth C n (pgB 3 V.P.free)) 0 (pgB 4 n)) K pk (m+2) from⟨HS1.out.trans j1,by rw[j2];exact HK.out,j3,j4⟩);clear j1 j2 j3 j4 HF;go_wp2;go_ret;exact⟨V2,_,HR.out.1,HR.out.2.1,HR.out.2.2.2,.inl ⟨rfl,HR.out.2.2.1,rfl⟩⟩
  ·have HR:=hide (show St2 w w2 B V V2∧V2.P.pages=V.P.pages∧V2.S.down=true∧PO w2 B D Gp V2 (wth C n (pgB 3 V.P.free)) K pk (m+2) from⟨HS1.out.trans j1,by rw[j2];exact HK.out,j3,j4.mono (by omega)⟩);clear j1 j2 j3 j4 HF;go_wp2;go_ret;exact⟨V2,_,HR.out.1,HR.out.2.1,HR.out.2.2.2,.inr ⟨rfl,HR.out.2.2.1⟩⟩
 ·have HR:=hide (show St2 w w1 B V V1∧V1.P.pages=V.P.pages∧V1.S.down=true∧PO w1 B D Gp V1 C K pk (m+2) from⟨k1,k2,k4,k5.mono (by omega)⟩);clear k1 k2 k3 k4 k5 HU;go_wp2;go_ret;exact⟨V1,_,HR.out.1,HR.out.2.1,HR.out.2.2.2,.inr ⟨rfl,HR.out.2.2.1⟩⟩
theorem updR_updR (F:Int→Option FrP)(n:Int)(x y:FrP):updR (updR F n x) n y=updR F n y:=by
 funext k;unfold updR;split<;>rfl
theorem poolC_pages (b:Bk)(P:PS):(poolC b P).setIfInBounds 2 (.int .i64 ((P.pages:Int)+1))=poolC b { P with pages:=P.pages+1 }:=by
 unfold poolC;simp
theorem cgrow {V:PV}(h:PO w B D Gp V C K pk m)(hm:m≤49000)(hp:V.P.pages<59000):Calls Tryz.prog 73 #[(.pointer (some ⟨Gp,0,none⟩))] w fun e w'=>∃V',St2 w w' B V V'∧V'.P.free=V.P.free∧((e=.returned (.tuple #[.int .i64 (V.P.pages:Int),.int .i64 0])∧V'.P.pages=V.P.pages+1∧PO w' B D Gp V' (wth C V.P.pages (pgB 3 0)) K pk (m+1))∨(e=.returned (.tuple #[.int .i64 0,.int .i64 2])∧V'.S.down=true∧PO w' B D Gp V' C K pk m)):=by
 obtain⟨c0,c1,c2,c3,c4,c5,c6,c7,c8,c9⟩:=h.pp.cells;have hlt:¬(65536:Int)≤(V.P.pages:Int):=by omega
 have HP:=hide (h);clear h c0 c1 c3 c4 c5 c6 c7 c8 c9;go_enter Tryz.func73,Tryz.ntmps73;go_wp2_with fail
 refine(csealB (K:=3) (Lk:=0) ⟨by decide,by decide⟩ (by decide) none 0 _).mono ?_;rintro e w1⟨rfl,hb1⟩;obtain⟨p1,s1⟩:=HP.out.below hb1;have HS1:=hide (s1);have HM:=hide (cmakeRoom p1 (by omega));clear p1 s1 hb1 c2 hlt;go_wp2_with fail
 refine HM.out.mono ?_;rintro e w2⟨V1,k1,k2,k3,k4,k5,k6,(⟨rfl,k7⟩ | ⟨rfl,k7⟩)⟩
 ·obtain⟨c0,c1,c2,c3,c4,c5,c6,c7,c8,c9⟩:=k1.pp.cells;have z2:=k1.pp.unfrozen 2;have hw:wrap64 ((V1.P.pages:Int)+1)=(V1.P.pages:Int)+1:=by
   unfold wrap64;have:=k1.pi.pg;omega
  have hmo:=k1.pi.most;have hch:=k1.pi.pg;have h3:PP (w2.setCell ⟨Gp,2,none⟩ (.int .i64 ((V1.P.pages:Int)+1))) B D Gp V1.b { V1.P with pages:=V1.P.pages+1 } V1.L V1.S:=k1.pp.own (poolC_pages _ _) rfl rfl rfl;have hb3:=k1.pp.own_bel 2 (.int .i64 ((V1.P.pages:Int)+1)) k1.lo;have hfn:V1.P.fs (V1.P.pages:Int)=none:=by
   cases hq:V1.P.fs (V1.P.pages:Int) with
   | none=>rfl
   | some f=>have:=(k1.pi.held hq).2.2.1;omega
  have hi64:i64 (V1.P.pages:Int):=i64_in (by omega) (by omega);have HH:=hide (chold (V1.P.pages:Int) (pgB 3 0) h3 (Nat.le_trans k1.lo hb3.size) hi64 (by show V1.P.order.length≤63;omega) (fun x hx=>(k1.pi.keys x).2 hx) hfn);have HP1:=hide (k1);have HS2:=hide (HS1.out.trans k2);have HB3:=hide (hb3);have HK:=hide (show V1.P.pages=V.P.pages∧V1.P.free=V.P.free∧V1.P.order.length<V1.P.most∧i64 (V1.P.pages:Int)∧V1.P.pages<59000 from⟨k3,k4,k7,hi64,by omega⟩);clear k1 k2 k3 k4 k5 k6 k7 HM h3 hb3 hfn hi64 c0 c1 c3 c4 c5 c6 c7 c8 c9 hmo hch HS1;generalize hW3:w2.setCell ⟨Gp,2,none⟩ (.int .i64 ((V1.P.pages:Int)+1))=w3 at *;go_wp2_with fail
  refine HH.out.mono ?_;rintro e w4⟨v,rfl,q1,q2⟩;have hbd:=HK.out;have HCH:=hide (cchange (V1.P.pages:Int) ⟨w3.heap.size,pgB 3 0,false⟩ (pgB 3 0) q1 (updR_at _ _ _) (Nat.le_trans HP1.out.lo (Nat.le_trans HB3.out.size q2.size)) hbd.2.2.2.1 HP1.out.chs);have HQ2:=hide (q2);clear q1 q2 HH hbd;go_wp2_with fail
  refine HCH.out.mono ?_;rintro e w5⟨rfl,q1,q2⟩;have HQ1:=hide (q1);have HQ3:=hide (q2);clear q1 q2 HCH;go_wp2
  go_ret2
  have hk:=HK.out;refine⟨⟨{ V1.b with vo:=v },chP { V1.P with pages:=V1.P.pages+1,fs:=updR V1.P.fs (V1.P.pages:Int) ⟨w3.heap.size,pgB 3 0,false⟩,order:=V1.P.order++[(V1.P.pages:Int)]} (V1.P.pages:Int) w3.heap.size (pgB 3 0),V1.L,V1.S,V1.N⟩,HS2.out.trans ⟨HB3.out.trans (HQ2.out.trans HQ3.out),id⟩,hk.2.1,.inl ⟨by rw[hk.1];rfl,by show V1.P.pages+1=_;rw[hk.1],⟨HQ1.out,?_,Nat.le_trans HP1.out.lo (Nat.le_trans HB3.out.size (Nat.le_trans HQ2.out.size HQ3.out.size))⟩⟩⟩;have hpi:=HP1.out.pi.grow (s:=pgB 3 0) w3.heap.size (pgB_size _ _) hk.2.2.1 hk.2.2.2.2;rw[←hk.1];unfold chP
  dsimp only
  rw[updR_updR];exact hpi
 ·have HK:=hide (show St2 w w2 B V V1∧V1.P.free=V.P.free∧V1.S.down=true∧PO w2 B D Gp V1 C K pk m from⟨HS1.out.trans k2,k4,k7,k1⟩);clear k1 k2 k3 k4 k5 k6 k7 HM;go_wp2
  go_ret2
  exact⟨V1,HK.out.1,HK.out.2.1,.inr ⟨rfl,HK.out.2.2⟩⟩
theorem calloc_new {V:PV}(h:PO w B D Gp V C K pk m)(hm:m≤49000)(hp:V.P.pages<59000)(hf:V.P.free=0):Calls Tryz.prog 34 #[(.pointer (some ⟨Gp,0,none⟩))] w fun e w'=>∃V',St2 w w' B V V'∧V'.P.free=V.P.free∧((e=.returned (.tuple #[.int .i64 (V.P.pages:Int),.int .i64 0])∧V'.P.pages=V.P.pages+1∧PO w' B D Gp V' (wth C V.P.pages (pgB 3 0)) K pk (m+1))∨(e=.returned (.tuple #[.int .i64 0,.int .i64 2])∧V'.S.down=true∧PO w' B D Gp V' C K pk m)):=by
 obtain⟨c0,c1,c2,c3,c4,c5,c6,c7,c8,c9⟩:=h.pp.cells;rw[hf] at c3;have HG:=hide (cgrow h hm hp);clear h c0 c1 c2 c4 c5 c6 c7 c8 c9;go_enter Tryz.func34,Tryz.ntmps34;go_wp2_with fail
 refine HG.out.mono ?_;rintro e w1⟨V1,k1,k2,(⟨rfl,k3,k4⟩ | ⟨rfl,k3,k4⟩)⟩
 ·have HK:=hide (show St2 w w1 B V V1∧V1.P.free=V.P.free∧V1.P.pages=V.P.pages+1∧PO w1 B D Gp V1 (wth C V.P.pages (pgB 3 0)) K pk (m+1) from⟨k1,k2,k3,k4⟩);clear k1 k2 k3 k4 HG;go_wp2
  go_ret2
  exact⟨V1,HK.out.1,HK.out.2.1,.inl ⟨rfl,HK.out.2.2⟩⟩
 ·have HK:=hide (show St2 w w1 B V V1∧V1.P.free=V.P.free∧V1.S.down=true∧PO w1 B D Gp V1 C K pk m from⟨k1,k2,k3,k4⟩);clear k1 k2 k3 k4 HG;go_wp2
  go_ret2
  exact⟨V1,HK.out.1,HK.out.2.1,.inr ⟨rfl,HK.out.2.2⟩⟩
theorem calloc_old {V:PV}(h:PO w B D Gp V C K pk m)(hm:m≤48000)(h0:0<V.P.free)(h1:V.P.free<V.P.pages){nx:Nat}(hn:nx≤2147483647)(hC:C V.P.free=some (pgB 3 nx))(hC0:C 0=some (pgB 4 V.P.free)):Calls Tryz.prog 34 #[(.pointer (some ⟨Gp,0,none⟩))] w fun e w'=>∃V' C',St2 w w' B V V'∧V'.P.pages=V.P.pages∧PO w' B D Gp V' C' K pk (m+2)∧((e=.returned (.tuple #[.int .i64 (V.P.free:Int),.int .i64 0])∧V'.P.free=nx∧C'=wth (wth C 0 (pgB 4 nx)) V.P.free (pgB 3 0))∨(e=.returned (.tuple #[.int .i64 0,.int .i64 2])∧V'.S.down=true)):=by
 obtain⟨c0,c1,c2,c3,c4,c5,c6,c7,c8,c9⟩:=h.pp.cells;have hpg:=h.pi.pg;have hf0:¬(V.P.free:Int)=0:=by omega
 have hf1:((V.P.free:Int) == 0)=false:=by simp;omega
 have HO:=hide (copened h (by omega) (V.P.free:Int) (by omega) (by omega) (kd:=3) (lk:=nx) ⟨by decide,by decide⟩ hn hC);have HN:=hide (show 0<V.P.free∧V.P.free<V.P.pages∧V.P.pages≤59000 from⟨h0,h1,hpg.2.2⟩);have HC0:=hide (hC0);have HLO:=hide (h.lo);clear h hpg c0 c1 c2 c4 c5 c6 c7 c8 c9 hC hC0 h0 h1;go_enter Tryz.func34,Tryz.ntmps34;go_wp2_with fail
 refine HO.out.mono ?_;rintro e w1⟨V1,k1,k2,k3,k4,(⟨a,c,rfl⟩ | ⟨rfl,k5⟩)⟩
 ·have HS1:=hide (k2);have HP1:=hide (k1);have HK:=hide (show V1.P.pages=V.P.pages∧V1.P.free=V.P.free from⟨k3,k4⟩);have hq:=HN.out;have HU:=hide (fun(W:World) (hW:PO W B D Gp V1 C K pk m)=>csetFree hW (by omega) nx hn (fr:=V.P.free) (by omega) HC0.out);clear k1 k2 k3 k4 HO c3;go_wp2_with fail
  refine(HU.out _ ?hPO).mono ?_
  case hPO=>exact(HP1.out.below (((Below.refl _ _).alloc (Nat.le_refl _) _))).1
  rintro e w2⟨V2,j1,j2,(⟨rfl,j3,j4⟩|⟨rfl,j3,j4⟩)⟩
  ·have hX:Bx3 w2 w1.heap.size (.int .i64 3) (.int .i64 nx) (.slice a 0 c):=(HP1.out.below (((Below.refl _ _).alloc (Nat.le_refl _) _))).1.stay j1 (Bx3.new _ _ _ _) (by decide);have x0:=hX.c0;have x1:=hX.c1;have x2:=hX.c2;have y1:=hX.fz 1;have y2:=hX.fz 2;have hXlt:=hX.lt;have HX:=hide (hX);have HP2:=hide (j4);have hle:=HS1.out.bel.size;have HS2:Hid (St2 w w2 B V V2):=(HS1.out.trans (HP1.out.below (((Below.refl _ _).alloc (Nat.le_refl _) _))).2).trans j1;have HK2:=hide (show V2.P.pages=V.P.pages∧V2.P.free=nx from⟨by rw[j2];exact HK.out.1,j3⟩);have HU2:=hide (fun(W:World) (hW:PO W B D Gp V2 (wth C 0 (pgB 4 nx)) K pk (m+1))=>csealP hW (by omega) (V.P.free:Int) (by omega) (by have:=HK2.out.1;omega) (kd:=3) (lk:=0) ⟨by decide,by decide⟩ (by decide) none 0);clear j1 j2 j3 j4 HU hX;go_wp2_with fail
   refine(HU2.out _ ?hPO).mono ?_
   case hPO=>exact HP2.out.other (c:=w1.heap.size) (((But.refl _ _).set 1 _).set 2 _) ⟨_,HX.out⟩ (by decide)
   rintro e w3⟨V3,l1,l2,l3,(⟨rfl,l4⟩|⟨rfl,l4,l5⟩)⟩
   ·have HR:=hide (show St2 w w3 B V V3∧V3.P.pages=V.P.pages∧V3.P.free=nx∧PO w3 B D Gp V3 (wth (wth C 0 (pgB 4 nx)) V.P.free (pgB 3 0)) K pk (m+2) from⟨(HS2.out.other (c:=w1.heap.size) (((But.refl _ _).set 1 _).set 2 _) hle HLO.out).trans l1,by rw[l2];exact HK2.out.1,by rw[l3];exact HK2.out.2,l4⟩);clear l1 l2 l3 l4 HU2;go_wp2
    go_ret2
    exact⟨V3,_,HR.out.1,HR.out.2.1,HR.out.2.2.2,.inl ⟨rfl,HR.out.2.2.1,rfl⟩⟩
   ·have HR:=hide (show St2 w w3 B V V3∧V3.P.pages=V.P.pages∧V3.S.down=true∧PO w3 B D Gp V3 (wth C 0 (pgB 4 nx)) K pk (m+2) from⟨(HS2.out.other (c:=w1.heap.size) (((But.refl _ _).set 1 _).set 2 _) hle HLO.out).trans l1,by rw[l2];exact HK2.out.1,l4,l5.mono (by omega)⟩);clear l1 l2 l3 l4 l5 HU2;go_wp2
    go_ret2
    exact⟨V3,_,HR.out.1,HR.out.2.1,HR.out.2.2.2,.inr ⟨rfl,HR.out.2.2.1⟩⟩
  ·have HR:=hide (show St2 w w2 B V V2∧V2.P.pages=V.P.pages∧V2.S.down=true∧PO w2 B D Gp V2 C K pk (m+2) from⟨(HS1.out.trans (HP1.out.below (((Below.refl _ _).alloc (Nat.le_refl _) _))).2).trans j1,by rw[j2];exact HK.out.1,j3,j4.mono (by omega)⟩);clear j1 j2 j3 j4 HU;go_wp2
   go_ret2
   exact⟨V2,_,HR.out.1,HR.out.2.1,HR.out.2.2.2,.inr ⟨rfl,HR.out.2.2.1⟩⟩
 ·have HP1:=hide (k1);have HR:=hide (show St2 w w1 B V V1∧V1.P.pages=V.P.pages∧V1.S.down=true from⟨k2,k3,k5⟩);clear k1 k2 k3 k4 k5 HO;go_wp2
  go_ret2
  exact⟨V1,C,HR.out.1.trans (HP1.out.below (((Below.refl _ _).alloc (Nat.le_refl _) _))).2,HR.out.2.1,((HP1.out.below (((Below.refl _ _).alloc (Nat.le_refl _) _))).1).mono (by omega),.inr ⟨rfl,HR.out.2.2⟩⟩
end Go.Proofs.YtfjkockcgddgbaaGreat
