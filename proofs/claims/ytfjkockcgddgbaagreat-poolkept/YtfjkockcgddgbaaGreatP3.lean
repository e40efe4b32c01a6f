/- a part -/
import Derived.Test.YtfjkockcgddgbaaGreatP2
import Derived.BigRegion
set_option maxRecDepth 100000
set_option maxHeartbeats 8000000
namespace Go.Proofs.YtfjkockcgddgbaaGreat
open Go.RowKit Go.Lib
variable {B G bp bf b D n m k r cnt:Nat}{X Y Z w:World}{S:DS}{F:Int→Option Int}{v:Value}{T:TypeId→Bool}{t:TypeId}{left:Lit→Bool}
attribute [local go_sem ↓] Go.wp_at_zero Go.wp_at_succ
structure LS where
 last:Cm
 fr:Nat
 pl:Int→Option Int
 fh:Int→Option Int
def logC (D bp bf:Nat)(L:LS):Array Value:=#[(.pointer (some ⟨D,0,none⟩)),.int .i64 L.last.slot,.int .i64 L.last.number,.int .i64 L.last.frames,.int .i64 L.last.pages,.int .i64 L.fr,.map (some bp),.map (some bf)]
structure PL (X:World) (B D G bp bf n:Nat) (L:LS) (S:DS):Prop where
 blk:X.heap[G]?=some (.cells (logC D bp bf L) 96 (0,0))
 low:B≤G∧B≤bp∧B≤bf
 dif:¬bp=bf
 mp:MI X bp n L.pl
 mf:MI X bf n L.fh
 dsk:PDs X B D S
structure BelL (G bp bf B:Nat) (X Y:World):Prop extends Below B X Y where
 far:∀b,b<X.heap.size→farT tyP X b→¬b=G→¬b=bp→¬b=bf→Y.heap[b]?=X.heap[b]?
theorem BelT.log (h:BelT tyP B X Y)(G bp bf:Nat):BelL G bp bf B X Y:=⟨h.toBelow,fun b hb hf _ _ _=>h.far b hb hf⟩
theorem BelL.refl (G bp bf B:Nat)(X:World):BelL G bp bf B X X:=⟨Below.refl _ _,fun _ _ _ _ _ _=>rfl⟩
theorem BelL.trans (h:BelL G bp bf B X Y)(k:BelL G bp bf B Y Z):BelL G bp bf B X Z:=
 ⟨h.toBelow.trans k.toBelow,fun b hb hf h1 h2 h3=>by
  have e:=h.far b hb hf h1 h2 h3;exact(k.far b (Nat.lt_of_lt_of_le hb h.size) (hf.of e) h1 h2 h3).trans e⟩
theorem below_log (h:Below X.heap.size X Y)(hB:B≤X.heap.size)(G bp bf:Nat):BelL G bp bf B X Y:=⟨h.mono hB,fun b hb _ _ _ _=>h.block b hb⟩
theorem grown_log (h:X.grownBy Y (some b))(hB:B≤X.heap.size)(hb:b=G∨b=bp∨b=bf)(hl:B≤b):BelL G bp bf B X Y:=
 ⟨⟨h.os,h.tape,h.output,h.size,fun i hi=>h.block i (Nat.lt_of_lt_of_le hi hB) (fun e=>by injection e with e;omega)⟩,fun i hi _ h1 h2 h3=>h.block i hi (fun e=>by injection e with e;subst e;rcases hb with rfl | rfl | rfl;exact h1 rfl;exact h2 rfl;exact h3 rfl)⟩
theorem PL.lt {L:LS}(h:PL X B D G bp bf n L S):G<X.heap.size:=(Array.getElem?_eq_some_iff.1 h.blk).1
theorem PL.farG {L:LS}(h:PL X B D G bp bf n L S):farT tyP X G:=fun cur e fz he=>by
 rw[h.blk] at he;injection he with he;injection he with _ h2 _;rw[←h2]
 decide
theorem PL.ne {L:LS}(h:PL X B D G bp bf n L S):¬bp=G∧¬bf=G∧¬D=G∧¬D=bp∧¬D=bf:=by
 obtain⟨e1,c1,h1⟩:=h.mp.isMap;obtain⟨e2,c2,h2⟩:=h.mf.isMap;have hD:=h.dsk.nf;refine⟨fun e=>?_,fun e=>?_,fun e=>?_,fun e=>?_,fun e=>?_⟩
 ·subst e;rw[h.blk] at h1;cases h1
 ·subst e;rw[h.blk] at h2;cases h2
 ·subst e;exact hD h.farG
 ·subst e;exact hD (h.mp.far _)
 ·subst e;exact hD (h.mf.far _)
theorem PL.mono {L:LS}(h:PL X B D G bp bf n L S)(hm:n≤m:=by omega):PL X B D G bp bf m L S:=⟨h.blk,h.low,h.dif,h.mp.mono hm,h.mf.mono hm,h.dsk⟩
theorem PL.disk {L:LS}{S':DS}(h:PL X B D G bp bf n L S)(hb:BelT tyP B X Y)(hd:PDs Y B D S'):PL Y B D G bp bf n L S':=
 ⟨(hb.far G h.lt h.farG).trans h.blk,h.low,h.dif,h.mp.keep (hb.far _ h.mp.lt (h.mp.far _)),h.mf.keep (hb.far _ h.mf.lt (h.mf.far _)),hd⟩
theorem PL.below {L:LS}(h:PL X B D G bp bf n L S)(hb:Below X.heap.size X Y):PL Y B D G bp bf n L S:=
 ⟨(hb.block G h.lt).trans h.blk,h.low,h.dif,h.mp.keep (hb.block _ h.mp.lt),h.mf.keep (hb.block _ h.mf.lt),h.dsk.below hb⟩
theorem PL.cells {L:LS}(h:PL X B D G bp bf n L S):X.cell? ⟨G,0,none⟩=some (.pointer (some ⟨D,0,none⟩))∧X.cell? ⟨G,1,none⟩=some (.int .i64 L.last.slot)∧X.cell? ⟨G,2,none⟩=some (.int .i64 L.last.number)∧X.cell? ⟨G,3,none⟩=some (.int .i64 L.last.frames)∧X.cell? ⟨G,4,none⟩=some (.int .i64 L.last.pages)∧X.cell? ⟨G,5,none⟩=some (.int .i64 L.fr)∧X.cell? ⟨G,6,none⟩=some (.map (some bp))∧X.cell? ⟨G,7,none⟩=some (.map (some bf)):=by
 refine⟨?_,?_,?_,?_,?_,?_,?_,?_⟩<;>simp[World.cell?,h.blk,logC]
theorem PL.unfrozen {L:LS}(h:PL X B D G bp bf n L S)(k:Nat):X.frozen? ⟨G,k,none⟩=false:=by simp[World.frozen?,h.blk]
theorem PDs.grown (h:PDs X B D S)(hg:X.grownBy Y (some b))(hf:farT tyP X b):PDs Y B D S:=by
 obtain⟨vb,vw,h⟩:=h;have hne:∀(e:TypeId) (size:Nat) (v:Value) (n:Nat) (xs:List Value),tyP e=true→X.ownsRow B e size v n xs→∀g,v.ownBlock=some g→Y.heap[g]?=X.heap[g]?:=fun e size v n xs he ho g hg'=>by
  have:=row_nf he ho g hg';refine hg.block g (World.ownsRow.lt ho g hg').2 (fun e=>?_);injection e with e;subst e;exact this.2 hf
 refine⟨vb,vw,⟨(hg.block D h.lt (fun e=>?_)).trans h.blk,h.low,fun i hi=>row_keep (h.rows i hi) (hne _ _ _ _ _ (by decide) (h.rows i hi)),row_keep h.wrow (hne _ _ _ _ _ (by decide) h.wrow),h.dif,h.size,h.oks⟩⟩;injection e with e;subst e;exact h.nf hf
theorem PL.fresh {L:LS}(h:PL X B D G bp bf n L S)(hg:X.grownBy Y (some bf))(hF:MI Y bf m F)(hm:n≤m):PL Y B D G bp bf m { L with fh:=F } S:=by
 obtain⟨n1,n2,n3,n4,n5⟩:=h.ne;refine⟨(hg.block G h.lt (fun e=>?_)).trans h.blk,h.low,h.dif,(h.mp.keep (hg.block _ h.mp.lt (fun e=>?_))).mono hm,hF,h.dsk.grown hg (h.mf.far _)⟩
 ·injection e with e;exact n2 e.symm
 ·injection e with e;exact h.dif e
theorem PL.own {L L':LS}(h:PL X B D G bp bf n L S)(he:(logC D bp bf L).setIfInBounds k v=logC D bp bf L')(hp:L'.pl=L.pl)(hf:L'.fh=L.fh):PL (X.setCell ⟨G,k,none⟩ v) B D G bp bf n L' S:=by
 obtain⟨n1,n2,n3,n4,n5⟩:=h.ne;have hg:=set_grown X G k v;refine⟨by rw[set_blk h.blk,he],h.low,h.dif,?_,?_,h.dsk.grown hg h.farG⟩
 ·rw[hp];exact h.mp.keep (hg.block _ h.mp.lt (fun e=>by injection e with e;exact n1 e))
 ·rw[hf];exact h.mf.keep (hg.block _ h.mf.lt (fun e=>by injection e with e;exact n2 e))
def apL (L:LS)(S:DS)(n:Int)(t:ByteArray):Int×LS×DS:=
 if ¬(isPg n=true∧t.size=1024) then(1,L,S)
 else if 67108864<64+1028*(L.fr+1) then(8,L,S)
 else if(opD S 1 (64+1028*(L.fr:Int)) (fourB n.toNat++t) false).1=0 then(0,{ L with fh:=updM L.fh n L.fr,fr:=L.fr+1 },(opD S 1 (64+1028*(L.fr:Int)) (fourB n.toNat++t) false).2)
 else((opD S 1 (64+1028*(L.fr:Int)) (fourB n.toNat++t) false).1,L,(opD S 1 (64+1028*(L.fr:Int)) (fourB n.toNat++t) false).2)
theorem undrewB {w1:World}(h:Below w.drew.heap.size w.drew w1):Below w.heap.size w w1:=⟨h.os,h.tape,h.output,h.size,h.block⟩
theorem cappend0 (n:Nat)(t:ByteArray)(X:World)(B D G bp bf m k:Nat)(L:LS)(S:DS)(h:PL X B D G bp bf m L S)(hB:B≤X.heap.size)(hm:m≤900000)(ho:okS S k)(hk:k≤900000)(hf:L.fr≤65536)(h1:isPg n=true)(hts:t.size=1024)(h2:¬67108864<64+1028*(L.fr+1))(r:Int)(S2:DS)(hop:opD S 1 (64+1028*(L.fr:Int)) (fourB n++t) false=(r,S2)):Calls Tryz.prog 13 #[(.pointer (some ⟨G,0,none⟩)),.int .i64 n,.string t] X fun e w'=>e=.returned (.int .i64 r)∧PL w' B D G bp bf (m+1) (if r=0 then{ L with fh:=updM L.fh n L.fr,fr:=L.fr+1 } else L) S2∧BelL G bp bf B X w':=by
 obtain⟨c0,c1,c2,c3,c4,c5,c6,c7⟩:=h.cells;clear c1 c2 c3 c4;have HI:Hid (isPg n=true):=h1;have HP:Hid (PL X B D G bp bf m L S):=h;have hG:G<X.heap.size:=h.lt;have HO:Hid (okS S k∧k≤1000000):=(⟨ho,by omega⟩:okS S k∧k≤1000000);have HOP:Hid _:=hop;have HB0:Hid (B≤X.heap.size):=hB;have i1:(64:Int)+1028*((L.fr:Int)+1)≤67108864:=by omega
 have f0:Hid ((0:Int)≤(L.fr:Int)):=(by omega:(0:Int)≤(L.fr:Int));have f1:Hid ((L.fr:Int)≤4294967296):=(by omega:(L.fr:Int)≤4294967296);have s4:=fourB_size n;have HN:Hid ((n:Int)≤9223372036854775807):=by
  have:=of_decide_eq_true h1;show(n:Int)≤9223372036854775807;omega
 clear h ho hk h1 h2 hop hB;go_enter Tryz.func13,Tryz.ntmps13;go_wp2_with fail
 refine(cisPage n _).mono ?_;rintro e w1⟨rfl,hw⟩;rw[hw];clear hw;rw[HI.out];go_wp2_with fail
 refine(cframeAt _ _ (by omega) (by omega)).mono ?_;rintro e w2⟨rfl,hw⟩;rw[hw];clear hw;obtain⟨q,hq⟩:∃q,q=64+1028*((L.fr:Int)+1):=⟨_,rfl⟩;rw[←hq] at i1 ⊢;have j1:decide (67108864<q)=false:=decide_eq_false (by omega);clear hq i1;go_wp2_with fail
 go_region_with (first | (go_at_call 57;refine(cframeAt _ _ f0.out f1.out).mono ?_;rintro e w3⟨rfl,hw⟩;rw[hw];clear hw) | (go_at_call 59;refine(cfour n _).mono ?_;rintro e w4⟨rfl,hb4⟩;have HX4:Hid (Below X.heap.size X w4):=undrewB hb4;obtain⟨hc4,hf4⟩:=bcell HX4.out;clear hb4) | (go_at_call 58;refine(cwriteD 1 (64+1028*(L.fr:Int)) (fourB n++t) _ B D S k (HP.out.dsk.below HX4.out) (Nat.le_trans HB0.out HX4.out.size) HO.out.1 HO.out.2).mono ?_;rw[HOP.out];rintro e w5⟨rfl,hp5,hb5⟩))
 all_goals
  have HL5:Hid (PL w5 B D G bp bf m L S2):=(HP.out.below HX4.out).disk hb5 hp5;have HF5:Hid (BelL G bp bf B X w5):=(below_log HX4.out HB0.out G bp bf).trans (hb5.log G bp bf);clear hp5 hb5 HX4 hc4 hf4;by_cases hr:r=0
  ·subst hr;have hL5:=HL5.out.below ((Below.refl _ _).drew);obtain⟨Y,hrun,hMI,hgY⟩:=hL5.mf.put (by omega) (x:=(n:Int)) (v:=(L.fr:Int)) (i64_in (by omega) HN.out) (i64_in (by omega) (by omega));have HY:Hid (PL Y B D G bp bf (m+1) { L with fh:=updM L.fh n L.fr } S2):=hL5.fresh hgY hMI (by omega);have HFY:Hid (BelL G bp bf B X Y):=(HF5.out.trans (below_log ((Below.refl _ _).drew) (Nat.le_trans HB0.out HF5.out.size) G bp bf)).trans (grown_log hgY (Nat.le_trans HB0.out HF5.out.size) (.inr (.inr rfl)) HL5.out.low.2.2);obtain⟨d0,d1,d2,d3,d4,d5,d6,d7⟩:=HL5.out.cells;obtain⟨y0,y1,y2,y3,y4,y5,y6,y7⟩:=HY.out.cells;have yf:=HY.out.unfrozen 5;have HZ:Hid (PL (Y.setCell ⟨G,5,none⟩ (.int .i64 ((L.fr:Int)+1))) B D G bp bf (m+1) { L with fh:=updM L.fh n L.fr,fr:=L.fr+1 } S2):=HY.out.own rfl rfl rfl;have HFZ:Hid (BelL G bp bf B X (Y.setCell ⟨G,5,none⟩ (.int .i64 ((L.fr:Int)+1)))):=HFY.out.trans (grown_log (set_grown _ _ _ _) (Nat.le_trans HB0.out HFY.out.size) (.inl rfl) HL5.out.low.1);clear d1 d2 d3 d4 y1 y2 y3 y4 hMI hgY hL5;go_wp2_with fail
   go_region
   all_goals
    go_wp2;go_ret;exact⟨rfl,HZ.out,HFZ.out⟩
  ·have hr':(r == 0)=false:=by simpa using hr
   go_wp2;go_ret;exact⟨rfl,HL5.out.mono,HF5.out⟩
theorem pg_nat {n:Int}(h:isPg n=true):∃k:Nat,n=k:=⟨n.toNat,by have:=of_decide_eq_true h;omega⟩
theorem cappend (n:Int)(t:ByteArray)(X:World)(B D G bp bf m k:Nat)(L:LS)(S:DS)(h:PL X B D G bp bf m L S)(hB:B≤X.heap.size)(hm:m≤900000)(ho:okS S k)(hk:k≤900000)(hf:L.fr≤65536):Calls Tryz.prog 13 #[(.pointer (some ⟨G,0,none⟩)),.int .i64 n,.string t] X fun e w'=>e=.returned (.int .i64 (apL L S n t).1)∧PL w' B D G bp bf (m+1) (apL L S n t).2.1 (apL L S n t).2.2∧BelL G bp bf B X w':=by
 by_cases h1:isPg n=true
 ·by_cases hs:t.size=1024
  ·by_cases h2:67108864<64+1028*(L.fr+1)
   ·have e9:apL L S n t=(8,L,S):=by unfold apL;rw[if_neg (fun h=>h ⟨h1,hs⟩),if_pos h2]
    rw[e9];obtain⟨c0,c1,c2,c3,c4,c5,c6,c7⟩:=h.cells;have HI:Hid (isPg n=true):=h1;have HM:Hid (PL X B D G bp bf (m+1) L S):=h.mono;have i1:(67108864:Int)<64+1028*((L.fr:Int)+1):=by omega
    clear h ho h1 h2 e9;go_enter Tryz.func13,Tryz.ntmps13;go_wp2_with fail
    refine(cisPage n _).mono ?_;rintro e w1⟨rfl,hw⟩;rw[hw];clear hw;rw[HI.out];go_wp2_with fail
    refine(cframeAt _ _ (by omega) (by omega)).mono ?_;rintro e w2⟨rfl,hw⟩;rw[hw];clear hw;obtain⟨q,hq⟩:∃q,q=64+1028*((L.fr:Int)+1):=⟨_,rfl⟩;rw[←hq] at i1 ⊢;have j1:decide (67108864<q)=true:=decide_eq_true i1;clear hq i1;go_wp2;go_ret;exact⟨rfl,HM.out,BelL.refl _ _ _ _ _⟩
   ·obtain⟨n,rfl⟩:=pg_nat h1;obtain⟨r,S2,hop⟩:∃r S2,opD S 1 (64+1028*(L.fr:Int)) (fourB n++t) false=(r,S2):=⟨_,_,rfl⟩;have e9:apL L S n t=(r,(if r=0 then{ L with fh:=updM L.fh n L.fr,fr:=L.fr+1 } else L),S2):=by
     unfold apL;rw[if_neg (fun h=>h ⟨h1,hs⟩),if_neg h2,Int.toNat_natCast,hop];by_cases hr:r=0
     ·subst hr;rfl
     ·rw[if_neg hr,if_neg hr]
    rw[e9];exact cappend0 n t X B D G bp bf m k L S h hB hm ho hk hf h1 hs h2 r S2 hop
  ·have e9:apL L S n t=(1,L,S):=by unfold apL;rw[if_pos (fun h=>hs h.2)]
   rw[e9];have HI:Hid (isPg n=true):=h1;have HM:Hid (PL X B D G bp bf (m+1) L S):=h.mono;have i2:(((t.size:Int)) != 1024)=true:=by
    have:¬((t.size:Int))=1024:=by omega
    simpa using this
   have i3:¬((t.size:Int))=1024:=by omega
   clear h ho h1 e9 hs;go_enter Tryz.func13,Tryz.ntmps13;go_wp2_with fail
   refine(cisPage n _).mono ?_;rintro e w1⟨rfl,hw⟩;rw[hw];clear hw;rw[HI.out];go_wp2;go_ret;exact⟨rfl,HM.out,BelL.refl _ _ _ _ _⟩
 ·have e9:apL L S n t=(1,L,S):=by unfold apL;rw[if_pos (fun h=>h1 h.1)]
  rw[e9];have hI:isPg n=false:=by simpa using h1
  have HI:Hid (isPg n=false):=hI;have HM:Hid (PL X B D G bp bf (m+1) L S):=h.mono;clear h ho h1 e9 hI;go_enter Tryz.func13,Tryz.ntmps13;go_wp2_with fail
  refine(cisPage n _).mono ?_;rintro e w1⟨rfl,hw⟩;rw[hw];clear hw;rw[HI.out];go_wp2;go_ret;exact⟨rfl,HM.out,BelL.refl _ _ _ _ _⟩
def bkL (L:LS):LS:={ L with fr:=L.last.frames,fh:=fun _=>none }
theorem cback (X:World)(B D G bp bf m:Nat)(L:LS)(S:DS)(h:PL X B D G bp bf m L S)(hB:B≤X.heap.size):Calls Tryz.prog 18 #[(.pointer (some ⟨G,0,none⟩))] X fun e w'=>e=.returned (.tuple #[])∧PL w' B D G bp bf m (bkL L) S∧BelL G bp bf B X w':=by
 obtain⟨c0,c1,c2,c3,c4,c5,c6,c7⟩:=h.cells;have f5:=h.unfrozen 5;have HP:Hid (PL (X.setCell ⟨G,5,none⟩ (.int .i64 L.last.frames)) B D G bp bf m { L with fr:=L.last.frames } S):=h.own rfl rfl rfl;have HB0:Hid (B≤X.heap.size):=hB;obtain⟨Y,hrun,hMI,hgY⟩:=HP.out.mf.clear 0;have HY:Hid (PL Y B D G bp bf m (bkL L) S):=HP.out.fresh hgY (hMI.mono (Nat.zero_le _)) (Nat.le_refl _);have HFY:Hid (BelL G bp bf B X Y):=(grown_log (set_grown _ _ _ _) hB (.inl rfl) h.low.1).trans (grown_log hgY (by simpa using hB) (.inr (.inr rfl)) h.low.2.2);clear h hB hMI hgY;go_enter Tryz.func18,Tryz.ntmps18;go_wp2;go_end0;exact⟨rfl,HY.out,HFY.out⟩
theorem far_of {cs:Array Value}{fz:Nat×Nat}(h:X.heap[b]?=some (.cells cs t fz))(ht:T t=false):farT T X b:=fun cur e f he=>by
 rw[h] at he;injection he with he;injection he with _ h2 _;rw[←h2];exact ht
theorem PL.told {L:LS}(h:PL X B D G bp bf n L S)(c:Cm)(f:Nat):PL (((((X.setCell ⟨G,1,none⟩ (.int .i64 c.slot)).setCell ⟨G,2,none⟩ (.int .i64 c.number)).setCell ⟨G,3,none⟩ (.int .i64 c.frames)).setCell ⟨G,4,none⟩ (.int .i64 c.pages)).setCell ⟨G,5,none⟩ (.int .i64 f)) B D G bp bf n { L with last:=c,fr:=f } S:=by
 have h1:PL (X.setCell ⟨G,1,none⟩ (.int .i64 c.slot)) B D G bp bf n { L with last:=⟨c.slot,L.last.number,L.last.frames,L.last.pages⟩} S:=h.own rfl rfl rfl;have h2:PL ((X.setCell ⟨G,1,none⟩ (.int .i64 c.slot)).setCell ⟨G,2,none⟩ (.int .i64 c.number)) B D G bp bf n { L with last:=⟨c.slot,c.number,L.last.frames,L.last.pages⟩} S:=h1.own rfl rfl rfl;have h3:PL (((X.setCell ⟨G,1,none⟩ (.int .i64 c.slot)).setCell ⟨G,2,none⟩ (.int .i64 c.number)).setCell ⟨G,3,none⟩ (.int .i64 c.frames)) B D G bp bf n { L with last:=⟨c.slot,c.number,c.frames,L.last.pages⟩} S:=h2.own rfl rfl rfl;have h4:PL ((((X.setCell ⟨G,1,none⟩ (.int .i64 c.slot)).setCell ⟨G,2,none⟩ (.int .i64 c.number)).setCell ⟨G,3,none⟩ (.int .i64 c.frames)).setCell ⟨G,4,none⟩ (.int .i64 c.pages)) B D G bp bf n { L with last:=c } S:=h3.own rfl rfl rfl;exact h4.own rfl rfl rfl
theorem told_log (X:World)(v1 v2 v3 v4 v5:Value)(hB:B≤X.heap.size)(hG:B≤G):BelL G bp bf B X (((((X.setCell ⟨G,1,none⟩ v1).setCell ⟨G,2,none⟩ v2).setCell ⟨G,3,none⟩ v3).setCell ⟨G,4,none⟩ v4).setCell ⟨G,5,none⟩ v5):=
 grown_log ((((((But.refl X (some G)).set 1 v1).set 2 v2).set 3 v3).set 4 v4).set 5 v5) hB (.inl rfl) hG
def flC (c:Cm)(fr pg:Nat):Cm:=⟨1-c.slot,nxN c.number,fr,pg⟩
def tlL (L:LS)(S:DS)(fr pg:Nat):Int×LS×DS:=
 if(opD S 1 (16+24*((1-L.last.slot:Nat):Int)) (txtB (nxN L.last.number) fr pg) false).1=0 then
  (if(synD (opD S 1 (16+24*((1-L.last.slot:Nat):Int)) (txtB (nxN L.last.number) fr pg) false).2 1).1=0 then(0,{ L with last:=flC L.last fr pg,fr:=fr },(synD (opD S 1 (16+24*((1-L.last.slot:Nat):Int)) (txtB (nxN L.last.number) fr pg) false).2 1).2)
   else((synD (opD S 1 (16+24*((1-L.last.slot:Nat):Int)) (txtB (nxN L.last.number) fr pg) false).2 1).1,L,(synD (opD S 1 (16+24*((1-L.last.slot:Nat):Int)) (txtB (nxN L.last.number) fr pg) false).2 1).2))
 else((opD S 1 (16+24*((1-L.last.slot:Nat):Int)) (txtB (nxN L.last.number) fr pg) false).1,L,(opD S 1 (16+24*((1-L.last.slot:Nat):Int)) (txtB (nxN L.last.number) fr pg) false).2)
theorem ctell (fr pg:Nat)(X:World)(B D G bp bf m k:Nat)(L:LS)(S:DS)(h:PL X B D G bp bf m L S)(hB:B≤X.heap.size)(ho:okS S k)(hk:k≤900000)(hc:okCm L.last)(r1 r2:Int)(S1 S2:DS)(h1:opD S 1 (16+24*((1-L.last.slot:Nat):Int)) (txtB (nxN L.last.number) fr pg) false=(r1,S1))(h2:synD S1 1=(r2,S2)):Calls Tryz.prog 63 #[(.pointer (some ⟨G,0,none⟩)),.int .i64 fr,.int .i64 pg] X fun e w'=>e=.returned (.int .i64 (if r1=0 then r2 else r1))∧PL w' B D G bp bf m (if r1=0∧r2=0 then{ L with last:=flC L.last fr pg,fr:=fr } else L) (if r1=0 then S2 else S1)∧BelL G bp bf B X w':=by
 obtain⟨c0,c1,c2,c3,c4,c5,c6,c7⟩:=h.cells;have HP:Hid (PL X B D G bp bf m L S):=h;have HB0:Hid (B≤X.heap.size):=hB;have HO:Hid (okS S k∧okS S1 (k+1)∧k+1≤1000000):=(⟨ho,by have:=opD_ok ho 1 (16+24*((1-L.last.slot:Nat):Int)) (txtB (nxN L.last.number) fr pg) false;rw[h1] at this;exact this,by omega⟩:okS S k∧okS S1 (k+1)∧k+1≤1000000);have HC:Hid _:=hc;have H1:Hid _:=h1;have H2:Hid _:=h2;clear h hB ho hk hc h1 h2;go_enter Tryz.func63,Tryz.ntmps63;go_wp2_with fail
 refine(cfollowing L.last.slot L.last.number L.last.frames L.last.pages fr pg _ HC.out.slot (Nat.le_trans HC.out.number (by decide))).mono ?_;rintro e w1⟨rfl,hb1⟩;have HL1:Hid (PL w1 B D G bp bf m L S):=HP.out.below hb1;have HX1:Hid (Below X.heap.size X w1):=hb1;clear hb1 c0 c1 c2 c3 c4 c5 c6 c7 HP;obtain⟨c0,c1,c2,c3,c4,c5,c6,c7⟩:=HL1.out.cells;have hG:G<w1.heap.size:=HL1.out.lt;obtain⟨sl,hsl⟩:∃sl:Nat,sl=1-L.last.slot:=⟨_,rfl⟩;have s0:Hid ((0:Int)≤(sl:Int)):=(by omega:(0:Int)≤(sl:Int));have s1:Hid ((sl:Int)≤1):=(by omega:(sl:Int)≤1);rw[←hsl] at H1 ⊢;have HSL:Hid _:=hsl;clear hsl;obtain⟨nn,hnn⟩:∃nn:Nat,nn=nxN L.last.number:=⟨_,rfl⟩;rw[←hnn] at H1 ⊢;have HNN:Hid _:=hnn;clear hnn;go_wp2_with fail
 go_region_with (first | (go_at_call 100;refine(cslotAt _ _ s0.out s1.out).mono ?_;rintro e w3⟨rfl,hw⟩;rw[hw];clear hw) | (go_at_call 90;refine(ctext sl nn fr pg _).mono ?_;rintro e w4⟨rfl,hb4⟩;have HY4:Hid (Below (w1.alloc (.cells #[.int .i64 sl,.int .i64 nn,.int .i64 fr,.int .i64 pg] 91)).heap.size (w1.alloc (.cells #[.int .i64 sl,.int .i64 nn,.int .i64 fr,.int .i64 pg] 91)) w4):=undrewB hb4;obtain⟨hc4,hf4⟩:=bcell HY4.out;clear hb4) | (go_at_call 58;have HX4:Hid (Below w1.heap.size w1 w4):=keepBelow ((Below.refl _ _).alloc (Nat.le_refl _) _) HY4.out;refine(cwriteD 1 (16+24*(sl:Int)) (txtB nn fr pg) _ B D S k (HL1.out.dsk.below HX4.out) (Nat.le_trans HB0.out (Nat.le_trans HX1.out.size HX4.out.size)) HO.out.1 (by have:=HO.out.2.2;omega)).mono ?_;rw[H1.out];rintro e w5⟨rfl,hp5,hb5⟩))
 all_goals
  have HL5:Hid (PL w5 B D G bp bf m L S1):=(HL1.out.below HX4.out).disk hb5 hp5;have HF5:Hid (BelL G bp bf B X w5):=(below_log HX1.out HB0.out G bp bf).trans ((below_log HX4.out (Nat.le_trans HB0.out HX1.out.size) G bp bf).trans (hb5.log G bp bf));have HC5:Hid (w5.heap[w1.heap.size]?=some (.cells #[.int .i64 sl,.int .i64 nn,.int .i64 fr,.int .i64 pg] 91 (0,0))):=by
   have e4:w4.heap[w1.heap.size]?=some (.cells #[.int .i64 sl,.int .i64 nn,.int .i64 fr,.int .i64 pg] 91 (0,0)):=(HY4.out.block _ (by simp)).trans (heap_alloc_new w1 _);exact(hb5.far _ (Array.getElem?_eq_some_iff.1 e4).1 (far_of e4 (by decide))).trans e4
  clear hp5 hb5 HX4 hc4 hf4 HY4 c0 c1 c2 c3 c4 c5 c6 c7;obtain⟨c0,c1,c2,c3,c4,c5,c6,c7⟩:=HL5.out.cells;by_cases hr:r1=0
  ·subst hr;go_wp2_with fail
   refine(csyncD 1 _ B D S1 (k+1) HL5.out.dsk (Nat.le_trans HB0.out HF5.out.size) HO.out.2.1 HO.out.2.2).mono ?_;rw[H2.out];rintro e w6⟨rfl,hp6,hb6⟩;have HL6:Hid (PL w6 B D G bp bf m L S2):=HL5.out.disk hb6 hp6;have HF6:Hid (BelL G bp bf B X w6):=HF5.out.trans (hb6.log G bp bf);have hC6:w6.heap[w1.heap.size]?=some (.cells #[.int .i64 sl,.int .i64 nn,.int .i64 fr,.int .i64 pg] 91 (0,0)):=(hb6.far _ (Array.getElem?_eq_some_iff.1 HC5.out).1 (far_of HC5.out (by decide))).trans HC5.out;clear hp6 hb6 HC5 HL5 HF5 c0 c1 c2 c3 c4 c5 c6 c7;obtain⟨c0,c1,c2,c3,c4,c5,c6,c7⟩:=HL6.out.cells;obtain⟨⟨b0,b1,b2,b3⟩,-,lb⟩:=wcell4 hC6;clear hC6;by_cases hr2:r2=0
   ·subst hr2;have f1:=HL6.out.unfrozen 1;have f2:=HL6.out.unfrozen 2;have f3:=HL6.out.unfrozen 3;have f4:=HL6.out.unfrozen 4;have f5:=HL6.out.unfrozen 5;have HE:Hid (flC L.last fr pg=⟨sl,nn,fr,pg⟩):=by
     show flC L.last fr pg=⟨sl,nn,fr,pg⟩;rw[HSL.out,HNN.out];rfl
    go_wp2;go_ret;exact⟨rfl,by rw[HE.out];exact HL6.out.told ⟨sl,nn,fr,pg⟩ fr,HF6.out.trans (told_log w6 _ _ _ _ _ (Nat.le_trans HB0.out HF6.out.size) HL6.out.low.1)⟩
   ·have hr':(r2 == 0)=false:=by simpa using hr2
    go_wp2;go_ret;exact⟨rfl,by simpa using HL6.out,HF6.out⟩
  ·have hr':(r1 == 0)=false:=by simpa using hr
   go_wp2;go_ret;exact⟨rfl,by simpa using HL5.out,HF5.out⟩
open Go.Maps
theorem ctellL (fr pg:Nat)(X:World)(B D G bp bf m k:Nat)(L:LS)(S:DS)(h:PL X B D G bp bf m L S)(hB:B≤X.heap.size)(ho:okS S k)(hk:k≤900000)(hc:okCm L.last):Calls Tryz.prog 63 #[(.pointer (some ⟨G,0,none⟩)),.int .i64 fr,.int .i64 pg] X fun e w'=>e=.returned (.int .i64 (tlL L S fr pg).1)∧PL w' B D G bp bf m (tlL L S fr pg).2.1 (tlL L S fr pg).2.2∧BelL G bp bf B X w':=by
 obtain⟨r1,S1,h1⟩:∃r S2,opD S 1 (16+24*((1-L.last.slot:Nat):Int)) (txtB (nxN L.last.number) fr pg) false=(r,S2):=⟨_,_,rfl⟩;obtain⟨r2,S2,h2⟩:∃r S2,synD S1 1=(r,S2):=⟨_,_,rfl⟩;have e:tlL L S fr pg=(if r1=0 then r2 else r1,(if r1=0∧r2=0 then{ L with last:=flC L.last fr pg,fr:=fr } else L),(if r1=0 then S2 else S1)):=by
  unfold tlL;rw[h1];show(if r1=0 then(if(synD S1 1).1=0 then _ else _) else _)=_;rw[h2];by_cases a:r1=0
  ·rw[if_pos a,if_pos a,if_pos a];by_cases b:r2=0
   ·rw[if_pos b,if_pos ⟨a,b⟩,b]
   ·rw[if_neg b,if_neg (fun h=>b h.2)]
  ·rw[if_neg a,if_neg a,if_neg a,if_neg (fun h=>a h.1)]
 rw[e];exact ctell fr pg X B D G bp bf m k L S h hB ho hk hc r1 r2 S1 S2 h1 h2
theorem apL_last (L:LS)(S:DS)(n:Int)(t:ByteArray):(apL L S n t).2.1.last=L.last:=by
 unfold apL;split
 ·rfl
 ·split
  ·rfl
  ·split<;>rfl
theorem apL_ok {L:LS}(h:okS S k)(n:Int)(t:ByteArray):okS (apL L S n t).2.2 (k+1):=by
 unfold apL;split
 ·exact h.mono (Nat.le_succ _)
 ·split
  ·exact h.mono (Nat.le_succ _)
  ·split<;>exact opD_ok h _ _ _ _
theorem tlL_ok {L:LS}(h:okS S k)(fr pg:Nat):okS (tlL L S fr pg).2.2 (k+2):=by
 unfold tlL;split
 ·split<;>exact synD_ok (opD_ok h _ _ _ _) _
 ·exact(opD_ok h _ _ _ _).mono (Nat.le_succ _)
theorem tlL_maps (L:LS)(S:DS)(fr pg:Nat):(tlL L S fr pg).2.1.pl=L.pl∧(tlL L S fr pg).2.1.fh=L.fh:=by
 unfold tlL;split
 ·split<;>exact⟨rfl,rfl⟩
 ·exact⟨rfl,rfl⟩
def mrg (pl fh:Int→Option Int):Int→Option Int:=fun x=>match fh x with | some v=>some v | none=>pl x
def mrgL (pl fh:Int→Option Int)(left:Lit→Bool):Int→Option Int:=fun x=>if left (.int .i64 x)=true then pl x else mrg pl fh x
def cmL (L:LS)(S:DS)(n:Int)(t:ByteArray)(pg:Int):Int×LS×DS:=
 if ¬(1≤pg∧pg≤65536) then(1,L,S)
 else if ¬(apL L S n t).1=0 then apL L S n t
 else if ¬(synD (apL L S n t).2.2 1).1=0 then((synD (apL L S n t).2.2 1).1,(apL L S n t).2.1,(synD (apL L S n t).2.2 1).2)
 else if ¬(tlL (apL L S n t).2.1 (synD (apL L S n t).2.2 1).2 (apL L S n t).2.1.fr pg.toNat).1=0 then tlL (apL L S n t).2.1 (synD (apL L S n t).2.2 1).2 (apL L S n t).2.1.fr pg.toNat
 else(0,{ (tlL (apL L S n t).2.1 (synD (apL L S n t).2.2 1).2 (apL L S n t).2.1.fr pg.toNat).2.1 with pl:=mrg L.pl (apL L S n t).2.1.fh,fh:=fun _=>none },(tlL (apL L S n t).2.1 (synD (apL L S n t).2.2 1).2 (apL L S n t).2.1.fr pg.toNat).2.2)
theorem BelL.none (h:BelL G bp bf B X Y)(hB:B≤X.heap.size)(hg:Y.grownBy Z none):BelL G bp bf B X Z:=
 h.trans (below_log ⟨hg.os,hg.tape,hg.output,hg.size,fun b hb=>hg.block b hb (by simp)⟩ (Nat.le_trans hB h.size) G bp bf)
theorem BelL.newer (h:BelL G bp bf B X Y)(hB:B≤X.heap.size)(hg:Y.grownBy Z (some r))(hr:X.heap.size≤r):BelL G bp bf B X Z:=
 ⟨⟨hg.os.trans h.os,hg.tape.trans h.tape,hg.output.trans h.output,Nat.le_trans h.size hg.size,fun b hb=>(hg.block b (Nat.lt_of_lt_of_le (Nat.lt_of_lt_of_le hb hB) h.size) (fun e=>by injection e with e;omega)).trans (h.block b hb)⟩,
  fun b hb hf h1 h2 h3=>(hg.block b (Nat.lt_of_lt_of_le hb h.size) (fun e=>by injection e with e;omega)).trans (h.far b hb hf h1 h2 h3)⟩
theorem PL.kept {L:LS}(h:PL X B D G bp bf n L S)(hg:X.grownBy Y (some r))(h1:¬r=G)(h2:¬r=bp)(h3:¬r=bf)(hf:farT tyP X r):PL Y B D G bp bf n L S:=
 ⟨(hg.block G h.lt (fun e=>by injection e with e;exact h1 e.symm)).trans h.blk,h.low,h.dif,h.mp.keep (hg.block _ h.mp.lt (fun e=>by injection e with e;exact h2 e.symm)),h.mf.keep (hg.block _ h.mf.lt (fun e=>by injection e with e;exact h3 e.symm)),h.dsk.grown hg hf⟩
theorem MI.congr {F':Int→Option Int}(h:MI X b n F)(he:∀x,i64 x→F' x=F x):MI X b n F':=by
 obtain⟨D,ho,k⟩:=h;exact⟨D,ho,fun x hx=>by rw[he x hx];exact k x hx⟩
theorem PL.congr {L:LS}(h:PL X B D G bp bf n L S)(he:∀x,i64 x→F x=L.pl x):PL X B D G bp bf n { L with pl:=F } S:=
 ⟨h.blk,h.low,h.dif,h.mp.congr he,h.mf,h.dsk⟩
theorem PL.places {L:LS}(h:PL X B D G bp bf n L S)(hg:X.grownBy Y (some bp))(hF:MI Y bp m F)(hm:n≤m):PL Y B D G bp bf m { L with pl:=F } S:=by
 obtain⟨n1,n2,n3,n4,n5⟩:=h.ne;refine⟨(hg.block G h.lt (fun e=>?_)).trans h.blk,h.low,h.dif,hF,(h.mf.keep (hg.block _ h.mf.lt (fun e=>?_))).mono hm,h.dsk.grown hg (h.mp.far _)⟩
 ·injection e with e;exact n1 e.symm
 ·injection e with e;exact h.dif e.symm
theorem iter_far {P:Program}{k:TypeId}{R:Value→Option (DataW Unit×List MemPlace)}{D:DataW Unit}(h:w.ranges P k R b r n D left cnt)(T:TypeId→Bool):farT T w r∧(∀es c,¬w.heap[r]?=some (.map es c))∧(∀cs t f,¬w.heap[r]?=some (.cells cs t f)):=by
 obtain⟨es,clock,since,seen,c0,-,-,-,-,hr,-⟩:=h;refine⟨fun cur e fz he=>?_,fun es c he=>?_,fun cs t f he=>?_⟩<;>(rw[hr] at he;cases he)
theorem PL.iter {N:Nat}{L:LS}(h:PL X B D G bp bf n L S){DF:DataW Unit}(hr:X.ranges Tryz.prog 3 (plainElem Tryz.prog 3) bf r N DF left cnt):¬r=G∧¬r=bp∧¬r=bf:=by
 obtain⟨-,h1,h2⟩:=iter_far hr tyP;obtain⟨e1,c1,m1⟩:=h.mp.isMap;obtain⟨e2,c2,m2⟩:=h.mf.isMap;exact⟨fun e=>by subst e;exact h2 _ _ _ h.blk,fun e=>by subst e;exact h1 _ _ m1,fun e=>by subst e;exact h1 _ _ m2⟩
theorem mrg_step {pl fh:Int→Option Int}{x c:Int}(hx:fh x=some c)(y:Int):mrgL pl fh (fun z=>left z && !z.sameKey (.int .i64 x)) y=updM (mrgL pl fh left) x c y:=by
 unfold updM mrgL mrg;by_cases e:y=x
 ·subst e;rw[if_pos rfl,if_neg (by simp[Lit.sameKey]),hx]
 ·rw[if_neg e];have:(Lit.int .i64 y).sameKey (.int .i64 x)=false:=sameKey_ne (fun h=>by injection h with _ h;exact e h);show(if(left (.int .i64 y) && !(Lit.int .i64 y).sameKey (.int .i64 x))=true then pl y else _)=_;rw[this,Bool.not_false,Bool.and_true]
theorem PL.none {L:LS}(h:PL X B D G bp bf n L S)(hg:X.grownBy Y none):PL Y B D G bp bf n L S:=h.below ⟨hg.os,hg.tape,hg.output,hg.size,fun b hb=>hg.block b hb (by simp)⟩
theorem ccommit0 (n:Int)(t:ByteArray)(pg:Nat)(X:World)(B D G bp bf m k:Nat)(L:LS)(S:DS)(h:PL X B D G bp bf m L S)(hB:B≤X.heap.size)(hm:m≤400000)(ho:okS S k)(hk:k≤800000)(hf:L.fr≤65535)(hc:okCm L.last)(p1:1≤pg)(p2:pg≤65536)(r0 r1 r2:Int)(L0 L2:LS)(S0 S1 S2:DS)(h0:apL L S n t=(r0,L0,S0))(h1:synD S0 1=(r1,S1))(h2:tlL L0 S1 L0.fr pg=(r2,L2,S2)):Calls Tryz.prog 16 #[(.pointer (some ⟨G,0,none⟩)),.int .i64 n,.string t,.int .i64 pg] X fun e w'=>e=.returned (.int .i64 (if r0=0 then(if r1=0 then r2 else r1) else r0))∧PL w' B D G bp bf (m+m+2) (if r0=0 then(if r1=0 then(if r2=0 then{ L2 with pl:=mrg L0.pl L0.fh,fh:=fun _=>none } else L2) else L0) else L0) (if r0=0 then(if r1=0 then S2 else S1) else S0)∧BelL G bp bf B X w':=by
 have o0:okS S0 (k+1):=by have:=apL_ok (L:=L) ho n t;rw[h0] at this;exact this
 have o1:okS S1 (k+2):=by have:=synD_ok o0 1;rw[h1] at this;exact this
 have l0:okCm L0.last:=by have:=apL_last L S n t;rw[h0] at this;rw[show L0.last=L.last from this];exact hc
 have C0:Hid (∀W,PL W B D G bp bf m L S→B≤W.heap.size→Calls Tryz.prog 13 #[(.pointer (some ⟨G,0,none⟩)),.int .i64 n,.string t] W fun e w'=>e=.returned (.int .i64 r0)∧PL w' B D G bp bf (m+1) L0 S0∧BelL G bp bf B W w'):=fun W hW hBW=>by
  have:=cappend n t W B D G bp bf m k L S hW hBW (by omega) ho (by omega) (by omega);rw[h0] at this;exact this
 have C1:Hid (∀W,PDs W B D S0→B≤W.heap.size→Calls Tryz.prog 62 #[(.pointer (some ⟨D,0,none⟩)),.int .i64 1] W fun e w'=>e=.returned (.int .i64 r1)∧PDs w' B D S1∧BelT tyP B W w'):=fun W hW hBW=>by
  have:=csyncD 1 W B D S0 (k+1) hW hBW o0 (by omega);rw[h1] at this;exact this
 have C2:Hid (∀W,PL W B D G bp bf (m+1) L0 S1→B≤W.heap.size→Calls Tryz.prog 63 #[(.pointer (some ⟨G,0,none⟩)),.int .i64 L0.fr,.int .i64 pg] W fun e w'=>e=.returned (.int .i64 r2)∧PL w' B D G bp bf (m+1) L2 S2∧BelL G bp bf B W w'):=fun W hW hBW=>by
  have:=ctellL L0.fr pg W B D G bp bf (m+1) (k+2) L0 S1 hW hBW o1 (by omega) l0;rw[h2] at this;exact this
 have M2:Hid (L2.pl=L0.pl∧L2.fh=L0.fh):=by have:=tlL_maps L0 S1 L0.fr pg;rw[h2] at this;exact this
 have HP:Hid (PL X B D G bp bf m L S):=h;have HB0:Hid (B≤X.heap.size):=hB;have q1:(1:Int)≤(pg:Int):=by omega
 have q2:(pg:Int)≤65536:=by omega
 clear h hB ho hk hc h0 h1 h2 o0 o1 l0 hf p1 p2;go_enter Tryz.func16,Tryz.ntmps16;go_wp2_with fail
 refine(C0.out _ HP.out HB0.out).mono ?_;rintro e w1⟨rfl,hp1,hb1⟩;have HL1:Hid _:=hp1;have HF1:Hid _:=hb1;clear hp1 hb1;by_cases hr0:r0=0
 ·subst hr0;obtain⟨c0,c1,c2,c3,c4,c5,c6,c7⟩:=HL1.out.cells;clear c1 c2 c3 c4 c6 c7;go_wp2_with fail
  refine(C1.out _ HL1.out.dsk (Nat.le_trans HB0.out HF1.out.size)).mono ?_;rintro e w2⟨rfl,hp2,hb2⟩;have HL2:Hid (PL w2 B D G bp bf (m+1) L0 S1):=HL1.out.disk hb2 hp2;have HF2:Hid (BelL G bp bf B X w2):=HF1.out.trans (hb2.log G bp bf);clear hp2 hb2 c0 c5;by_cases hr1:r1=0
  ·subst hr1;obtain⟨c0,c1,c2,c3,c4,c5,c6,c7⟩:=HL2.out.cells;clear c1 c2 c3 c4 c6 c7;go_wp2_with fail
   refine(C2.out _ HL2.out (Nat.le_trans HB0.out HF2.out.size)).mono ?_;rintro e w3⟨rfl,hp3,hb3⟩;have HL3:Hid _:=hp3;have HF3:Hid (BelL G bp bf B X w3):=HF2.out.trans hb3;clear hp3 hb3 c0 c5;by_cases hr2:r2=0
   ·subst hr2;obtain⟨c0,c1,c2,c3,c4,c5,c6,c7⟩:=HL3.out.cells;obtain⟨DF,hown,HK⟩:=HL3.out.mf;have HKK:Hid _:=HK;clear HK c1 c2 c3 c4 c5 c0;go_wp2_with (first
     | (at_range;refine wpList_range_own _ rfl _ 94 rfl 3 3 lawI Tryz.underlying94 _ bf (m+1) _ rfl hown ?_;intro w4 hrg4 hg4 hs4)
     | go_in)
    go_frame
    have hsz:=hown.size_le;have HL4:Hid (PL w4 B D G bp bf (m+1) L2 S2):=HL3.out.none hg4;have HF4:Hid (BelL G bp bf B X w4):=HF3.out.none HB0.out hg4;have hr3:Hid (X.heap.size≤w3.heap.size):=HF3.out.size;clear c6 c7 hg4 hs4
    go_loopw [12] (fun _ wr=>∃(left:Lit→Bool) (cnt N:Nat),wr.ranges Tryz.prog 3 (plainElem Tryz.prog 3) bf w3.heap.size (m+1) DF left cnt∧N+cnt≤m+m+2∧Hid (∀x,i64 x→left (.int .i64 x)=true→Maps.has DF (.int .i64 x)=true)∧Hid (PL wr B D G bp bf N { L2 with pl:=mrgL L0.pl L0.fh left } S2)∧Hid (BelL G bp bf B X wr)) (fun _ wr=>wr.rangeLeft bf w3.heap.size)
    case atStart =>
     refine⟨_,_,m+1,hrg4,by omega,fun x _ h=>h,?_,HF4⟩;refine HL4.out.congr (fun x hx=>?_);have k:=(HKK.out x hx).1;rw[M2.out.2] at k;unfold mrgL mrg;rw[M2.out.1];cases hF:L0.fh x with
     | none=>split<;>rfl
     | some v=>rw[k,hF];rfl
    case round =>
     obtain⟨left,cnt,N,hrg,hN,HLF,HLr,HFr⟩:=hrel;obtain⟨nG,nP,nF⟩:=HLr.out.iter hrg;have hfar:=(iter_far hrg tyP).1;go_wp2_with (first
      | (at_next;refine wpList_next_ranges_ii _ rfl _ rfl 3 3 .i64 .i64 lawI Tryz.underlying3 Tryz.underlying3 bf w3.heap.size (m+1) _ _ _ rfl hrg ?_ ?_)
      | go_in)
     ·intro hc0 hl0;obtain⟨c0,c1,c2,c3,c4,c5,c6,c7⟩:=HLr.out.cells;clear c0 c1 c2 c3 c4 c5;obtain⟨Y,hrun,hMI,hgY⟩:=HLr.out.mf.clear 0;have HY:Hid (PL Y B D G bp bf (m+m+2) { L2 with pl:=mrg L0.pl L0.fh,fh:=fun _=>none } S2):=((HLr.out.fresh hgY (hMI.mono (Nat.zero_le _)) (Nat.le_refl _)).congr (F:=mrg L0.pl L0.fh) (fun x _=>by show _=mrgL _ _ _ x;unfold mrgL;rw[if_neg (by rw[hl0];decide)])).mono;have HFY:Hid (BelL G bp bf B X Y):=HFr.out.trans (grown_log hgY (Nat.le_trans HB0.out HFr.out.size) (.inr (.inr rfl)) HLr.out.low.2.2);clear hMI hgY;go_wp2;go_ret;exact⟨rfl,HY.out,HFY.out⟩
     ·intro x c w5 cnt1 hwx hwc hlx hat hrg1 hlt hg1 hs1 hen;have HL5:Hid (PL w5 B D G bp bf N { L2 with pl:=mrgL L0.pl L0.fh left } S2):=HLr.out.kept hg1 nG nP nF hfar;have HF5:Hid (BelL G bp bf B X w5):=HFr.out.newer HB0.out hg1 hr3.out;obtain⟨c0,c1,c2,c3,c4,c5,c6,c7⟩:=HL5.out.cells;clear c0 c1 c2 c3 c4 c5 c7;obtain⟨Y,hrun,hMI,hgY⟩:=HL5.out.mp.put (by omega) (x:=x) (v:=c) hwx hwc;have HX:Hid (L0.fh x=some c):=by
       show L0.fh x=some c;have k:=HKK.out x hwx;rw[M2.out.2] at k;rw[HLF.out x hwx hlx] at k;cases hF:L0.fh x with
       | none=>rw[hF] at k;cases k.1
       | some v =>
        have:=(k.2 v hF .nil).symm.trans (hat .nil);simp at this;rw[this]
      have HY:Hid (PL Y B D G bp bf (N+1) { L2 with pl:=mrgL L0.pl L0.fh (fun z=>left z && !z.sameKey (.int .i64 x))} S2):=(HL5.out.places hgY hMI (by omega)).congr (fun y _=>mrg_step HX.out y);have HFY:Hid (BelL G bp bf B X Y):=HF5.out.trans (grown_log hgY (Nat.le_trans HB0.out HF5.out.size) (.inr (.inl rfl)) HL5.out.low.2.1);have hrg2:=hrg1.kept hgY (fun e=>by injection e with e;exact HLr.out.dif e.symm) (fun e=>by injection e with e;exact nP e);clear hMI hgY;go_wp2
      go_roundw
      case rel=>exact⟨_,cnt1,N+1,hrg2,by omega,fun y hy h=>HLF.out y hy (by simp at h;exact h.1),HY,HFY⟩
      case measure=>rw[hrg2.left_eq,hrg.left_eq];exact hlt
   ·have hr':(r2 == 0)=false:=by simpa using hr2
    go_wp2;go_ret;exact⟨rfl,HL3.out.mono,HF3.out⟩
  ·have hr':(r1 == 0)=false:=by simpa using hr1
   go_wp2;go_ret;exact⟨rfl,HL2.out.mono,HF2.out⟩
 ·have hr':(r0 == 0)=false:=by simpa using hr0
  go_wp2;go_ret;exact⟨rfl,HL1.out.mono,HF1.out⟩
theorem ccommit (n:Int)(t:ByteArray)(pg:Int)(X:World)(B D G bp bf m k:Nat)(L:LS)(S:DS)(h:PL X B D G bp bf m L S)(hB:B≤X.heap.size)(hm:m≤400000)(ho:okS S k)(hk:k≤800000)(hf:L.fr≤65535)(hc:okCm L.last):Calls Tryz.prog 16 #[(.pointer (some ⟨G,0,none⟩)),.int .i64 n,.string t,.int .i64 pg] X fun e w'=>e=.returned (.int .i64 (cmL L S n t pg).1)∧PL w' B D G bp bf (m+m+2) (cmL L S n t pg).2.1 (cmL L S n t pg).2.2∧BelL G bp bf B X w':=by
 by_cases hp:1≤pg∧pg≤65536
 ·obtain⟨pn,rfl⟩:∃k:Nat,pg=k:=⟨pg.toNat,by omega⟩;obtain⟨r0,L0,S0,h0⟩:∃r a b,apL L S n t=(r,a,b):=⟨_,_,_,rfl⟩;obtain⟨r1,S1,h1⟩:∃r a,synD S0 1=(r,a):=⟨_,_,rfl⟩;obtain⟨r2,L2,S2,h2⟩:∃r a b,tlL L0 S1 L0.fr pn=(r,a,b):=⟨_,_,_,rfl⟩;have lp:L0.pl=L.pl:=by
   have e:(apL L S n t).2.1.pl=L.pl:=by
    unfold apL;split
    ·rfl
    ·split
     ·rfl
     ·split<;>rfl
   rw[h0] at e;exact e
  have e:cmL L S n t pn=(if r0=0 then(if r1=0 then r2 else r1) else r0,(if r0=0 then(if r1=0 then(if r2=0 then{ L2 with pl:=mrg L0.pl L0.fh,fh:=fun _=>none } else L2) else L0) else L0),(if r0=0 then(if r1=0 then S2 else S1) else S0)):=by
   unfold cmL;rw[if_neg (fun h=>h hp),h0];by_cases a:r0=0
   ·rw[if_neg (fun h=>h a)];show(if ¬(synD S0 1).1=0 then _ else _)=_;rw[h1];by_cases b:r1=0
    ·rw[if_neg (fun h=>h b)];show(if ¬(tlL L0 S1 L0.fr (pn:Int).toNat).1=0 then _ else _)=_;rw[Int.toNat_natCast,h2,if_pos a,if_pos b,if_pos a,if_pos b,if_pos a,if_pos b,lp];by_cases c:r2=0
     ·rw[if_neg (fun h=>h c),if_pos c,c]
     ·rw[if_pos c,if_neg c]
    ·rw[if_pos b,if_pos a,if_neg b,if_pos a,if_neg b,if_pos a,if_neg b]
   ·rw[if_pos a,if_neg a,if_neg a,if_neg a]
  rw[e];exact ccommit0 n t pn X B D G bp bf m k L S h hB hm ho hk hf hc (by omega) (by omega) r0 r1 r2 L0 L2 S0 S1 S2 h0 h1 h2
 ·have e9:cmL L S n t pg=(1,L,S):=if_pos hp;rw[e9];have HM:Hid (PL X B D G bp bf (m+m+2) L S):=h.mono;clear h ho e9;by_cases p1:pg<1
  ·go_enter Tryz.func16,Tryz.ntmps16;go_wp2;go_ret;exact⟨rfl,HM.out,BelL.refl _ _ _ _ _⟩
  ·have p2:65536<pg:=by omega
   have p3:decide (pg<1)=false:=decide_eq_false p1;go_enter Tryz.func16,Tryz.ntmps16;go_wp2;go_ret;exact⟨rfl,HM.out,BelL.refl _ _ _ _ _⟩
theorem PDs.len (h:PDs X B D S)(i:Nat)(hi:i<4):(S.lb i).length≤67108864:=by obtain⟨vb,vw,h⟩:=h;exact h.size i hi
def okM (F:Int→Option Int):Prop:=∀x v,F x=some v→0≤v∧v≤1000000
theorem cframed0 (v:Int)(X:World)(B D G bp bf m:Nat)(L:LS)(S:DS)(h:PL X B D G bp bf m L S)(v0:0≤v)(v1:v≤1000000)(q:ByteArray)(r:Int)(hR:∀W,PDs W B D S→Calls Tryz.prog 55 #[(.pointer (some ⟨D,0,none⟩)),.int .i64 1,.int .i64 (64+1028*v+4),.int .i64 1024] W fun e w'=>e=.returned (.tuple #[.string q,.int .i64 r])∧w'=W):Calls Tryz.prog 53 #[(.pointer (some ⟨G,0,none⟩)),.int .i64 v] X fun e w'=>e=.returned (.tuple #[.string q,.int .i64 r])∧Below X.heap.size X w':=by
 obtain⟨c0,c1,c2,c3,c4,c5,c6,c7⟩:=h.cells;have HP:Hid (PDs X B D S):=h.dsk;have HR:Hid _:=hR;have V0:Hid (0≤v∧v≤4294967296):=(⟨v0,by omega⟩:0≤v∧v≤4294967296);have hw1:IntKind.i64.wrap (64+1028*v+4)=64+1028*v+4:=by rw[IntKind.wrap_i64];omega
 clear c1 c2 c3 c4 c5 c6 c7 h hR v0 v1;obtain⟨z,hz⟩:∃z,z=64+1028*v:=⟨_,rfl⟩;have HFA:Hid (∀W,Calls Tryz.prog 57 #[.int .i64 v] W fun e w'=>e=.returned (.int .i64 z)∧w'=W):=fun W=>by rw[hz];exact cframeAt v W V0.out.1 V0.out.2
 rw[←hz] at hw1 HR;clear hz;go_enter Tryz.func53,Tryz.ntmps53;go_wp2_with fail
 go_region_with (first | (go_at_call 57;refine(HFA.out _).mono ?_;rintro e w3⟨rfl,hw⟩;rw[hw];clear hw) | (go_at_call 55;refine(HR.out _ (HP.out.below ((Below.refl _ _).drew))).mono ?_;rintro e w4⟨rfl,hw⟩;rw[hw];clear hw))
 all_goals
  go_wp2
  go_ret2
  exact⟨rfl,(Below.refl _ _).drew⟩
theorem cframed (v:Int)(X:World)(B D G bp bf m:Nat)(L:LS)(S:DS)(h:PL X B D G bp bf m L S)(v0:0≤v)(v1:v≤1000000):Calls Tryz.prog 53 #[(.pointer (some ⟨G,0,none⟩)),.int .i64 v] X fun e w'=>e=.returned (.tuple #[.string (rdS 1 (64+1028*v+4) 1024 S.lb S.down),.int .i64 (rdE 1 (64+1028*v+4) 1024 S.lb S.down)])∧Below X.heap.size X w':=
 cframed0 v X B D G bp bf m L S h v0 v1 _ _ (fun W hW=>creadD 1 (64+1028*v+4) 1024 W B D S hW)
def rdF (S:DS)(v:Int):ByteArray×Int:=(rdS 1 (64+1028*v+4) 1024 S.lb S.down,rdE 1 (64+1028*v+4) 1024 S.lb S.down)
def rdL (L:LS)(S:DS)(n:Int):ByteArray×Int:=
 if ¬isPg n=true then(⟨#[]⟩,1)
 else match L.fh n with
  | some v=>rdF S v
  | none => match L.pl n with
   | some v=>rdF S v
   | none=>if S.down then(⟨#[]⟩,2) else if((S.lb 0).length:Int)/1024≤n then(⟨#[]⟩,7) else(rdS 0 (1024*n) 1024 S.lb S.down,rdE 0 (1024*n) 1024 S.lb S.down)
theorem creadL (n:Int)(X:World)(B D G bp bf m:Nat)(L:LS)(S:DS)(h:PL X B D G bp bf m L S)(hp:okM L.pl)(hf:okM L.fh):Calls Tryz.prog 11 #[(.pointer (some ⟨G,0,none⟩)),.int .i64 n] X fun e w'=>e=.returned (.tuple #[.string (rdL L S n).1,.int .i64 (rdL L S n).2])∧Below X.heap.size X w':=by
 by_cases h1:isPg n=true
 ·have hn:=of_decide_eq_true h1;have i64n:i64 n:=i64_in (by omega) (by omega);have kf:=h.mf.look i64n;have kp:=h.mp.look i64n;have HI:Hid (isPg n=true):=h1;have HPL:Hid (PL X B D G bp bf m L S):=h;obtain⟨c0,c1,c2,c3,c4,c5,c6,c7⟩:=h.cells;clear c1 c2 c3 c4 c5;cases hF:L.fh n with
  | some v =>
   have HE:Hid (rdL L S n=rdF S v):=by
    show rdL L S n=rdF S v;unfold rdL;rw[if_neg (fun h=>h h1),hF]
   have HV:Hid (0≤v∧v≤1000000):=hf n v hF;rw[hF] at kf;have kf':(Instr.lookup 94 (.map (some bf)) (.int .i64 n) true).run Tryz.prog X=.ok (.tuple #[.int .i64 v,.bool true]) X:=kf;clear kf kp hF h h1 hp hf;obtain⟨q,r,hqr⟩:∃q r,rdF S v=(q,r):=⟨_,_,rfl⟩;have HC:Hid (∀W,PL W B D G bp bf m L S→Calls Tryz.prog 53 #[(.pointer (some ⟨G,0,none⟩)),.int .i64 v] W fun e w'=>e=.returned (.tuple #[.string q,.int .i64 r])∧Below W.heap.size W w'):=fun W hW=>by
    have:=cframed v W B D G bp bf m L S hW HV.out.1 HV.out.2;have e1:rdS 1 (64+1028*v+4) 1024 S.lb S.down=q:=congrArg Prod.fst hqr;have e2:rdE 1 (64+1028*v+4) 1024 S.lb S.down=r:=congrArg Prod.snd hqr;rw[e1,e2] at this;exact this
   rw[HE.out,hqr];clear hqr HE;go_enter Tryz.func11,Tryz.ntmps11;go_wp2_with fail
   refine(cisPage n _).mono ?_;rintro e w1⟨rfl,hw⟩;rw[hw];clear hw;rw[HI.out];go_wp2_with fail
   refine(HC.out _ HPL.out).mono ?_;rintro e w2⟨rfl,hb2⟩;go_wp2
   go_ret2
   exact⟨rfl,hb2⟩
  | none =>
   rw[hF] at kf;have kf':(Instr.lookup 94 (.map (some bf)) (.int .i64 n) true).run Tryz.prog X=.ok (.tuple #[.int .i64 0,.bool false]) X:=kf;cases hQ:L.pl n with
   | some v =>
    have HE:Hid (rdL L S n=rdF S v):=by
     show rdL L S n=rdF S v;unfold rdL;rw[if_neg (fun h=>h h1),hF];show(match L.pl n with | some v=>rdF S v | none=>_)=_;rw[hQ]
    have HV:Hid (0≤v∧v≤1000000):=hp n v hQ;rw[hQ] at kp;have kp':(Instr.lookup 94 (.map (some bp)) (.int .i64 n) true).run Tryz.prog X=.ok (.tuple #[.int .i64 v,.bool true]) X:=kp;clear kf kp hF hQ h h1 hp hf;obtain⟨q,r,hqr⟩:∃q r,rdF S v=(q,r):=⟨_,_,rfl⟩;have HC:Hid (∀W,PL W B D G bp bf m L S→Calls Tryz.prog 53 #[(.pointer (some ⟨G,0,none⟩)),.int .i64 v] W fun e w'=>e=.returned (.tuple #[.string q,.int .i64 r])∧Below W.heap.size W w'):=fun W hW=>by
     have:=cframed v W B D G bp bf m L S hW HV.out.1 HV.out.2;have e1:rdS 1 (64+1028*v+4) 1024 S.lb S.down=q:=congrArg Prod.fst hqr;have e2:rdE 1 (64+1028*v+4) 1024 S.lb S.down=r:=congrArg Prod.snd hqr;rw[e1,e2] at this;exact this
    rw[HE.out,hqr];clear hqr HE;go_enter Tryz.func11,Tryz.ntmps11;go_wp2_with fail
    refine(cisPage n _).mono ?_;rintro e w1⟨rfl,hw⟩;rw[hw];clear hw;rw[HI.out];go_wp2_with fail
    refine(HC.out _ HPL.out).mono ?_;rintro e w2⟨rfl,hb2⟩;go_wp2
    go_ret2
    exact⟨rfl,hb2⟩
   | none =>
    rw[hQ] at kp;have kp':(Instr.lookup 94 (.map (some bp)) (.int .i64 n) true).run Tryz.prog X=.ok (.tuple #[.int .i64 0,.bool false]) X:=kp;have HE:Hid (rdL L S n=if S.down then(⟨#[]⟩,2) else if((S.lb 0).length:Int)/1024≤n then(⟨#[]⟩,7) else(rdS 0 (1024*n) 1024 S.lb S.down,rdE 0 (1024*n) 1024 S.lb S.down)):=by
     show rdL L S n=_;unfold rdL;rw[if_neg (fun h=>h h1),hF];show(match L.pl n with | some v=>rdF S v | none=>_)=_;rw[hQ]
    have n0:=hn.1;have n1:=hn.2;clear kf kp hF hQ h h1 hp hf hn;cases hd:S.down with
    | true =>
     have ea:askE 0 0 0 S.down=2:=by rw[hd];rfl
     have es:sizV 0 S.lb S.down=0:=by unfold sizV;rw[ea];rfl
     have HA:Hid _:=ea;have HS:Hid _:=es;have HR:Hid (rdL L S n=(⟨#[]⟩,2)):=HE.out.trans (by rw[hd];rfl);rw[HR.out];clear HE ea es hd HR;go_enter Tryz.func11,Tryz.ntmps11;go_wp2_with fail
     refine(cisPage n _).mono ?_;rintro e w1⟨rfl,hw⟩;rw[hw];clear hw;rw[HI.out];go_wp2_with fail
     refine(csizeD 0 _ B D S HPL.out.dsk).mono ?_;rintro e w2⟨rfl,hw⟩;rw[hw];clear hw;rw[HA.out,HS.out];go_wp2
     go_ret2
     exact⟨rfl,Below.refl _ _⟩
    | false =>
     have ea:askE 0 0 0 S.down=0:=by rw[hd];rfl
     have es:sizV 0 S.lb S.down=((S.lb 0).length:Int):=by unfold sizV;rw[if_pos ea];rfl
     have HA:Hid _:=ea;have HS:Hid _:=es;by_cases hl:((S.lb 0).length:Int)/1024≤n
     ·have HR:Hid (rdL L S n=(⟨#[]⟩,7)):=HE.out.trans (by rw[hd,if_neg (by decide),if_pos hl]);rw[HR.out];clear HE ea es hd HR;go_enter Tryz.func11,Tryz.ntmps11;go_wp2_with fail
      refine(cisPage n _).mono ?_;rintro e w1⟨rfl,hw⟩;rw[hw];clear hw;rw[HI.out];go_wp2_with fail
      refine(csizeD 0 _ B D S HPL.out.dsk).mono ?_;rintro e w2⟨rfl,hw⟩;rw[hw];clear hw;rw[HA.out,HS.out];go_wp2
      go_ret2
      exact⟨rfl,Below.refl _ _⟩
     ·obtain⟨q,hq⟩:∃q,q=rdS 0 (1024*n) 1024 S.lb S.down:=⟨_,rfl⟩;obtain⟨r,hr⟩:∃r,r=rdE 0 (1024*n) 1024 S.lb S.down:=⟨_,rfl⟩;have HR:Hid (rdL L S n=(q,r)):=HE.out.trans (by rw[hq,hr,hd,if_neg (by decide),if_neg hl]);have HC:Hid (∀W,PDs W B D S→Calls Tryz.prog 55 #[(.pointer (some ⟨D,0,none⟩)),.int .i64 0,.int .i64 (1024*n),.int .i64 1024] W fun e w'=>e=.returned (.tuple #[.string q,.int .i64 r])∧w'=W):=fun W hW=>by rw[hq,hr];exact creadD 0 (1024*n) 1024 W B D S hW
      have hl':decide (((S.lb 0).length:Int)/1024≤n)=false:=decide_eq_false hl;have hlen:=HPL.out.dsk.len 0 (by decide);have hw2:wrap64 (((S.lb 0).length:Int)/1024)=((S.lb 0).length:Int)/1024:=by unfold wrap64;omega
      have hw1:IntKind.i64.wrap (1024*n)=1024*n:=by rw[IntKind.wrap_i64];omega
      rw[HR.out];clear HE ea es hd HR hq hr hl;go_enter Tryz.func11,Tryz.ntmps11;go_wp2_with fail
      refine(cisPage n _).mono ?_;rintro e w1⟨rfl,hw⟩;rw[hw];clear hw;rw[HI.out];go_wp2_with fail
      refine(csizeD 0 _ B D S HPL.out.dsk).mono ?_;rintro e w2⟨rfl,hw⟩;rw[hw];clear hw;rw[HA.out,HS.out];go_wp2_with fail
      refine(HC.out _ HPL.out.dsk).mono ?_;rintro e w3⟨rfl,hw⟩;rw[hw];clear hw;go_wp2
      go_ret2
      exact⟨rfl,Below.refl _ _⟩
 ·have HE:Hid (rdL L S n=(⟨#[]⟩,1)):=if_pos h1;have hI:isPg n=false:=by simpa using h1
  have HI:Hid (isPg n=false):=hI;rw[HE.out];clear h h1 hp hf HE hI;go_enter Tryz.func11,Tryz.ntmps11;go_wp2_with fail
  refine(cisPage n _).mono ?_;rintro e w1⟨rfl,hw⟩;rw[hw];clear hw;rw[HI.out];go_wp2
  go_ret2
  exact⟨rfl,Below.refl _ _⟩
def frT (log:List UInt8)(i:Nat):ByteArray:=⟨((log.drop (64+1028*i)).take 4).toArray⟩
def frN (log:List UInt8)(i:Nat):Nat:=numB (frT log i) 0
def fndM (log:List UInt8)(F:Int→Option Int):Nat→Int→Option Int
 | 0=>F
 | i+1=>updM (fndM log F i) (frN log i) i
theorem readN (S:DS)(hd:S.down=false)(i:Nat)(hi:64+1028*(i+1)≤(S.lb 2).length)(hl:(S.lb 2).length≤67108864):rdE 1 (64+1028*(i:Int)) 4 S.lb S.down=0∧rdS 1 (64+1028*(i:Int)) 4 S.lb S.down=frT (S.lb 2) i∧(frT (S.lb 2) i).size=4:=by
 have ha:askE 1 (64+1028*(i:Int)) 4 S.down=0:=by
  unfold askE fitsD;rw[hd,if_pos (by simp;omega)];rfl
 have he:rdE 1 (64+1028*(i:Int)) 4 S.lb S.down=0:=by
  unfold rdE;rw[if_pos ha];exact if_neg (by show ¬((S.lb 2).length:Int)<64+1028*(i:Int)+4;omega)
 refine⟨he,?_,?_⟩
 ·unfold rdS;rw[if_pos he];show(⟨(((S.lb 2).drop (64+1028*(i:Int)).toNat).take 4).toArray⟩:ByteArray)=⟨(((S.lb 2).drop (64+1028*i)).take 4).toArray⟩;rw[show(64+1028*(i:Int)).toNat=64+1028*i by omega]
 ·show(((S.lb 2).drop (64+1028*i)).take 4).toArray.size=4;simp;omega
theorem cfind (X:World)(B D G bp bf m:Nat)(L:LS)(S:DS)(h:PL X B D G bp bf m L S)(hB:B≤X.heap.size)(hm:m+L.fr≤900000)(hd:S.down=false)(hf:0<L.fr→64+1028*L.fr≤(S.lb 2).length):Calls Tryz.prog 47 #[(.pointer (some ⟨G,0,none⟩))] X fun e w'=>e=.returned (.int .i64 0)∧PL w' B D G bp bf (m+L.fr) { L with pl:=fndM (S.lb 2) L.pl L.fr } S∧BelL G bp bf B X w'∧But X w' (some bp):=by
 have hlen:=h.dsk.len 2 (by decide);obtain⟨c0,c1,c2,c3,c4,c5,c6,c7⟩:=h.cells;have HP:Hid (PL X B D G bp bf m L S):=h;have HB0:Hid (B≤X.heap.size):=hB;have HR:Hid (∀i,i<L.fr→rdE 1 (64+1028*(i:Int)) 4 S.lb S.down=0∧rdS 1 (64+1028*(i:Int)) 4 S.lb S.down=frT (S.lb 2) i∧(frT (S.lb 2) i).size=4):=fun i hi=>readN S hd i (by have:=hf (by omega);omega) hlen
 clear h hB hd c1 c2 c3 c4 c6 c7 c0;go_enter Tryz.func47,Tryz.ntmps47;go_wp2_with fail
 go_loopw [10] (fun u Y=>∃i:Nat,u=.int .i64 i∧i≤L.fr∧Hid (PL Y B D G bp bf (m+i) { L with pl:=fndM (S.lb 2) L.pl i } S)∧Hid (BelL G bp bf B X Y)∧Hid (But X Y (some bp))) (fun u _=>L.fr-(intOf u).toNat)
 case atStart=>exact⟨0,rfl,Nat.zero_le _,HP.out,BelL.refl _ _ _ _ _,But.refl _ _⟩
 case round =>
  clear c5;obtain⟨i,rfl,hi,HL,HF,HG⟩:=hrel;by_cases hlt:i<L.fr
  ·have k1:(i:Int)<(L.fr:Int):=by omega
   obtain⟨c0,c1,c2,c3,c4,c5,c6,c7⟩:=HL.out.cells;clear c1 c2 c3 c4 c5 c7;obtain⟨e1,e2,e3⟩:=HR.out i hlt;have f0:Hid ((0:Int)≤(i:Int)∧(i:Int)≤4294967296):=(⟨by omega,by omega⟩:(0:Int)≤(i:Int)∧(i:Int)≤4294967296);have HC:Hid (∀W,PDs W B D S→Calls Tryz.prog 55 #[(.pointer (some ⟨D,0,none⟩)),.int .i64 1,.int .i64 (64+1028*(i:Int)),.int .i64 4] W fun e w'=>e=.returned (.tuple #[.string (frT (S.lb 2) i),.int .i64 0])∧w'=W):=fun W hW=>by
    have:=creadD 1 (64+1028*(i:Int)) 4 W B D S hW;rw[e1,e2] at this;exact this
   have HN:Hid (∀W,Calls Tryz.prog 92 #[.string (frT (S.lb 2) i),.int .i64 0] W fun e w'=>e=.returned (.int .i64 (frN (S.lb 2) i:Nat))∧w'=W):=fun W=>cnumber (frT (S.lb 2) i) 0 W (by omega) (by omega)
   have hnl:Hid (frN (S.lb 2) i<4294967296):=numB_lt _ _;have HM:Hid (fndM (S.lb 2) L.pl (i+1)=updM (fndM (S.lb 2) L.pl i) (frN (S.lb 2) i) i):=rfl;clear e1 e2 e3;generalize frT (S.lb 2) i=tx at *;generalize frN (S.lb 2) i=nm at *;go_wp2_with fail
   go_region_with (first | (go_at_call 57;refine(cframeAt _ _ f0.out.1 f0.out.2).mono ?_;rintro e w3⟨rfl,hw⟩;rw[hw];clear hw) | (go_at_call 55;refine(HC.out _ (HL.out.dsk.below ((Below.refl _ _).drew))).mono ?_;rintro e w4⟨rfl,hw⟩;rw[hw];clear hw))
   all_goals
    have hL2:PL wr.drew.drew B D G bp bf (m+i) { L with pl:=fndM (S.lb 2) L.pl i } S:=HL.out.below (((Below.refl _ _).drew).drew);obtain⟨Y,hrun,hMI,hgY⟩:=hL2.mp.put (by omega) (x:=(nm:Int)) (v:=(i:Int)) (i64_in (by omega) (by have:=hnl.out;omega)) (i64_in (by omega) (by omega));have HY:Hid (PL Y B D G bp bf (m+(i+1)) { L with pl:=fndM (S.lb 2) L.pl (i+1)} S):=by
     show PL _ _ _ _ _ _ _ _ _;rw[HM.out];exact hL2.places hgY hMI (by omega)
    have HFY:Hid (BelL G bp bf B X Y):=(HF.out.trans (below_log (((Below.refl _ _).drew).drew) (Nat.le_trans HB0.out HF.out.size) G bp bf)).trans (grown_log hgY (Nat.le_trans HB0.out HF.out.size) (.inr (.inl rfl)) HL.out.low.2.1);have HGY:Hid (But X Y (some bp)):=HG.out.trans ⟨hgY.os,hgY.tape,hgY.output,hgY.size,hgY.block⟩;clear hMI hgY hL2;go_wp2_with fail
    go_region_with (first | (go_at_call 92;refine(HN.out _).mono ?_;rintro e w5⟨rfl,hw⟩;rw[hw];clear hw))
    all_goals
     go_wp2
     go_roundw
     case rel=>exact⟨i+1,by go_num,by omega,HY,HFY,HGY⟩
     case measure=>simp[intOf];omega
  ·obtain rfl:i=L.fr:=by omega
   go_wp2;go_ret;exact⟨rfl,HL.out,HF.out,HG.out⟩
theorem belowT (h:Below X.heap.size X Y)(hB:B≤X.heap.size):BelT T B X Y:=⟨h.mono hB,fun b hb _=>h.block b hb⟩
theorem cb1 (X:World)(B D G bp bf m k b:Nat)(L:LS)(S:DS)(h:PL X B D G bp bf m L S)(hb:X.cell? ⟨b,0,none⟩=some (.pointer (some ⟨G,0,none⟩)))(hB:B≤X.heap.size)(ho:okS S k)(hk:k≤900000)(r:Int)(S1:DS)(h1:opD S 1 0 ⟨#[]⟩ true=(r,S1)):Calls Tryz.prog 86 #[(.pointer (some ⟨b,0,none⟩))] X fun e w'=>e=.returned (.int .i64 r)∧PL w' B D G bp bf m L S1∧BelT tyP B X w':=by
 obtain⟨c0,c1,c2,c3,c4,c5,c6,c7⟩:=h.cells;have HP:Hid (PL X B D G bp bf m L S):=h;have HB0:Hid (B≤X.heap.size):=hB;have HO:Hid (okS S k∧k≤1000000):=(⟨ho,by omega⟩:okS S k∧k≤1000000);have H1:Hid _:=h1;clear h hB ho hk h1 c1 c2 c3 c4 c5 c6 c7;go_enter Tryz.func86,Tryz.ntmps86;go_wp2_with fail
 refine(ccutD 1 0 _ B D S k HP.out.dsk HB0.out HO.out.1 HO.out.2).mono ?_;rw[H1.out];rintro e w1⟨rfl,hp1,hb1⟩;go_wp2;go_ret;exact⟨rfl,HP.out.disk hb1 hp1,hb1⟩
theorem cb2 (X:World)(B D G bp bf m k b:Nat)(L:LS)(S:DS)(h:PL X B D G bp bf m L S)(hb:X.cell? ⟨b,0,none⟩=some (.pointer (some ⟨G,0,none⟩)))(hB:B≤X.heap.size)(ho:okS S k)(hk:k≤900000)(r:Int)(S1:DS)(h1:synD S 1=(r,S1)):Calls Tryz.prog 88 #[(.pointer (some ⟨b,0,none⟩))] X fun e w'=>e=.returned (.int .i64 r)∧PL w' B D G bp bf m L S1∧BelT tyP B X w':=by
 obtain⟨c0,c1,c2,c3,c4,c5,c6,c7⟩:=h.cells;have HP:Hid (PL X B D G bp bf m L S):=h;have HB0:Hid (B≤X.heap.size):=hB;have HO:Hid (okS S k∧k≤1000000):=(⟨ho,by omega⟩:okS S k∧k≤1000000);have H1:Hid _:=h1;clear h hB ho hk h1 c1 c2 c3 c4 c5 c6 c7;go_enter Tryz.func88,Tryz.ntmps88;go_wp2_with fail
 refine(csyncD 1 _ B D S k HP.out.dsk HB0.out HO.out.1 HO.out.2).mono ?_;rw[H1.out];rintro e w1⟨rfl,hp1,hb1⟩;go_wp2;go_ret;exact⟨rfl,HP.out.disk hb1 hp1,hb1⟩
theorem cb4 (X:World)(B D G bp bf m k b:Nat)(L:LS)(S:DS)(h:PL X B D G bp bf m L S)(hb:X.cell? ⟨b,0,none⟩=some (.pointer (some ⟨G,0,none⟩)))(hB:B≤X.heap.size)(ho:okS S k)(hk:k≤900000)(r:Int)(S1:DS)(h1:synD S 1=(r,S1)):Calls Tryz.prog 91 #[(.pointer (some ⟨b,0,none⟩))] X fun e w'=>e=.returned (.int .i64 r)∧PL w' B D G bp bf m L S1∧BelT tyP B X w':=by
 obtain⟨c0,c1,c2,c3,c4,c5,c6,c7⟩:=h.cells;have HP:Hid (PL X B D G bp bf m L S):=h;have HB0:Hid (B≤X.heap.size):=hB;have HO:Hid (okS S k∧k≤1000000):=(⟨ho,by omega⟩:okS S k∧k≤1000000);have H1:Hid _:=h1;clear h hB ho hk h1 c1 c2 c3 c4 c5 c6 c7;go_enter Tryz.func91,Tryz.ntmps91;go_wp2_with fail
 refine(csyncD 1 _ B D S k HP.out.dsk HB0.out HO.out.1 HO.out.2).mono ?_;rw[H1.out];rintro e w1⟨rfl,hp1,hb1⟩;go_wp2;go_ret;exact⟨rfl,HP.out.disk hb1 hp1,hb1⟩
theorem cb3 (X:World)(B D G bp bf m k b:Nat)(L:LS)(S:DS)(h:PL X B D G bp bf m L S)(hb:X.cell? ⟨b,0,none⟩=some (.pointer (some ⟨G,0,none⟩)))(hbl:b<X.heap.size)(hB:B≤X.heap.size)(ho:okS S k)(hk:k≤900000)(r:Int)(S1:DS)(h1:opD S 1 0 (markB++txtB L.last.number L.last.frames L.last.pages) false=(r,S1)):Calls Tryz.prog 89 #[(.pointer (some ⟨b,0,none⟩))] X fun e w'=>e=.returned (.int .i64 r)∧PL w' B D G bp bf m L S1∧BelT tyP B X w':=by
 obtain⟨c0,c1,c2,c3,c4,c5,c6,c7⟩:=h.cells;have hG:=h.lt;have HP:Hid (PL X B D G bp bf m L S):=h;have HB0:Hid (B≤X.heap.size):=hB;have HO:Hid (okS S k∧k≤1000000):=(⟨ho,by omega⟩:okS S k∧k≤1000000);have h1':opD S 1 0 ((⟨#[114,101,108,115,116,111,114,101,32,108,111,103,32,48,48,49]⟩:ByteArray)++txtB L.last.number L.last.frames L.last.pages) false=(r,S1):=h1;have H1:Hid _:=h1';have ts:=txtB_size L.last.number L.last.frames L.last.pages;clear h hB ho hk h1 h1' c5 c6 c7;go_enter Tryz.func89,Tryz.ntmps89;go_wp2_with fail
 go_region_with (first | (go_at_call 90;refine(ctext L.last.slot L.last.number L.last.frames L.last.pages _).mono ?_;rintro e w4⟨rfl,hb4⟩;have HX4:Hid (Below X.heap.size X w4):=undrewB hb4;obtain⟨hc4,hf4⟩:=bcell HX4.out;clear hb4) | (go_at_call 58;refine(cwriteD 1 0 _ _ B D S k (HP.out.dsk.below HX4.out) (Nat.le_trans HB0.out HX4.out.size) HO.out.1 HO.out.2).mono ?_;rw[H1.out];rintro e w5⟨rfl,hp5,hb5⟩))
 all_goals
  have HL5:Hid (PL w5 B D G bp bf m L S1):=(HP.out.below HX4.out).disk hb5 hp5;have HF5:Hid (BelT tyP B X w5):=(belowT HX4.out HB0.out).trans hb5;clear hp5 hb5 HX4 hc4 hf4;go_wp2;go_ret;exact⟨rfl,HL5.out,HF5.out⟩
theorem wcell1 {W:World}(h:W.heap[b]?=some (.cells #[v] t (0,0))):W.cell? ⟨b,0,none⟩=some v:=by simp[World.cell?,h]
theorem plSet4 {L:LS}(h:PL X B D G bp bf n L S)(c:Cm):PL ((((X.setCell ⟨G,1,none⟩ (.int .i64 c.slot)).setCell ⟨G,2,none⟩ (.int .i64 c.number)).setCell ⟨G,3,none⟩ (.int .i64 c.frames)).setCell ⟨G,4,none⟩ (.int .i64 c.pages)) B D G bp bf n { L with last:=c } S:=by
 have h1:PL (X.setCell ⟨G,1,none⟩ (.int .i64 c.slot)) B D G bp bf n { L with last:=⟨c.slot,L.last.number,L.last.frames,L.last.pages⟩} S:=h.own rfl rfl rfl;have h2:PL ((X.setCell ⟨G,1,none⟩ (.int .i64 c.slot)).setCell ⟨G,2,none⟩ (.int .i64 c.number)) B D G bp bf n { L with last:=⟨c.slot,c.number,L.last.frames,L.last.pages⟩} S:=h1.own rfl rfl rfl;have h3:PL (((X.setCell ⟨G,1,none⟩ (.int .i64 c.slot)).setCell ⟨G,2,none⟩ (.int .i64 c.number)).setCell ⟨G,3,none⟩ (.int .i64 c.frames)) B D G bp bf n { L with last:=⟨c.slot,c.number,c.frames,L.last.pages⟩} S:=h2.own rfl rfl rfl;exact h3.own rfl rfl rfl
structure Beg (S S1 S2 S3 S4:DS) (pg:Nat):Prop where
 a:opD S 1 0 ⟨#[]⟩ true=(0,S1)
 b:synD S1 1=(0,S2)
 c:opD S2 1 0 (markB++txtB 1 0 pg) false=(0,S3)
 d:synD S3 1=(0,S4)
theorem cbegin_ok (X:World)(B D G bp bf m k:Nat)(L:LS)(S S1 S2 S3 S4:DS)(h:PL X B D G bp bf m L S)(hB:B≤X.heap.size)(ho:okS S k)(hk:k≤800000)(hd:S.down=false)(pg:Nat)(hpg:pg=(S.lb 0).length/1024)(hS:Beg S S1 S2 S3 S4 pg):Calls Tryz.prog 46 #[(.pointer (some ⟨G,0,none⟩))] X fun e w'=>e=.returned (.int .i64 0)∧PL w' B D G bp bf m { L with last:=⟨0,1,0,pg⟩} S4∧BelL G bp bf B X w':=by
 have hlen:=h.dsk.len 0 (by decide);obtain⟨c0,c1,c2,c3,c4,c5,c6,c7⟩:=h.cells;have ea:askE 0 0 0 S.down=0:=by rw[hd];rfl
 have es:sizV 0 S.lb S.down=((S.lb 0).length:Int):=by unfold sizV;rw[if_pos ea];rfl
 have EA:Hid _:=ea;have ES:Hid _:=es;have hG:=h.lt;have f1:=h.unfrozen 1;have f2:=h.unfrozen 2;have f3:=h.unfrozen 3;have f4:=h.unfrozen 4;have HP:Hid (PL X B D G bp bf m L S):=h;have HB0:Hid (B≤X.heap.size):=hB;have HS:Hid (Beg S S1 S2 S3 S4 pg):=hS;clear ea es h hS;go_enter Tryz.func46,Tryz.ntmps46;go_wp2_with fail
 refine(csizeD 0 _ B D S (HP.out.dsk.below ((Below.refl _ _).alloc (Nat.le_refl _) _))).mono ?_;rintro e w1⟨rfl,hw⟩;rw[hw];clear hw;rw[EA.out,ES.out];go_wp2_with fail
 have e8:((S.lb 0).length:Int)/1024=(pg:Int):=by rw[hpg];omega
 rw[e8];have HL0:Hid (PL ((((((X.setCell ⟨G,1,none⟩ (.int .i64 0)).setCell ⟨G,2,none⟩ (.int .i64 1)).setCell ⟨G,3,none⟩ (.int .i64 0)).setCell ⟨G,4,none⟩ (.int .i64 pg)).alloc (.cells #[(.pointer (some ⟨G,0,none⟩))] 27)).alloc (.cells #[.func (Fn.func 86) #[] #[(.pointer (some ⟨X.heap.size,0,none⟩))],.func (Fn.func 88) #[] #[(.pointer (some ⟨X.heap.size,0,none⟩))],.func (Fn.func 89) #[] #[(.pointer (some ⟨X.heap.size,0,none⟩))],.func (Fn.func 91) #[] #[(.pointer (some ⟨X.heap.size,0,none⟩))]] 49)) B D G bp bf m { L with last:=⟨0,1,0,pg⟩} S):=(plSet4 HP.out ⟨0,1,0,pg⟩).below (((Below.refl _ _).alloc (Nat.le_refl _) _).alloc (by simp) _);have HF0:Hid (BelL G bp bf B X ((((((X.setCell ⟨G,1,none⟩ (.int .i64 0)).setCell ⟨G,2,none⟩ (.int .i64 1)).setCell ⟨G,3,none⟩ (.int .i64 0)).setCell ⟨G,4,none⟩ (.int .i64 pg)).alloc (.cells #[(.pointer (some ⟨G,0,none⟩))] 27)).alloc (.cells #[.func (Fn.func 86) #[] #[(.pointer (some ⟨X.heap.size,0,none⟩))],.func (Fn.func 88) #[] #[(.pointer (some ⟨X.heap.size,0,none⟩))],.func (Fn.func 89) #[] #[(.pointer (some ⟨X.heap.size,0,none⟩))],.func (Fn.func 91) #[] #[(.pointer (some ⟨X.heap.size,0,none⟩))]] 49))):=(grown_log (((((But.refl X (some G)).set 1 _).set 2 _).set 3 _).set 4 _) HB0.out (.inl rfl) HP.out.low.1).trans (below_log (((Below.refl _ _).alloc (Nat.le_refl _) _).alloc (by simp) _) (by simpa using HB0.out) G bp bf);have hs4:((((X.setCell ⟨G,1,none⟩ (.int .i64 0)).setCell ⟨G,2,none⟩ (.int .i64 1)).setCell ⟨G,3,none⟩ (.int .i64 0)).setCell ⟨G,4,none⟩ (.int .i64 pg)).heap.size=X.heap.size:=by simp
 have BX0:Hid (((((((X.setCell ⟨G,1,none⟩ (.int .i64 0)).setCell ⟨G,2,none⟩ (.int .i64 1)).setCell ⟨G,3,none⟩ (.int .i64 0)).setCell ⟨G,4,none⟩ (.int .i64 pg)).alloc (.cells #[(.pointer (some ⟨G,0,none⟩))] 27)).alloc (.cells #[.func (Fn.func 86) #[] #[(.pointer (some ⟨X.heap.size,0,none⟩))],.func (Fn.func 88) #[] #[(.pointer (some ⟨X.heap.size,0,none⟩))],.func (Fn.func 89) #[] #[(.pointer (some ⟨X.heap.size,0,none⟩))],.func (Fn.func 91) #[] #[(.pointer (some ⟨X.heap.size,0,none⟩))]] 49)).heap[X.heap.size]?=some (.cells #[(.pointer (some ⟨G,0,none⟩))] 27 (0,0))):=by
  have:=(heap_alloc_old (((((X.setCell ⟨G,1,none⟩ (.int .i64 0)).setCell ⟨G,2,none⟩ (.int .i64 1)).setCell ⟨G,3,none⟩ (.int .i64 0)).setCell ⟨G,4,none⟩ (.int .i64 pg)).alloc (.cells #[(.pointer (some ⟨G,0,none⟩))] 27)) (.cells #[.func (Fn.func 86) #[] #[(.pointer (some ⟨X.heap.size,0,none⟩))],.func (Fn.func 88) #[] #[(.pointer (some ⟨X.heap.size,0,none⟩))],.func (Fn.func 89) #[] #[(.pointer (some ⟨X.heap.size,0,none⟩))],.func (Fn.func 91) #[] #[(.pointer (some ⟨X.heap.size,0,none⟩))]] 49) (by simp)).trans (heap_alloc_new ((((X.setCell ⟨G,1,none⟩ (.int .i64 0)).setCell ⟨G,2,none⟩ (.int .i64 1)).setCell ⟨G,3,none⟩ (.int .i64 0)).setCell ⟨G,4,none⟩ (.int .i64 pg)) (.cells #[(.pointer (some ⟨G,0,none⟩))] 27));rw[hs4] at this;exact this
 have FX0:Hid (((((((X.setCell ⟨G,1,none⟩ (.int .i64 0)).setCell ⟨G,2,none⟩ (.int .i64 1)).setCell ⟨G,3,none⟩ (.int .i64 0)).setCell ⟨G,4,none⟩ (.int .i64 pg)).alloc (.cells #[(.pointer (some ⟨G,0,none⟩))] 27)).alloc (.cells #[.func (Fn.func 86) #[] #[(.pointer (some ⟨X.heap.size,0,none⟩))],.func (Fn.func 88) #[] #[(.pointer (some ⟨X.heap.size,0,none⟩))],.func (Fn.func 89) #[] #[(.pointer (some ⟨X.heap.size,0,none⟩))],.func (Fn.func 91) #[] #[(.pointer (some ⟨X.heap.size,0,none⟩))]] 49)).heap[X.heap.size+1]?=some (.cells #[.func (Fn.func 86) #[] #[(.pointer (some ⟨X.heap.size,0,none⟩))],.func (Fn.func 88) #[] #[(.pointer (some ⟨X.heap.size,0,none⟩))],.func (Fn.func 89) #[] #[(.pointer (some ⟨X.heap.size,0,none⟩))],.func (Fn.func 91) #[] #[(.pointer (some ⟨X.heap.size,0,none⟩))]] 49 (0,0))):=by
  have:=heap_alloc_new (((((X.setCell ⟨G,1,none⟩ (.int .i64 0)).setCell ⟨G,2,none⟩ (.int .i64 1)).setCell ⟨G,3,none⟩ (.int .i64 0)).setCell ⟨G,4,none⟩ (.int .i64 pg)).alloc (.cells #[(.pointer (some ⟨G,0,none⟩))] 27)) (.cells #[.func (Fn.func 86) #[] #[(.pointer (some ⟨X.heap.size,0,none⟩))],.func (Fn.func 88) #[] #[(.pointer (some ⟨X.heap.size,0,none⟩))],.func (Fn.func 89) #[] #[(.pointer (some ⟨X.heap.size,0,none⟩))],.func (Fn.func 91) #[] #[(.pointer (some ⟨X.heap.size,0,none⟩))]] 49);rw[show(((((X.setCell ⟨G,1,none⟩ (.int .i64 0)).setCell ⟨G,2,none⟩ (.int .i64 1)).setCell ⟨G,3,none⟩ (.int .i64 0)).setCell ⟨G,4,none⟩ (.int .i64 pg)).alloc (.cells #[(.pointer (some ⟨G,0,none⟩))] 27)).heap.size=X.heap.size+1 by simp] at this;exact this
 have O0:Hid (okS S (k+0)):=ho;have O1:Hid (okS S1 (k+1)):=by have:=opD_ok ho 1 0 ⟨#[]⟩ true;rw[HS.out.a] at this;exact this
 have O2:Hid (okS S2 (k+2)):=by have:=synD_ok O1.out 1;rw[HS.out.b] at this;exact this
 have O3:Hid (okS S3 (k+3)):=by have:=opD_ok O2.out 1 0 (markB++txtB 1 0 pg) false;rw[HS.out.c] at this;exact this
 have HK0:Hid (k+0≤900000):=(by omega:k+0≤900000);have HK1:Hid (k+1≤900000):=(by omega:k+1≤900000);have HK2:Hid (k+2≤900000):=(by omega:k+2≤900000);have HK3:Hid (k+3≤900000):=(by omega:k+3≤900000);clear hs4 e8 ho hk hB c0 c1 c2 c3 c4 c5 c6 c7 f1 f2 f3 f4 hG;generalize ((((((X.setCell ⟨G,1,none⟩ (.int .i64 0)).setCell ⟨G,2,none⟩ (.int .i64 1)).setCell ⟨G,3,none⟩ (.int .i64 0)).setCell ⟨G,4,none⟩ (.int .i64 pg)).alloc (.cells #[(.pointer (some ⟨G,0,none⟩))] 27)).alloc (.cells #[.func (Fn.func 86) #[] #[(.pointer (some ⟨X.heap.size,0,none⟩))],.func (Fn.func 88) #[] #[(.pointer (some ⟨X.heap.size,0,none⟩))],.func (Fn.func 89) #[] #[(.pointer (some ⟨X.heap.size,0,none⟩))],.func (Fn.func 91) #[] #[(.pointer (some ⟨X.heap.size,0,none⟩))]] 49))=w0 at *;have b0:=wcell1 BX0.out;obtain⟨⟨q0,q1,q2,q3⟩,-,-⟩:=wcell4 FX0.out;refine wp_loop_rounds 5 ?_;rw[rounds_succ];go_wp2_with fail
 refine(cb1 w0 B D G bp bf m (k+0) X.heap.size _ S HL0.out b0 (Nat.le_trans HB0.out HF0.out.size) O0.out HK0.out 0 S1 HS.out.a).mono ?_;rintro e w1⟨rfl,hp,hb⟩;have HL1:Hid _:=hp;have HF1:Hid (BelL G bp bf B X w1):=HF0.out.trans (hb.log G bp bf);have BX1:Hid (w1.heap[X.heap.size]?=some (.cells #[(.pointer (some ⟨G,0,none⟩))] 27 (0,0))):=(hb.far _ (Array.getElem?_eq_some_iff.1 BX0.out).1 (far_of BX0.out (by decide))).trans BX0.out;have FX1:Hid (w1.heap[X.heap.size+1]?=some (.cells #[.func (Fn.func 86) #[] #[(.pointer (some ⟨X.heap.size,0,none⟩))],.func (Fn.func 88) #[] #[(.pointer (some ⟨X.heap.size,0,none⟩))],.func (Fn.func 89) #[] #[(.pointer (some ⟨X.heap.size,0,none⟩))],.func (Fn.func 91) #[] #[(.pointer (some ⟨X.heap.size,0,none⟩))]] 49 (0,0))):=(hb.far _ (Array.getElem?_eq_some_iff.1 FX0.out).1 (far_of FX0.out (by decide))).trans FX0.out;clear hp hb b0 q0 q1 q2 q3;have b1:=wcell1 BX1.out;obtain⟨⟨q0,q1,q2,q3⟩,-,-⟩:=wcell4 FX1.out;go_wp2_with fail
 rw[rounds_succ];go_wp2_with fail
 refine(cb2 w1 B D G bp bf m (k+1) X.heap.size _ S1 HL1.out b1 (Nat.le_trans HB0.out HF1.out.size) O1.out HK1.out 0 S2 HS.out.b).mono ?_;rintro e w2⟨rfl,hp,hb⟩;have HL2:Hid _:=hp;have HF2:Hid (BelL G bp bf B X w2):=HF1.out.trans (hb.log G bp bf);have BX2:Hid (w2.heap[X.heap.size]?=some (.cells #[(.pointer (some ⟨G,0,none⟩))] 27 (0,0))):=(hb.far _ (Array.getElem?_eq_some_iff.1 BX1.out).1 (far_of BX1.out (by decide))).trans BX1.out;have FX2:Hid (w2.heap[X.heap.size+1]?=some (.cells #[.func (Fn.func 86) #[] #[(.pointer (some ⟨X.heap.size,0,none⟩))],.func (Fn.func 88) #[] #[(.pointer (some ⟨X.heap.size,0,none⟩))],.func (Fn.func 89) #[] #[(.pointer (some ⟨X.heap.size,0,none⟩))],.func (Fn.func 91) #[] #[(.pointer (some ⟨X.heap.size,0,none⟩))]] 49 (0,0))):=(hb.far _ (Array.getElem?_eq_some_iff.1 FX1.out).1 (far_of FX1.out (by decide))).trans FX1.out;clear hp hb b1 q0 q1 q2 q3;have b2:=wcell1 BX2.out;obtain⟨⟨q0,q1,q2,q3⟩,-,-⟩:=wcell4 FX2.out;go_wp2_with fail
 rw[rounds_succ];go_wp2_with fail
 refine(cb3 w2 B D G bp bf m (k+2) X.heap.size _ S2 HL2.out b2 (Array.getElem?_eq_some_iff.1 BX2.out).1 (Nat.le_trans HB0.out HF2.out.size) O2.out HK2.out 0 S3 HS.out.c).mono ?_;rintro e w3⟨rfl,hp,hb⟩;have HL3:Hid _:=hp;have HF3:Hid (BelL G bp bf B X w3):=HF2.out.trans (hb.log G bp bf);have BX3:Hid (w3.heap[X.heap.size]?=some (.cells #[(.pointer (some ⟨G,0,none⟩))] 27 (0,0))):=(hb.far _ (Array.getElem?_eq_some_iff.1 BX2.out).1 (far_of BX2.out (by decide))).trans BX2.out;have FX3:Hid (w3.heap[X.heap.size+1]?=some (.cells #[.func (Fn.func 86) #[] #[(.pointer (some ⟨X.heap.size,0,none⟩))],.func (Fn.func 88) #[] #[(.pointer (some ⟨X.heap.size,0,none⟩))],.func (Fn.func 89) #[] #[(.pointer (some ⟨X.heap.size,0,none⟩))],.func (Fn.func 91) #[] #[(.pointer (some ⟨X.heap.size,0,none⟩))]] 49 (0,0))):=(hb.far _ (Array.getElem?_eq_some_iff.1 FX2.out).1 (far_of FX2.out (by decide))).trans FX2.out;clear hp hb b2 q0 q1 q2 q3;have b3:=wcell1 BX3.out;obtain⟨⟨q0,q1,q2,q3⟩,-,-⟩:=wcell4 FX3.out;go_wp2_with fail
 rw[rounds_succ];go_wp2_with fail
 refine(cb4 w3 B D G bp bf m (k+3) X.heap.size _ S3 HL3.out b3 (Nat.le_trans HB0.out HF3.out.size) O3.out HK3.out 0 S4 HS.out.d).mono ?_;rintro e w4⟨rfl,hp,hb⟩;have HL4:Hid _:=hp;have HF4:Hid (BelL G bp bf B X w4):=HF3.out.trans (hb.log G bp bf);have BX4:Hid (w4.heap[X.heap.size]?=some (.cells #[(.pointer (some ⟨G,0,none⟩))] 27 (0,0))):=(hb.far _ (Array.getElem?_eq_some_iff.1 BX3.out).1 (far_of BX3.out (by decide))).trans BX3.out;have FX4:Hid (w4.heap[X.heap.size+1]?=some (.cells #[.func (Fn.func 86) #[] #[(.pointer (some ⟨X.heap.size,0,none⟩))],.func (Fn.func 88) #[] #[(.pointer (some ⟨X.heap.size,0,none⟩))],.func (Fn.func 89) #[] #[(.pointer (some ⟨X.heap.size,0,none⟩))],.func (Fn.func 91) #[] #[(.pointer (some ⟨X.heap.size,0,none⟩))]] 49 (0,0))):=(hb.far _ (Array.getElem?_eq_some_iff.1 FX3.out).1 (far_of FX3.out (by decide))).trans FX3.out;clear hp hb b3 q0 q1 q2 q3;have b4:=wcell1 BX4.out;obtain⟨⟨q0,q1,q2,q3⟩,-,-⟩:=wcell4 FX4.out;go_wp2_with fail
 rw[rounds_succ];go_wp2;go_ret;exact⟨rfl,HL4.out,HF4.out⟩
end Go.Proofs.YtfjkockcgddgbaaGreat
