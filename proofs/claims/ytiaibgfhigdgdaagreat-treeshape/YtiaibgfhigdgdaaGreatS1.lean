/- a part -/
import Derived.Test.YtiaibgfhigdgdaaGreatS0
import Derived.Maps.OwnSet
import Derived.Maps.RangeWalk
import Derived.Maps.Ext
import Derived.Laws.Bits64b
set_option maxRecDepth 100000
set_option maxHeartbeats 8000000
namespace Go.Proofs.YtiaibgfhigdgdaaGreat
open Go.RowKit Go.Lib
variable {α:Type}{i B D B0 n m b:Nat}{ws:List Chg}{X w Y W w1:World}{vb:Nat→Value}{lb:Nat→List UInt8}{left count x:Int}{down c:Bool}{t s:ByteArray}{v:Value}{xs:List Value}{F:Int→Option Int}
attribute [local go_sem ↓] Go.wp_at_zero Go.wp_at_succ
theorem updF_same (f:Nat→α)(k:Nat):updF f k (f k)=f:=by
 funext i;unfold updF;split
 ·rename_i h;rw[h]
 ·rfl
theorem updF_two (f:Nat→α)(k:Nat)(v u:α):updF (updF f k v) k u=updF f k u:=by
 funext i;unfold updF;split<;>rfl
theorem take_snoc {l:List α}(h:i<l.length):l.take (i+1)=l.take i++[l[i]]:=by
 rw[List.take_add_one,List.getElem?_eq_getElem h];rfl
theorem othF_ok {f:Nat}(h:∀x∈ws,okC x):∀x∈othF f ws,okC x:=fun x hx=>h x (List.mem_filter.1 hx).1
theorem wcells {g cap:Nat}(h:PD X B D vb (.slice (some ⟨g,0,none⟩) ws.length cap) lb ws left count down)(hi:i<ws.length){xf p:Nat}(hx:ws[i]=⟨xf,p,t,c⟩):X.cell? ⟨g,i*4,none⟩=some (.int .i64 xf)∧X.cell? ⟨g,i*4+1,none⟩=some (.int .i64 p)∧X.cell? ⟨g,i*4+2,none⟩=some (.string t)∧X.cell? ⟨g,i*4+3,none⟩=some (.bool c):=by
 have k:∀j,j<4→X.cell? ⟨g,i*4+j,none⟩=(chgCells ⟨xf,p,t,c⟩)[j]?:=fun j hj=>by
  rw[h.wrow.cellAt (i*4+j) (by omega),chgs_get hi hj,hx]
 exact⟨k 0 (by decide),k 1 (by decide),k 2 (by decide),k 3 (by decide)⟩
theorem below_appC (h:BelT tyP B w X)(ho:X.ownsRow B0 181 4 v n xs)(hB:B≤B0)(hX:B≤X.heap.size)(hg:X.grownBy Y v.ownBlock):BelT tyP B w Y:=
 h.trans (BelT.row hg hX (fun b e=>⟨Nat.le_trans hB (row_nf (T:=tyP) (by decide) ho b e).1,(row_nf (by decide) ho b e).2⟩) (KpU.row ho (by decide) (by decide) hg))
theorem BelT.setTC {k:Nat}{vw:Value}(h:BelT tyP B w X)(hl:B=D)(hw:PD w B D vb vw lb ws left count down)(ho:X.ownsRow B0 181 4 v n xs):BelT tyP B w (X.setCell ⟨D,k,none⟩ v):=
 h.setD hl (fun _=>hw.nf) fun b e hb hu=>by
  by_cases hn:ownB w B b
  ·exact hn
  ·exact absurd (hu.of (h.u.stay hw.isD b hb hu hn)) (row_noU ho (by decide) b e)
def synPost (f:Int)(X:World)(B D:Nat)(vb:Nat→Value)(vw:Value)(lb:Nat→List UInt8)(ws:List Chg)(left count:Int)(down:Bool)(e:Ending)(w':World):Prop:=
 (¬askE f 0 0 down=0∧e=.returned (.int .i64 (askE f 0 0 down))∧w'=X) ∨
 (askE f 0 0 down=0∧left=0∧e=.returned (.int .i64 2)∧PD w' B D vb vw lb ws left count true∧BelT tyP B X w') ∨
 (askE f 0 0 down=0∧¬left=0∧e=.returned (.int .i64 0)∧(∃(f':Nat) (v' vw':Value),f=f'∧f'<2∧PD w' B D (updF vb (2*f'+1) v') vw' (updF lb (2*f'+1) (foldF f' ws (lb (2*f'+1)))) (othF f' ws) (decL left) (count+1) down)∧BelT tyP B X w')
theorem csync (f:Int)(X:World)(B D:Nat)(vb:Nat→Value)(vw:Value)(lb:Nat→List UInt8)(ws:List Chg)(left count:Int)(down:Bool)(h:PD X B D vb vw lb ws left count down)(hB:B≤X.heap.size)(hl:-9223372036854775808≤left∧left≤9223372036854775807)(hc:0≤count∧count≤4611686018427387904)(hw:ws.length≤1000000):Calls Tryz.prog 79 #[(.pointer (some ⟨D,0,none⟩)),.int .i64 f] X (synPost f X B D vb vw lb ws left count down):=by
 have H:Hid (PD X B D vb vw lb ws left count down):=h;obtain⟨i0,hi,hz0,hz1,hz2⟩:=info_parts infoC;have hlow:=h.low;obtain⟨aw,cw,rfl⟩:=owns_sliceC h.wrow;clear h;go_enter Tryz.func79,Tryz.ntmps79;go_wp2_with fail
 refine(cbegin f 0 0 X B D vb _ lb ws left count down H.out hl hc).mono ?_;rintro e w1 h;rcases h with⟨ha,rfl,rfl⟩ | ⟨ha,h0,rfl,hP,hb⟩ | ⟨ha,h0,rfl,hP,hb⟩
 ·have HA:Hid _:=ha;go_wp2_with fail
  go_ret;exact .inl ⟨HA.out,rfl,rfl⟩
 ·have HA:Hid _:=ha;have HP:Hid _:=hP;have HBB:Hid _:=but_below hb hB H.out hP;clear ha hP hb;go_wp2_with fail
  go_ret;exact .inr (.inl ⟨HA.out,h0,rfl,HP.out,HBB.out⟩)
 ·have HA:Hid _:=ha;have HP:Hid (PD w1 B D vb (.slice aw ws.length cw) lb ws (decL left) (count+1) down):=hP;have hBB:=but_below hb hB H.out hP;have hB1:B≤w1.heap.size:=Nat.le_trans hB hBB.size;have HBB:Hid _:=hBB;have HV:Hid _:=HP.out.vwlt;obtain⟨f',p',rfl,-,hf,-⟩:=ask_fits ha;have c4:=HP.out.cells.2.2.2.2.1;clear ha hP hb hBB;rcases(show f'=0∨f'=1 by omega) with rfl | rfl
  ·go_wp2_with fail
   go_loopw [6,20] (fun v y X=>∃(i:Nat) (v':Value),y=.int .i64 i∧i≤ws.length∧Hid (X.ownsRow w1.heap.size 181 4 v (othF 0 (ws.take i)).length (chgsCells (othF 0 (ws.take i))))∧Hid (PD X B D (updF vb 1 v') (.slice aw ws.length cw) (updF lb 1 (foldF 0 (ws.take i) (lb 1))) ws (decL left) (count+1) down)∧Hid (BelT tyP B w1 X)) (fun _ y _=>ws.length-(intOf y).toNat)
   case atStart=>exact⟨0,vb 1,rfl,Nat.zero_le _,World.ownsRow_nil _ _ _ _,(by show PD w1 B D (updF vb 1 (vb 1)) _ (updF lb 1 (lb 1)) ws _ _ down;rw[updF_same,updF_same];exact HP.out),BelT.refl _ _ _⟩
   case round =>
    obtain⟨i,v',rfl,hin,HO,HQ,HB⟩:=hrel;by_cases hlt:i<ws.length
    ·have ki:(0:Int)≤(i:Int):=by omega
     have kn:(i:Int)<(ws.length:Int):=by omega
     obtain⟨g,cap',ee,_,_⟩:=World.ownsRow.form HQ.out.wrow (by omega);injection ee with ee1 ee2 ee3;subst ee1 ee3;obtain⟨xf,p,t,c,hx⟩:∃xf p t c,ws[i]=(⟨xf,p,t,c⟩:Chg):=⟨_,_,_,_,rfl⟩;obtain⟨k1,k2,k3⟩:okC ⟨xf,p,t,c⟩:=hx ▸ HQ.out.oks _ (List.getElem_mem hlt);have HK3:Hid _:=k3;obtain⟨d0,d1,d2,d3⟩:=wcells HQ.out hlt hx;have hTk:ws.take (i+1)=ws.take i++[⟨xf,p,t,c⟩]:=by rw[take_snoc hlt,hx]
     have HT:Hid _:=hTk;have zb:=HB.out.size;have zg:=HQ.out.vwlt g rfl;have hole:=othF_le 0 (ws.take i);rw[List.length_take] at hole;clear hTk k3 hx;have H1:Hid (PD (wr.alloc (.cells #[.int .i64 xf,.int .i64 p,.string t,.bool c] 181)) B D (updF vb 1 v') (.slice (some ⟨g,0,none⟩) ws.length cw) (updF lb 1 (foldF 0 (ws.take i) (lb 1))) ws (decL left) (count+1) down):=HQ.out.below ((Below.refl _ _).alloc (Nat.le_refl _) _);have hBwr:B≤wr.heap.size:=Nat.le_trans hB1 zb;by_cases hxf:xf=0
     ·subst hxf;go_wp2_with fail
      refine(clast0 p t c k2 HK3.out _ B D _ _ _ ws _ _ down H1.out ?hs).mono ?_
      case hs=>simp;omega
      rintro e w2⟨rfl,⟨v2,hQ2⟩,hbb,hb2⟩;have HQ2:Hid (PD w2 B D (updF vb 1 v2) (.slice (some ⟨g,0,none⟩) ws.length cw) (updF lb 1 (foldF 0 (ws.take (i+1)) (lb 1))) ws (decL left) (count+1) down):=by
       show PD w2 B D (updF vb 1 v2) (.slice (some ⟨g,0,none⟩) ws.length cw) (updF lb 1 (foldF 0 (ws.take (i+1)) (lb 1))) ws (decL left) (count+1) down;rw[HT.out,foldF_snoc,if_pos rfl];rw[updF_two,updF_two,updF_at] at hQ2;exact hQ2
      have HO2:Hid (w2.ownsRow w1.heap.size 181 4 u6 (othF 0 (ws.take (i+1))).length (chgsCells (othF 0 (ws.take (i+1))))):=by
       show w2.ownsRow w1.heap.size 181 4 u6 (othF 0 (ws.take (i+1))).length (chgsCells (othF 0 (ws.take (i+1))));rw[HT.out,othF_snoc,if_pos rfl];exact row_kept2 H1.out (show 1<4 by decide) (World.ownsRow.alloc HO.out _) hb2
      have HB2:Hid (BelT tyP B w1 w2):=(HB.out.alloc hBwr _).trans hbb;clear hQ2 hbb hb2 d0 d1 d2 d3;go_wp2
      go_roundw
      case rel=>exact⟨i+1,v2,by go_num,by omega,HO2,HQ2,HB2⟩
      case measure=>simp[intOf];omega
     ·have hxf':¬(xf:Int)=0:=by omega
      have HOa:Hid ((wr.alloc (.cells #[.int .i64 xf,.int .i64 p,.string t,.bool c] 181)).ownsRow w1.heap.size 181 4 u6 (othF 0 (ws.take i)).length (chgsCells (othF 0 (ws.take i)))):=World.ownsRow.alloc HO.out _;have hn1:=newsC (wr.alloc (.cells #[.int .i64 xf,.int .i64 p,.string t,.bool c] 181)) xf p t c;have HN:Hid _:=hn1;clear hn1;go_wp2_with (at_builtin;go_must (refine wpList_append_lies _ rfl _ _ _ rfl w1.heap.size 181 i0 (.agg #[.int .i64 0,.int .i64 0,.string ⟨#[]⟩,.bool false]) 4 40 Tryz.underlying72 hi hz0 hz1 hz2 rfl (by decide) _ (othF 0 (ws.take i)).length (chgsCells (othF 0 (ws.take i))) rfl (World.ownsRow.alloc HOa.out _) ⟨wr.heap.size+1,0,none⟩ 1 1 [.int .i64 xf,.int .i64 p,.string t,.bool c] rfl rfl ?n0 ?r00 (by decide) ?r10 ?r20 ?r30 (wr.heap.size+2) (by simp) ?_))
      case r00=>simp[Value.oneCell']
      case r10=>unfold maxLen;omega
      case r20=>omega
      case r30=>first | omega | (simp;omega)
      intro g' cap2 w4 hown2 hgrow2 hat2 hlt4;have HB4:Hid (BelT tyP B w1 w4):=below_appC ((HB.out.alloc hBwr _).alloc (by simp;omega) _) (World.ownsRow.alloc HOa.out _) hB1 (by simp;omega) hgrow2;have HQ4:Hid (PD w4 B D (updF vb 1 v') (.slice (some ⟨g,0,none⟩) ws.length cw) (updF lb 1 (foldF 0 (ws.take (i+1)) (lb 1))) ws (decL left) (count+1) down):=by
       show PD w4 B D (updF vb 1 v') (.slice (some ⟨g,0,none⟩) ws.length cw) (updF lb 1 (foldF 0 (ws.take (i+1)) (lb 1))) ws (decL left) (count+1) down;rw[HT.out,foldF_snoc,if_neg hxf];exact PD.keptC (H1.out.below ((Below.refl _ _).alloc (Nat.le_refl _) _)) (World.ownsRow.alloc HOa.out _) HV.out hgrow2
      have HO4:Hid (w4.ownsRow w1.heap.size 181 4 (.slice (some ⟨g',0,none⟩) ((othF 0 (ws.take i)).length+1) cap2) (othF 0 (ws.take (i+1))).length (chgsCells (othF 0 (ws.take (i+1))))):=by
       show w4.ownsRow w1.heap.size 181 4 (.slice (some ⟨g',0,none⟩) ((othF 0 (ws.take i)).length+1) cap2) (othF 0 (ws.take (i+1))).length (chgsCells (othF 0 (ws.take (i+1))));rw[HT.out,othF_snoc,if_neg hxf,List.length_append,chgs_snoc];exact hown2
      clear hown2 hgrow2 hat2 hlt4 d0 d1 d2 d3;go_wp2
      go_roundw
      case rel=>exact⟨i+1,v',by go_num,by omega,HO4,HQ4,HB4⟩
      case measure=>simp[intOf];omega
    ·obtain rfl:i=ws.length:=by omega
     rw[List.take_length] at HO HQ;obtain⟨a6,c6,rfl⟩:=owns_sliceC HO.out;have p4:=HQ.out.cells.2.2.2.2.1;have f4:=HQ.out.unfrozen 4;have HF:Hid _:=PD.setW HQ.out HO.out hB1 (othF_ok HQ.out.oks);go_wp2_with fail
     go_ret;exact .inr (.inr ⟨HA.out,h0,rfl,⟨0,v',_,rfl,by decide,HF.out⟩,HBB.out.trans (HB.out.setTC hlow HP.out HO.out)⟩)
  ·go_wp2_with fail
   go_loopw [6,20] (fun v y X=>∃(i:Nat) (v':Value),y=.int .i64 i∧i≤ws.length∧Hid (X.ownsRow w1.heap.size 181 4 v (othF 1 (ws.take i)).length (chgsCells (othF 1 (ws.take i))))∧Hid (PD X B D (updF vb 3 v') (.slice aw ws.length cw) (updF lb 3 (foldF 1 (ws.take i) (lb 3))) ws (decL left) (count+1) down)∧Hid (BelT tyP B w1 X)) (fun _ y _=>ws.length-(intOf y).toNat)
   case atStart=>exact⟨0,vb 3,rfl,Nat.zero_le _,World.ownsRow_nil _ _ _ _,(by show PD w1 B D (updF vb 3 (vb 3)) _ (updF lb 3 (lb 3)) ws _ _ down;rw[updF_same,updF_same];exact HP.out),BelT.refl _ _ _⟩
   case round =>
    obtain⟨i,v',rfl,hin,HO,HQ,HB⟩:=hrel;by_cases hlt:i<ws.length
    ·have ki:(0:Int)≤(i:Int):=by omega
     have kn:(i:Int)<(ws.length:Int):=by omega
     obtain⟨g,cap',ee,_,_⟩:=World.ownsRow.form HQ.out.wrow (by omega);injection ee with ee1 ee2 ee3;subst ee1 ee3;obtain⟨xf,p,t,c,hx⟩:∃xf p t c,ws[i]=(⟨xf,p,t,c⟩:Chg):=⟨_,_,_,_,rfl⟩;obtain⟨k1,k2,k3⟩:okC ⟨xf,p,t,c⟩:=hx ▸ HQ.out.oks _ (List.getElem_mem hlt);have HK3:Hid _:=k3;obtain⟨d0,d1,d2,d3⟩:=wcells HQ.out hlt hx;have hTk:ws.take (i+1)=ws.take i++[⟨xf,p,t,c⟩]:=by rw[take_snoc hlt,hx]
     have HT:Hid _:=hTk;have zb:=HB.out.size;have zg:=HQ.out.vwlt g rfl;have hole:=othF_le 1 (ws.take i);rw[List.length_take] at hole;clear hTk k3 hx;have H1:Hid (PD (wr.alloc (.cells #[.int .i64 xf,.int .i64 p,.string t,.bool c] 181)) B D (updF vb 3 v') (.slice (some ⟨g,0,none⟩) ws.length cw) (updF lb 3 (foldF 1 (ws.take i) (lb 3))) ws (decL left) (count+1) down):=HQ.out.below ((Below.refl _ _).alloc (Nat.le_refl _) _);have hBwr:B≤wr.heap.size:=Nat.le_trans hB1 zb;by_cases hxf:xf=1
     ·subst hxf;go_wp2_with fail
      refine(clast1 p t c k2 HK3.out _ B D _ _ _ ws _ _ down H1.out ?hs).mono ?_
      case hs=>simp;omega
      rintro e w2⟨rfl,⟨v2,hQ2⟩,hbb,hb2⟩;have HQ2:Hid (PD w2 B D (updF vb 3 v2) (.slice (some ⟨g,0,none⟩) ws.length cw) (updF lb 3 (foldF 1 (ws.take (i+1)) (lb 3))) ws (decL left) (count+1) down):=by
       show PD w2 B D (updF vb 3 v2) (.slice (some ⟨g,0,none⟩) ws.length cw) (updF lb 3 (foldF 1 (ws.take (i+1)) (lb 3))) ws (decL left) (count+1) down;rw[HT.out,foldF_snoc,if_pos rfl];rw[updF_two,updF_two,updF_at] at hQ2;exact hQ2
      have HO2:Hid (w2.ownsRow w1.heap.size 181 4 u6 (othF 1 (ws.take (i+1))).length (chgsCells (othF 1 (ws.take (i+1))))):=by
       show w2.ownsRow w1.heap.size 181 4 u6 (othF 1 (ws.take (i+1))).length (chgsCells (othF 1 (ws.take (i+1))));rw[HT.out,othF_snoc,if_pos rfl];exact row_kept2 H1.out (show 3<4 by decide) (World.ownsRow.alloc HO.out _) hb2
      have HB2:Hid (BelT tyP B w1 w2):=(HB.out.alloc hBwr _).trans hbb;clear hQ2 hbb hb2 d0 d1 d2 d3;go_wp2
      go_roundw
      case rel=>exact⟨i+1,v2,by go_num,by omega,HO2,HQ2,HB2⟩
      case measure=>simp[intOf];omega
     ·have hxf':¬(xf:Int)=1:=by omega
      have HOa:Hid ((wr.alloc (.cells #[.int .i64 xf,.int .i64 p,.string t,.bool c] 181)).ownsRow w1.heap.size 181 4 u6 (othF 1 (ws.take i)).length (chgsCells (othF 1 (ws.take i)))):=World.ownsRow.alloc HO.out _;have hn1:=newsC (wr.alloc (.cells #[.int .i64 xf,.int .i64 p,.string t,.bool c] 181)) xf p t c;have HN:Hid _:=hn1;clear hn1;go_wp2_with (at_builtin;go_must (refine wpList_append_lies _ rfl _ _ _ rfl w1.heap.size 181 i0 (.agg #[.int .i64 0,.int .i64 0,.string ⟨#[]⟩,.bool false]) 4 40 Tryz.underlying72 hi hz0 hz1 hz2 rfl (by decide) _ (othF 1 (ws.take i)).length (chgsCells (othF 1 (ws.take i))) rfl (World.ownsRow.alloc HOa.out _) ⟨wr.heap.size+1,0,none⟩ 1 1 [.int .i64 xf,.int .i64 p,.string t,.bool c] rfl rfl ?n1 ?r01 (by decide) ?r11 ?r21 ?r31 (wr.heap.size+2) (by simp) ?_))
      case r01=>simp[Value.oneCell']
      case r11=>unfold maxLen;omega
      case r21=>omega
      case r31=>first | omega | (simp;omega)
      intro g' cap2 w4 hown2 hgrow2 hat2 hlt4;have HB4:Hid (BelT tyP B w1 w4):=below_appC ((HB.out.alloc hBwr _).alloc (by simp;omega) _) (World.ownsRow.alloc HOa.out _) hB1 (by simp;omega) hgrow2;have HQ4:Hid (PD w4 B D (updF vb 3 v') (.slice (some ⟨g,0,none⟩) ws.length cw) (updF lb 3 (foldF 1 (ws.take (i+1)) (lb 3))) ws (decL left) (count+1) down):=by
       show PD w4 B D (updF vb 3 v') (.slice (some ⟨g,0,none⟩) ws.length cw) (updF lb 3 (foldF 1 (ws.take (i+1)) (lb 3))) ws (decL left) (count+1) down;rw[HT.out,foldF_snoc,if_neg hxf];exact PD.keptC (H1.out.below ((Below.refl _ _).alloc (Nat.le_refl _) _)) (World.ownsRow.alloc HOa.out _) HV.out hgrow2
      have HO4:Hid (w4.ownsRow w1.heap.size 181 4 (.slice (some ⟨g',0,none⟩) ((othF 1 (ws.take i)).length+1) cap2) (othF 1 (ws.take (i+1))).length (chgsCells (othF 1 (ws.take (i+1))))):=by
       show w4.ownsRow w1.heap.size 181 4 (.slice (some ⟨g',0,none⟩) ((othF 1 (ws.take i)).length+1) cap2) (othF 1 (ws.take (i+1))).length (chgsCells (othF 1 (ws.take (i+1))));rw[HT.out,othF_snoc,if_neg hxf,List.length_append,chgs_snoc];exact hown2
      clear hown2 hgrow2 hat2 hlt4 d0 d1 d2 d3;go_wp2
      go_roundw
      case rel=>exact⟨i+1,v',by go_num,by omega,HO4,HQ4,HB4⟩
      case measure=>simp[intOf];omega
    ·obtain rfl:i=ws.length:=by omega
     rw[List.take_length] at HO HQ;obtain⟨a6,c6,rfl⟩:=owns_sliceC HO.out;have p4:=HQ.out.cells.2.2.2.2.1;have f4:=HQ.out.unfrozen 4;have HF:Hid _:=PD.setW HQ.out HO.out hB1 (othF_ok HQ.out.oks);go_wp2_with fail
     go_ret;exact .inr (.inr ⟨HA.out,h0,rfl,⟨1,v',_,rfl,by decide,HF.out⟩,HBB.out.trans (HB.out.setTC hlow HP.out HO.out)⟩)
theorem pd_zero (X:World)(B:Nat)(hB:B=X.heap.size):PD (X.alloc (.cells #[.slice none 0 0,.slice none 0 0,.slice none 0 0,.slice none 0 0,.slice none 0 0,.int .i64 (-1),.int .i64 0,.bool false] 74)) B X.heap.size (fun _=>.slice none 0 0) (.slice none 0 0) (fun _=>[]) [] (-1) 0 false:=
 ⟨(by show(X.heap.push _)[X.heap.size]?=_;rw[Array.getElem?_push_size]),hB,fun i hi=>World.ownsRow_nil _ _ _ _,World.ownsRow_nil _ _ _ _,fun i j _ _ _=>.inl rfl,fun i _=>Nat.zero_le _,fun x hx=>by cases hx⟩
theorem cnew (X:World):Calls Tryz.prog 5 #[] X fun e w'=>e=.returned (.pointer (some ⟨X.heap.size,0,none⟩))∧PD w' X.heap.size X.heap.size (fun _=>.slice none 0 0) (.slice none 0 0) (fun _=>[]) [] (-1) 0 false∧Below X.heap.size X w':=by
 have HP:Hid _:=pd_zero X X.heap.size rfl;go_enter Tryz.func5,Tryz.ntmps5;go_wp2_with fail
 go_ret;exact⟨rfl,HP.out,((Below.refl _ _).alloc (Nat.le_refl _) _)⟩
def half (t:ByteArray):ByteArray:=t.extract 0 (t.size/2)
def cpL (l:Nat→List UInt8):Nat→Nat→List UInt8
 | 0=>l
 | j+1=>updF (cpL l j) (2*j) (l (2*j+1))
theorem half_size (t:ByteArray):(half t).size=t.size/2:=by unfold half;rw[ByteArray.size_extract];omega
def crS (fa:Int)(x:Chg)(l:Nat→List UInt8):Nat→List UInt8:=
 if fa=1 then updF l (2*x.f+1) (onL x.p x.t x.c (l (2*x.f+1))) else if fa=2 then updF l (2*x.f+1) (onL x.p (half x.t) x.c (l (2*x.f+1))) else l
def crL (fa:Nat→Int)(ws:List Chg)(lb:Nat→List UInt8):Nat→Nat→List UInt8
 | 0=>lb
 | i + 1 => match ws[i]? with
  | none=>crL fa ws lb i
  | some x=>crS (fa i) x (crL fa ws lb i)
theorem crL_succ {fa:Nat→Int}(h:i<ws.length):crL fa ws lb (i+1)=crS (fa i) ws[i] (crL fa ws lb i):=by
 rw[crL,List.getElem?_eq_getElem h]
structure DS where
 lb:Nat→List UInt8
 ws:List Chg
 left:Int
 count:Int
 down:Bool
def PDs (X:World)(B D:Nat)(S:DS):Prop:=∃vb vw,PD X B D vb vw S.lb S.ws S.left S.count S.down
def okS (S:DS)(m:Nat):Prop:=(-9223372036854775808≤S.left∧S.left≤9223372036854775807)∧0≤S.count∧S.count≤m∧S.ws.length≤m
def opD (S:DS)(f at':Int)(t:ByteArray)(c:Bool):Int×DS:=
 if askE f at' t.size S.down=0 then
  (if S.left=0 then(2,{ S with down:=true }) else(0,⟨updF S.lb (2*f.toNat) (onL at'.toNat t c (S.lb (2*f.toNat))),S.ws++[⟨f.toNat,at'.toNat,t,c⟩],decL S.left,S.count+1,S.down⟩))
 else(askE f at' t.size S.down,S)
def synD (S:DS)(f:Int):Int×DS:=
 if askE f 0 0 S.down=0 then
  (if S.left=0 then(2,{ S with down:=true }) else(0,⟨updF S.lb (2*f.toNat+1) (foldF f.toNat S.ws (S.lb (2*f.toNat+1))),othF f.toNat S.ws,decL S.left,S.count+1,S.down⟩))
 else(askE f 0 0 S.down,S)
theorem decL_in {l:Int}(h:-9223372036854775808≤l∧l≤9223372036854775807):-9223372036854775808≤decL l∧decL l≤9223372036854775807:=by
 unfold decL;split<;>omega
theorem oth_len (f:Nat)(ws:List Chg):(othF f ws).length≤ws.length:=List.length_filter_le ..
theorem opD_ok {S:DS}(h:okS S m)(f at':Int)(t:ByteArray)(c:Bool):okS (opD S f at' t c).2 (m+1):=by
 obtain⟨h1,h2,h3,h4⟩:=h;have h5:=decL_in h1;unfold opD;split
 ·split
  ·exact⟨h1,h2,by show S.count≤((m+1:Nat):Int);omega,by show S.ws.length≤m+1;omega⟩
  ·refine⟨h5,?_,?_,?_⟩
   ·show 0≤S.count+1;omega
   ·show S.count+1≤((m+1:Nat):Int);omega
   ·show(S.ws++[_]).length≤m+1;simp;omega
 ·exact⟨h1,h2,by show S.count≤((m+1:Nat):Int);omega,by show S.ws.length≤m+1;omega⟩
theorem synD_ok {S:DS}(h:okS S m)(f:Int):okS (synD S f).2 (m+1):=by
 obtain⟨h1,h2,h3,h4⟩:=h;have h5:=decL_in h1;have h6:=oth_len f.toNat S.ws;unfold synD;split
 ·split
  ·exact⟨h1,h2,by show S.count≤((m+1:Nat):Int);omega,by show S.ws.length≤m+1;omega⟩
  ·refine⟨h5,?_,?_,?_⟩
   ·show 0≤S.count+1;omega
   ·show S.count+1≤((m+1:Nat):Int);omega
   ·show(othF f.toNat S.ws).length≤m+1;omega
 ·exact⟨h1,h2,by show S.count≤((m+1:Nat):Int);omega,by show S.ws.length≤m+1;omega⟩
theorem okS.mono {S:DS}(h:okS S m)(hn:m≤n):okS S n:=⟨h.1,h.2.1,by have:=h.2.2.1;omega,by have:=h.2.2.2;omega⟩
theorem PDs.nf {S:DS}(h:PDs X B D S):¬farT tyP X D:=by obtain⟨vb,vw,h⟩:=h;exact h.nf
theorem PDs.below {S:DS}(h:PDs X B D S)(hb:Below X.heap.size X Y):PDs Y B D S:=by obtain⟨vb,vw,h⟩:=h;exact⟨vb,vw,h.below hb⟩
theorem op_post {f at':Int}{S:DS}{vw:Value}{e:Ending}{w':World}(hP:PD X B D vb vw S.lb S.ws S.left S.count S.down)(h:opPost f at' t c X B D vb vw S.lb S.ws S.left S.count S.down e w'):e=.returned (.int .i64 (opD S f at' t c).1)∧PDs w' B D (opD S f at' t c).2∧BelT tyP B X w':=by
 unfold opD;rcases h with⟨h1,h2,rfl⟩ | ⟨h1,h2,h3,h4,h5⟩ | ⟨h1,h2,h3,⟨f',p,v',vw',rfl,rfl,-,h4⟩,h5⟩
 ·rw[if_neg h1];exact⟨h2,⟨vb,vw,hP⟩,BelT.refl _ _ _⟩
 ·rw[if_pos h1,if_pos h2];exact⟨h3,⟨vb,vw,h4⟩,h5⟩
 ·rw[if_pos h1,if_neg h2];exact⟨h3,⟨_,_,h4⟩,h5⟩
theorem cwriteD (f at':Int)(t:ByteArray)(X:World)(B D:Nat)(S:DS)(m:Nat)(h:PDs X B D S)(hB:B≤X.heap.size)(ho:okS S m)(hm:m≤1000000):Calls Tryz.prog 113 #[(.pointer (some ⟨D,0,none⟩)),.int .i64 f,.int .i64 at',.string t] X fun e w'=>e=.returned (.int .i64 (opD S f at' t false).1)∧PDs w' B D (opD S f at' t false).2∧BelT tyP B X w':=by
 obtain⟨vb,vw,h⟩:=h;obtain⟨h1,h2,h3,h4⟩:=ho;exact(cwrite f at' t X B D vb vw S.lb S.ws S.left S.count S.down h hB h1 ⟨h2,by omega⟩ (by omega)).mono fun e w' hp=>op_post h hp
theorem ccutD (f at':Int)(X:World)(B D:Nat)(S:DS)(m:Nat)(h:PDs X B D S)(hB:B≤X.heap.size)(ho:okS S m)(hm:m≤1000000):Calls Tryz.prog 110 #[(.pointer (some ⟨D,0,none⟩)),.int .i64 f,.int .i64 at'] X fun e w'=>e=.returned (.int .i64 (opD S f at' ⟨#[]⟩ true).1)∧PDs w' B D (opD S f at' ⟨#[]⟩ true).2∧BelT tyP B X w':=by
 obtain⟨vb,vw,h⟩:=h;obtain⟨h1,h2,h3,h4⟩:=ho;exact(ccut f at' X B D vb vw S.lb S.ws S.left S.count S.down h hB h1 ⟨h2,by omega⟩ (by omega)).mono fun e w' hp=>op_post h hp
theorem csyncD (f:Int)(X:World)(B D:Nat)(S:DS)(m:Nat)(h:PDs X B D S)(hB:B≤X.heap.size)(ho:okS S m)(hm:m≤1000000):Calls Tryz.prog 79 #[(.pointer (some ⟨D,0,none⟩)),.int .i64 f] X fun e w'=>e=.returned (.int .i64 (synD S f).1)∧PDs w' B D (synD S f).2∧BelT tyP B X w':=by
 obtain⟨vb,vw,h⟩:=h;obtain⟨h1,h2,h3,h4⟩:=ho;refine(csync f X B D vb vw S.lb S.ws S.left S.count S.down h hB h1 ⟨h2,by omega⟩ (by omega)).mono fun e w' hp=>?_
 unfold synD;rcases hp with⟨h1,h2,rfl⟩ | ⟨h1,h2,h3,h4,h5⟩ | ⟨h1,h2,h3,⟨f',v',vw',rfl,-,h4⟩,h5⟩
 ·rw[if_neg h1];exact⟨h2,⟨vb,vw,h⟩,BelT.refl _ _ _⟩
 ·rw[if_pos h1,if_pos h2];exact⟨h3,⟨vb,vw,h4⟩,h5⟩
 ·rw[if_pos h1,if_neg h2];exact⟨h3,⟨_,_,h4⟩,h5⟩
theorem csizeD (f:Int)(X:World)(B D:Nat)(S:DS)(h:PDs X B D S):Calls Tryz.prog 67 #[(.pointer (some ⟨D,0,none⟩)),.int .i64 f] X fun e w'=>e=.returned (.tuple #[.int .i64 (sizV f S.lb S.down),.int .i64 (askE f 0 0 S.down)])∧w'=X:=by
 obtain⟨vb,vw,h⟩:=h;exact csize f X B D vb vw S.lb S.ws S.left S.count S.down h
theorem creadD (f at' n:Int)(X:World)(B D:Nat)(S:DS)(h:PDs X B D S):Calls Tryz.prog 68 #[(.pointer (some ⟨D,0,none⟩)),.int .i64 f,.int .i64 at',.int .i64 n] X fun e w'=>e=.returned (.tuple #[.string (rdS f at' n S.lb S.down),.int .i64 (rdE f at' n S.lb S.down)])∧w'=X:=by
 obtain⟨vb,vw,h⟩:=h;exact cread f at' n X B D vb vw S.lb S.ws S.left S.count S.down h
open Go.Maps
theorem lawI:Keyed Tryz.prog 3:=int_keyed Tryz.underlying3
theorem zeroI (w:World):(zeroValue 3).run Tryz.prog w=.ok (.int .i64 0) w:=by kernel_rfl
def i64 (x:Int):Prop:=(Lit.int .i64 x).wf=true
theorem i64_in (h0:-9223372036854775808≤x)(h1:x≤9223372036854775807):i64 x:=WalkArith.wf_i64 ⟨h0,h1⟩
def MI (X:World)(b n:Nat)(F:Int→Option Int):Prop:=∃D:DataW Unit,X.ownsMap Tryz.prog 3 (plainElem Tryz.prog 3) b n D∧∀x,i64 x→(Maps.has D (.int .i64 x)=(F x).isSome∧∀v,F x=some v→∀z,D.atKey (.int .i64 x) z=.lit (.int .i64 v))
theorem keyLit (x:Int):WideAt.IsKeyLit (.int .i64 x):=by simp[WideAt.IsKeyLit]
def updM (F:Int→Option Int)(k v:Int):Int→Option Int:=fun x=>if x=k then some v else F x
theorem MI.lt (h:MI X b n F):b<X.heap.size:=by obtain⟨D,h,-⟩:=h;exact h.lt
theorem MI.mono (h:MI X b n F)(hn:n≤m):MI X b m F:=by obtain⟨D,h,k⟩:=h;exact⟨D,h.mono hn,k⟩
theorem MI.keep (h:MI X b n F)(e:Y.heap[b]?=X.heap[b]?):MI Y b n F:=by
 obtain⟨D,⟨es,clock,hb,r⟩,k⟩:=h;exact⟨D,⟨es,clock,e.trans hb,r⟩,k⟩
theorem MI.isMap (h:MI X b n F):∃es clock,X.heap[b]?=some (.map es clock):=by
 obtain⟨D,⟨es,clock,hb,r⟩,k⟩:=h;exact⟨es,clock,hb⟩
theorem MI.far (h:MI X b n F)(T:TypeId→Bool):farT T X b:=fun cur e fz he=>by
 obtain⟨es,clock,hb⟩:=h.isMap;rw[hb] at he;cases he
theorem MI.made (X:World):MI (X.alloc (.map #[] 0)) X.heap.size 0 (fun _=>none):=
 ⟨.map [],World.ownsMap_made X _ _ _,fun _ _=>⟨rfl,fun v h=>by cases h⟩⟩
theorem MI.look (h:MI X b n F)(hx:i64 x):(Instr.lookup 125 (.map (some b)) (.int .i64 x) true).run Tryz.prog X=.ok (.tuple #[.int .i64 ((F x).getD 0),.bool (F x).isSome]) X:=by
 obtain⟨D,h,k⟩:=h;obtain⟨k1,k2⟩:=k x hx;obtain⟨v,ps,hrun,hR⟩:=h.look_ok lawI Tryz.underlying125 (zeroI X) (plainElem_int (H:=Unit) Tryz.underlying3 (by decide)) (keyOf_int_mk Tryz.underlying3 hx);obtain⟨c,rfl,hc,-⟩:=plainElem_int_inv Tryz.underlying3 hR;simp only[Prod.mk.injEq] at hc;rw[hrun,k1];cases hF:F x with
 | none =>
  rw[hF] at k1;rw[atKey_of_not_has k1] at hc;have e:c=0:=by have:=hc.1;simp at this;exact this.symm
  simp[e]
 | some v =>
  rw[k2 v hF] at hc;have e:c=v:=by have:=hc.1;simp at this;exact this.symm
  simp[e]
theorem MI.put (h:MI X b n F)(hn:n≤1000000){v:Int}(hx:i64 x)(hv:i64 v):∃Y,(Instr.mapUpdate 125 (.map (some b)) (.int .i64 x) (.int .i64 v)).run Tryz.prog X=.ok () Y∧MI Y b (n+1) (updM F x v)∧X.grownBy Y (some b):=by
 obtain⟨D,h,k⟩:=h;obtain⟨Y,hrun,hY,hg⟩:=h.update lawI Tryz.underlying125 (by unfold maxLen;omega) (keyOf_int_mk Tryz.underlying3 hx) (plainElem_int (H:=Unit) Tryz.underlying3 hv);refine⟨Y,hrun,⟨_,hY,fun y hy=>?_⟩,hg⟩;unfold updM;by_cases e:y=x
 ·subst e;rw[if_pos rfl];refine⟨has_put_same h.isMap (keyLit _) _,fun u hu z=>?_⟩;obtain rfl:v=u:=by simpa using hu
  exact atKey_put_same h.isMap (keyLit _) _ z
 ·have ne:Lit.int .i64 y≠Lit.int .i64 x:=fun h=>by injection h with _ h;exact e h
  rw[if_neg e,has_put_other ne];exact⟨(k y hy).1,fun u hu z=>by rw[atKey_put_other ne];exact(k y hy).2 u hu z⟩
theorem MI.clear (h:MI X b n F)(ty:TypeId):∃Y,(Builtin.clear_ #[125] ty #[.map (some b)]).run Tryz.prog X=.ok (.tuple #[]) Y∧MI Y b 0 (fun _=>none)∧X.grownBy Y (some b):=by
 obtain⟨D,⟨es,clock,hb,F0,hs,rfl⟩,k⟩:=h;refine⟨ChangeMaps.setBlock X b (.map #[] clock),?_,⟨.map [],⟨#[],clock,ChangeMaps.heap_setBlock_same hb _,⟨by simp,?_,by simp⟩,Nat.le_refl _,rfl⟩,fun _ _=>⟨rfl,fun v h=>by cases h⟩⟩,⟨rfl,rfl,rfl,by simp[ChangeMaps.setBlock],fun i _ hi=>ChangeMaps.heap_setBlock_other hb _ (fun e=>hi (by rw[e]))⟩⟩
 ·simp[Builtin.clear_,run_underlying Tryz.underlying125,MapKept.run_getObj_map hb,MapKept.run_setObj_map _ hb,Result.andThen,ChangeMaps.setBlock]
 ·exact MapKept.stamped_empty clock
theorem keepBelow (h:Below w.heap.size w W)(hb:Below W.heap.size W w1):Below w.heap.size w w1:=h.trans (hb.mono h.size)
theorem keepSize (hb:Below W.heap.size W w1){A:Nat}(hA:A<W.heap.size):A<w1.heap.size:=Nat.lt_of_lt_of_le hA hb.size
theorem below_dw {a:World}(h:Below B a X):Below B a (X.drewN m):=⟨h.os,h.tape,h.output,h.size,h.block⟩
def isPg (n:Int):Bool:=decide (0≤n∧n≤2147483647)
theorem cisPage (n:Int)(w:World):Calls Tryz.prog 65 #[.int .i64 n] w fun e w'=>e=.returned (.bool (isPg n))∧w'=w:=by
 by_cases h1:0≤n
 ·by_cases h2:n≤2147483647
  ·have e:isPg n=true:=decide_eq_true ⟨h1,h2⟩;rw[e];clear e;go_enter Tryz.func65,Tryz.ntmps65;go_wp2;go_ret;exact⟨rfl,rfl⟩
  ·have e:isPg n=false:=decide_eq_false (fun h=>h2 h.2);rw[e];clear e;go_enter Tryz.func65,Tryz.ntmps65;go_wp2;go_ret;exact⟨rfl,rfl⟩
 ·have e:isPg n=false:=decide_eq_false (fun h=>h1 h.1);rw[e];clear e;go_enter Tryz.func65,Tryz.ntmps65;go_wp2;go_ret;exact⟨rfl,rfl⟩
theorem cframeAt (n:Int)(w:World)(h0:0≤n)(h1:n≤4294967296):Calls Tryz.prog 116 #[.int .i64 n] w fun e w'=>e=.returned (.int .i64 (64+1028*n))∧w'=w:=by
 go_enter Tryz.func116,Tryz.ntmps116;go_wp2;go_ret;exact⟨rfl,rfl⟩
theorem cslotAt (n:Int)(w:World)(h0:0≤n)(h1:n≤1):Calls Tryz.prog 136 #[.int .i64 n] w fun e w'=>e=.returned (.int .i64 (16+24*n))∧w'=w:=by
 go_enter Tryz.func136,Tryz.ntmps136;go_wp2;go_ret;exact⟨rfl,rfl⟩
def nxN (n:Nat):Nat:=n%3+1
theorem cnext (n:Nat)(w:World)(h1:n≤4294967296):Calls Tryz.prog 108 #[.int .i64 n] w fun e w'=>e=.returned (.int .i64 (nxN n:Nat))∧w'=w:=by
 have e:((nxN n:Nat):Int)=(n:Int)%3+1:=by unfold nxN;omega
 rw[e];clear e;go_enter Tryz.func108,Tryz.ntmps108;go_wp2;go_ret;exact⟨rfl,rfl⟩
def fourB (n:Nat):ByteArray:=⟨#[UInt8.ofNat (n/16777216),UInt8.ofNat (n/65536),UInt8.ofNat (n/256),UInt8.ofNat n]⟩
def fourC (n:Nat):Array Value:=#[.int .u8 ((n:Int)/16777216%256),.int .u8 ((n:Int)/65536%256),.int .u8 ((n:Int)/256%256),.int .u8 ((n:Int)%256)]
theorem four_text (X:World)(n:Nat):(convert 59 9 (.slice (some ⟨X.heap.size,0,none⟩) 4 4)).run Tryz.prog (X.alloc (.cells #[.int .u8 ((n:Int)/16777216%256),.int .u8 ((n:Int)/65536%256),.int .u8 ((n:Int)/256%256),.int .u8 ((n:Int)%256)] 5))=.ok (.string (fourB n)) (X.alloc (.cells #[.int .u8 ((n:Int)/16777216%256),.int .u8 ((n:Int)/65536%256),.int .u8 ((n:Int)/256%256),.int .u8 ((n:Int)%256)] 5)):=by
 have:=run_convert_bytes_back (P:=Tryz.prog) (X.alloc (.cells (fourC n) 5)) 59 9 5 ⟨X.heap.size,0,none⟩ 4 [UInt8.ofNat (n/16777216),UInt8.ofNat (n/65536),UInt8.ofNat (n/256),UInt8.ofNat n] Tryz.underlying59 Tryz.underlying5 Tryz.underlying9 (fun j hj=>by
  rw[Addr.add_lit];have h4:j<4:=hj;have hc:(X.alloc (.cells (fourC n) 5)).cell? ⟨X.heap.size,0+j,none⟩=(fourC n)[j]?:=by simp only[World.cell?,World.alloc_heap_new];simp
  rw[hc];rcases(show j=0∨j=1∨j=2∨j=3 by omega) with rfl | rfl | rfl | rfl<;>simp[fourC])
 exact this
theorem cfour (n:Nat)(w:World):Calls Tryz.prog 132 #[.int .i64 n] w fun e w'=>e=.returned (.string (fourB n))∧Below w.heap.size w w':=by
 have ht:=four_text w n;go_enter Tryz.func132,Tryz.ntmps132;go_wp2;go_ret;exact⟨rfl,(Below.refl _ _).alloc (Nat.le_refl _) _⟩
def bytS (s:ByteArray)(i:Nat):Nat:=if h:i<s.size then(s[i]'h).toNat else 0
theorem bytS_lt (s:ByteArray)(i:Nat):bytS s i<256:=by
 unfold bytS;split
 ·exact UInt8.toNat_lt _
 ·decide
theorem bytS_get (h:i<s.size):(s[i]'h).toNat=bytS s i:=by unfold bytS;rw[dif_pos h]
def numK (s:ByteArray)(p:Nat):Nat→Nat
 | 0=>0
 | i+1=>numK s p i*256+bytS s (p+i)
def numB (s:ByteArray)(p:Nat):Nat:=numK s p 4
theorem numK_lt (s:ByteArray)(p:Nat):∀i,numK s p i<256 ^ i
 | 0=>by show 0<1;decide
 | i + 1 => by
  have h1:=numK_lt s p i;have h2:=bytS_lt s (p+i);rw[Nat.pow_succ];show numK s p i*256+bytS s (p+i)<_;omega
theorem numK_7 (s:ByteArray)(p:Nat)(h:i≤4):numK s p i<4294967296:=Nat.lt_of_lt_of_le (numK_lt s p i) (by
 rcases(show i=0∨i=1∨i=2∨i=3∨i=4 by omega) with rfl | rfl | rfl | rfl | rfl<;>decide)
theorem numB_lt (s:ByteArray)(p:Nat):numB s p<4294967296:=numK_7 s p (Nat.le_refl _)
theorem bits_or_i64 (a b:Nat)(ha:a<4611686018427387904)(hb:b<4611686018427387904):bits .or .i64 (a:Int) (b:Int)=((a ||| b:Nat):Int):=by
 have hx:a ||| b<2 ^ 62:=Nat.or_lt_two_pow (by omega) (by omega)
 have h1:(BitVec.ofInt 64 (a:Int)).toNat=a:=by
  rw[BitVec.ofInt_natCast,BitVec.toNat_ofNat];exact Nat.mod_eq_of_lt (by omega)
 have h2:(BitVec.ofInt 64 (b:Int)).toNat=b:=by
  rw[BitVec.ofInt_natCast,BitVec.toNat_ofNat];exact Nat.mod_eq_of_lt (by omega)
 show IntKind.i64.wrap ((BitVec.ofInt 64 (a:Int) ||| BitVec.ofInt 64 (b:Int)).toNat:Int)=_;rw[BitVec.toNat_or,h1,h2];simp only[IntKind.wrap,IntKind.bits,IntKind.signed];simp;omega
theorem join_i64 (x y:Nat)(hy:y<256)(hx:x<4294967296):bits .or .i64 ((x:Int)*256) (y:Int)=((x*256+y:Nat):Int):=by
 have e:((x:Int)*256)=((x*256:Nat):Int):=by omega
 rw[e,bits_or_i64 _ _ (by omega) (by omega)]
 congr 1
 have h:=Nat.two_pow_add_eq_or_of_lt (i:=8) (show y<2 ^ 8 by omega) x;rw[show x*256=2 ^ 8*x by omega,←h]
theorem cnumber (s:ByteArray)(p:Nat)(w:World)(hp:p+4≤s.size)(hs:s.size≤1099511627776):Calls Tryz.prog 117 #[.string s,.int .i64 p] w fun e w'=>e=.returned (.int .i64 (numB s p:Nat))∧w'=w:=by
 go_enter Tryz.func117,Tryz.ntmps117;go_wp2
 go_loop [5,7] (fun x y=>∃i:Nat,x=.int .i64 (numK s p i:Nat)∧y=.int .i64 i∧i≤4) (fun _ y=>4-(intOf y).toNat)
 case atStart=>exact⟨0,rfl,rfl,by omega⟩
 case round =>
  obtain⟨k,rfl,rfl,hk⟩:=hrel;by_cases h0:k<4
  ·have h1:(k:Int)<4:=by omega
   have h2:(p:Int)+(k:Int)<(s.size:Int):=by omega
   have hks:p+k<s.size:=by omega
   have b0:=bytS_lt s (p+k);have g0:=bytS_get hks;have u0:=numK_7 s p (show k≤4 by omega);have h3:numK s p (k+1)=numK s p k*256+bytS s (p+k):=rfl;have hj:=join_i64 (numK s p k) (bytS s (p+k)) b0 u0;go_wp2
   go_round
   case rel=>exact⟨k+1,by rw[h3];first | rfl | go_num,by go_num,by omega⟩
   case measure=>simp[intOf];omega
  ·obtain rfl:k=4:=by omega
   go_wp2;go_ret;exact⟨rfl,rfl⟩
theorem slice_lit (head:ByteArray)(i j:Nat)(hij:i≤j)(hj:j≤head.size)(X:World):(Instr.slice 9 (.string head) (some (.int .i64 (i:Int))) (some (.int .i64 (j:Int))) none).run Tryz.prog X=.ok (.string (head.extract i j)) X:=by
 rw[run_slice_string_if X 9 head .i64 .i64 i j Tryz.underlying9,if_pos ⟨by omega,by omega⟩,if_pos ⟨by omega,by omega⟩];rfl
structure Cm where
 slot:Nat
 number:Nat
 frames:Nat
 pages:Nat
def cmV (c:Cm):Value:=(.agg #[.int .i64 ((c.slot:Int)),.int .i64 ((c.number:Int)),.int .i64 ((c.frames:Int)),.int .i64 ((c.pages:Int))])
def cm0:Cm:=⟨0,0,0,0⟩
def halfB (n f p:Nat):ByteArray:=fourB n++fourB f++fourB p
def txtB (n f p:Nat):ByteArray:=halfB n f p++halfB n f p
theorem fourB_size (n:Nat):(fourB n).size=4:=rfl
theorem halfB_size (n f p:Nat):(halfB n f p).size=12:=by unfold halfB;simp[ByteArray.size_append,fourB_size]
theorem txtB_size (n f p:Nat):(txtB n f p).size=24:=by unfold txtB;simp[ByteArray.size_append,halfB_size]
theorem ctext (s n f p:Nat)(w:World):Calls Tryz.prog 114 #[(.agg #[.int .i64 ((s:Int)),.int .i64 ((n:Int)),.int .i64 ((f:Int)),.int .i64 ((p:Int))])] w fun e w'=>e=.returned (.string (txtB n f p))∧Below w.heap.size w w':=by
 have HT:Hid (txtB n f p=(fourB n++fourB f++fourB p)++(fourB n++fourB f++fourB p)):=rfl;have s1:=fourB_size n;have s2:=fourB_size f;have s3:=fourB_size p;go_enter Tryz.func114,Tryz.ntmps114
 go_upto_region 1 with fail
 go_region_held3 (fun w'=>Below w.heap.size w w'∧w.heap.size<w'.heap.size∧w'.cell? ⟨w.heap.size,0,none⟩=some (.int .i64 ((s:Int)))∧w'.cell? ⟨w.heap.size,1,none⟩=some (.int .i64 ((n:Int)))∧w'.cell? ⟨w.heap.size,2,none⟩=some (.int .i64 ((f:Int)))∧w'.cell? ⟨w.heap.size,3,none⟩=some (.int .i64 ((p:Int)))) (first | (refine⟨((Below.refl _ _).alloc (Nat.le_refl _) _).drew,?_⟩;go_keep) | (go_split_ands;and_intros<;>assumption) | (go_split_ands;exact⟨keepBelow (by assumption) hb,keepSize hb (by assumption),keepCell hb (by assumption) (by assumption),keepCell hb (by assumption) (by assumption),keepCell hb (by assumption) (by assumption),keepCell hb (by assumption) (by assumption)⟩))
  (first | (go_at_call 132;refine(cfour _ _).mono ?_;rintro e w'⟨rfl,hb⟩))
 go_wp2;go_ret
 go_split_ands
 exact⟨by rw[HT.out];rfl,by assumption⟩
theorem cfollowing (s n f p fr pg:Nat)(w:World)(hs:s≤1)(hn:n≤4294967296):Calls Tryz.prog 135 #[(.agg #[.int .i64 ((s:Int)),.int .i64 ((n:Int)),.int .i64 ((f:Int)),.int .i64 ((p:Int))]),.int .i64 fr,.int .i64 pg] w fun e w'=>e=.returned (.agg #[.int .i64 (((1-s:Nat):Int)),.int .i64 ((nxN n:Nat)),.int .i64 ((fr:Int)),.int .i64 ((pg:Int))])∧Below w.heap.size w w':=by
 have hs1:((1-s:Nat):Int)=1-(s:Int):=by omega
 have hwr:IntKind.i64.wrap (1-(s:Int))=1-(s:Int):=by rw[IntKind.wrap_i64];omega
 rw[hs1];go_enter Tryz.func135,Tryz.ntmps135;go_wp2_with fail
 go_region_with (first | (go_at_call 108;refine(cnext _ _ hn).mono ?_;rintro e w2⟨rfl,rfl⟩))
 all_goals
  go_wp2;refine bodyPost_ret (v:=(.agg #[.int .i64 (1-(s:Int)),.int .i64 ((nxN n:Nat)),.int .i64 ((fr:Int)),.int .i64 ((pg:Int))])) (by simp[results,Tryz.results135,go_sem, *]) rfl ⟨rfl,?_⟩;exact(((Below.refl _ _).alloc (Nat.le_refl _) _).alloc (by simp) _).drew
def toldA (head:ByteArray)(p slot size:Nat):Cm:=
 if head.size<p+24 then cm0
 else if ¬(1≤numB head p∧numB head p≤3) then cm0
 else if ¬txtB (numB head p) (numB head (p+4)) (numB head (p+8))=head.extract p (p+24) then cm0
 else if 0<numB head (p+4)∧size<64+1028*numB head (p+4) then cm0
 else⟨slot,numB head p,numB head (p+4),numB head (p+8)⟩
theorem ne_lists (h:¬s=t):¬s.toList=t.toList:=by
 rw[ByteArray.toList_eq,ByteArray.toList_eq];intro e;apply h;exact Go.WideShapes.bytes_inj e
theorem ctold0 (head:ByteArray)(size:Nat)(w:World)(hh:head.size≤1000000):Calls Tryz.prog 107 #[.string head,.int .i64 0,.int .i64 size] w fun e w'=>e=.returned (cmV (toldA head 16 0 size))∧Below w.heap.size w w':=by
 by_cases h1:head.size<40
 ·have HT:Hid (toldA head 16 0 size=cm0):=if_pos h1;go_enter Tryz.func107,Tryz.ntmps107;go_wp2_with fail
  refine(cslotAt 0 _ (by omega) (by omega)).mono ?_;rintro e w2⟨rfl,rfl⟩;have h2:(head.size:Int)<40:=by omega
  go_wp2;refine bodyPost_ret (v:=(.agg #[.int .i64 (0),.int .i64 (0),.int .i64 (0),.int .i64 (0)])) (by simp[results,Tryz.results107,go_sem, *]) rfl ⟨by rw[HT.out];rfl,?_⟩;exact((Below.refl _ _).alloc (Nat.le_refl _) _)
 have h2:¬(head.size:Int)<40:=by omega
 have HA:Hid (16+4≤head.size):=(by omega:16+4≤head.size);have HB:Hid (20+4≤head.size):=(by omega:20+4≤head.size);have HC:Hid (24+4≤head.size):=(by omega:24+4≤head.size);have HH:Hid (head.size≤1099511627776):=(by omega:head.size≤1099511627776);have HE:toldA head 16 0 size=if ¬(1≤numB head 16∧numB head 16≤3) then cm0 else if ¬txtB (numB head 16) (numB head 20) (numB head 24)=head.extract 16 40 then cm0 else if 0<numB head 20∧size<64+1028*numB head 20 then cm0 else⟨0,numB head 16,numB head 20,numB head 24⟩:=if_neg h1;have ba:=numB_lt head 16;have bf:=numB_lt head 20;have bp:=numB_lt head 24;by_cases c1:numB head 16<1
 ·have HT:Hid (toldA head 16 0 size=cm0):=HE.trans (if_pos (by omega));clear HE;go_enter Tryz.func107,Tryz.ntmps107;go_wp2_with fail
  refine(cslotAt 0 _ (by omega) (by omega)).mono ?_;rintro e w2⟨rfl,rfl⟩;go_wp2_with fail
  refine(cnumber head 16 _ HA.out HH.out).mono ?_;rintro e w2⟨rfl,rfl⟩;go_wp2_with fail
  refine(cnumber head 20 _ HB.out HH.out).mono ?_;rintro e w2⟨rfl,rfl⟩;go_wp2_with fail
  refine(cnumber head 24 _ HC.out HH.out).mono ?_;rintro e w2⟨rfl,rfl⟩;generalize numB head 16=a at *;generalize numB head 20=f at *;generalize numB head 24=p at *;have i1:(a:Int)<1:=by omega
  go_upto_region 5 with fail
  go_quiet (fail)
  go_wp2;refine bodyPost_ret (v:=(.agg #[.int .i64 (0),.int .i64 (0),.int .i64 (0),.int .i64 (0)])) (by simp[results,Tryz.results107,go_sem, *]) rfl ⟨by rw[HT.out];rfl,?_⟩;exact(((((below_dw (((Below.refl _ _).alloc (Nat.le_refl _) _).alloc (by simp) _))).setCell (by simp<;>omega) _).setCell (by simp<;>omega) _).setCell (by simp<;>omega) _).setCell (by simp<;>omega) _
 by_cases c2:3<numB head 16
 ·have HT:Hid (toldA head 16 0 size=cm0):=HE.trans (if_pos (by omega));clear HE;go_enter Tryz.func107,Tryz.ntmps107;go_wp2_with fail
  refine(cslotAt 0 _ (by omega) (by omega)).mono ?_;rintro e w2⟨rfl,rfl⟩;go_wp2_with fail
  refine(cnumber head 16 _ HA.out HH.out).mono ?_;rintro e w2⟨rfl,rfl⟩;go_wp2_with fail
  refine(cnumber head 20 _ HB.out HH.out).mono ?_;rintro e w2⟨rfl,rfl⟩;go_wp2_with fail
  refine(cnumber head 24 _ HC.out HH.out).mono ?_;rintro e w2⟨rfl,rfl⟩;generalize numB head 16=a at *;generalize numB head 20=f at *;generalize numB head 24=p at *;have j1:decide ((a:Int)<1)=false:=decide_eq_false (by omega);have j2:decide ((3:Int)<(a:Int))=true:=decide_eq_true (by omega)
  go_upto_region 5 with fail
  go_quiet (fail)
  go_wp2;refine bodyPost_ret (v:=(.agg #[.int .i64 (0),.int .i64 (0),.int .i64 (0),.int .i64 (0)])) (by simp[results,Tryz.results107,go_sem, *]) rfl ⟨by rw[HT.out];rfl,?_⟩;exact(((((below_dw (((Below.refl _ _).alloc (Nat.le_refl _) _).alloc (by simp) _))).setCell (by simp<;>omega) _).setCell (by simp<;>omega) _).setCell (by simp<;>omega) _).setCell (by simp<;>omega) _
 by_cases c3:¬txtB (numB head 16) (numB head 20) (numB head 24)=head.extract 16 40
 ·have HT:Hid (toldA head 16 0 size=cm0):=HE.trans (by rw[if_neg (by omega),if_pos c3]);clear HE;go_enter Tryz.func107,Tryz.ntmps107;go_wp2_with fail
  refine(cslotAt 0 _ (by omega) (by omega)).mono ?_;rintro e w2⟨rfl,rfl⟩;go_wp2_with fail
  refine(cnumber head 16 _ HA.out HH.out).mono ?_;rintro e w2⟨rfl,rfl⟩;go_wp2_with fail
  refine(cnumber head 20 _ HB.out HH.out).mono ?_;rintro e w2⟨rfl,rfl⟩;go_wp2_with fail
  refine(cnumber head 24 _ HC.out HH.out).mono ?_;rintro e w2⟨rfl,rfl⟩;generalize numB head 16=a at *;generalize numB head 20=f at *;generalize numB head 24=p at *;have hwr:IntKind.i64.wrap 40=40:=by decide
  have hsl:∀X,(Instr.slice 9 (.string head) (some (.int .i64 16)) (some (.int .i64 40)) none).run Tryz.prog X=.ok (.string (head.extract 16 40)) X:=fun X=>slice_lit head 16 40 (by omega) (by omega) X
  have j1:decide ((a:Int)<1)=false:=decide_eq_false (by omega);have j2:decide ((3:Int)<(a:Int))=false:=decide_eq_false (by omega);have n3:=ne_lists c3;have m3:((txtB a f p).toList == (head.extract 16 40).toList)=false:=by simpa using n3
  clear h1 h2 HA HB HC HH hh
  go_upto_region 5 with fail
  go_region_held3 (fun w'=>Below w.heap.size w w'∧w.heap.size+1<w'.heap.size∧w'.cell? ⟨w.heap.size,0,none⟩=some (.int .i64 (0))∧w'.cell? ⟨w.heap.size,1,none⟩=some (.int .i64 (0))∧w'.cell? ⟨w.heap.size,2,none⟩=some (.int .i64 (0))∧w'.cell? ⟨w.heap.size,3,none⟩=some (.int .i64 (0))∧w'.cell? ⟨w.heap.size+1,0,none⟩=some (.int .i64 (0))∧w'.cell? ⟨w.heap.size+1,1,none⟩=some (.int .i64 ((a:Int)))∧w'.cell? ⟨w.heap.size+1,2,none⟩=some (.int .i64 ((f:Int)))∧w'.cell? ⟨w.heap.size+1,3,none⟩=some (.int .i64 ((p:Int)))) (first | (refine⟨(((Below.refl _ _).alloc (Nat.le_refl _) _).alloc (by simp) _).drew,?_⟩;go_keep) | (go_split_ands;and_intros<;>assumption) | (go_split_ands;exact⟨keepBelow (by assumption) hb,keepSize hb (by assumption),keepCell hb (Nat.lt_of_succ_lt (by assumption)) (by assumption),keepCell hb (Nat.lt_of_succ_lt (by assumption)) (by assumption),keepCell hb (Nat.lt_of_succ_lt (by assumption)) (by assumption),keepCell hb (Nat.lt_of_succ_lt (by assumption)) (by assumption),keepCell hb (by assumption) (by assumption),keepCell hb (by assumption) (by assumption),keepCell hb (by assumption) (by assumption),keepCell hb (by assumption) (by assumption)⟩))
   (first | (go_at_call 114;refine(ctext 0 a f p _).mono ?_;rintro e w'⟨rfl,hb⟩))
  go_split_ands
  obtain⟨hc1,hf1⟩:=bcell hb;have HB9:Hid (Below w.heap.size w w'):=by show Below w.heap.size w w';assumption
  clear hb;go_wp2;refine bodyPost_ret (v:=(.agg #[.int .i64 (0),.int .i64 (0),.int .i64 (0),.int .i64 (0)])) (by simp[results,Tryz.results107,go_sem, *]) rfl ⟨by rw[HT.out];rfl,?_⟩;exact((((HB9.out).setCell (by simp<;>omega) _).setCell (by simp<;>omega) _).setCell (by simp<;>omega) _).setCell (by simp<;>omega) _
 have c3:=Classical.not_not.1 c3;by_cases c4:0<numB head 20
 ·by_cases c5:size<64+1028*numB head 20
  ·have HT:Hid (toldA head 16 0 size=cm0):=HE.trans (by rw[if_neg (by omega),if_neg (fun h=>h c3),if_pos ⟨c4,c5⟩]);clear HE;go_enter Tryz.func107,Tryz.ntmps107;go_wp2_with fail
   refine(cslotAt 0 _ (by omega) (by omega)).mono ?_;rintro e w2⟨rfl,rfl⟩;go_wp2_with fail
   refine(cnumber head 16 _ HA.out HH.out).mono ?_;rintro e w2⟨rfl,rfl⟩;go_wp2_with fail
   refine(cnumber head 20 _ HB.out HH.out).mono ?_;rintro e w2⟨rfl,rfl⟩;go_wp2_with fail
   refine(cnumber head 24 _ HC.out HH.out).mono ?_;rintro e w2⟨rfl,rfl⟩;generalize numB head 16=a at *;generalize numB head 20=f at *;generalize numB head 24=p at *;have hwr:IntKind.i64.wrap 40=40:=by decide
   have hsl:∀X,(Instr.slice 9 (.string head) (some (.int .i64 16)) (some (.int .i64 40)) none).run Tryz.prog X=.ok (.string (head.extract 16 40)) X:=fun X=>slice_lit head 16 40 (by omega) (by omega) X
   have j1:decide ((a:Int)<1)=false:=decide_eq_false (by omega);have j2:decide ((3:Int)<(a:Int))=false:=decide_eq_false (by omega);have i4:(0:Int)<(f:Int):=by omega
   have i5:(size:Int)<64+1028*(f:Int):=by omega
   clear h1 h2 HA HB HC HH hh
   go_upto_region 5 with fail
   go_region_held3 (fun w'=>Below w.heap.size w w'∧w.heap.size+1<w'.heap.size∧w'.cell? ⟨w.heap.size,0,none⟩=some (.int .i64 (0))∧w'.cell? ⟨w.heap.size,1,none⟩=some (.int .i64 (0))∧w'.cell? ⟨w.heap.size,2,none⟩=some (.int .i64 (0))∧w'.cell? ⟨w.heap.size,3,none⟩=some (.int .i64 (0))∧w'.cell? ⟨w.heap.size+1,0,none⟩=some (.int .i64 (0))∧w'.cell? ⟨w.heap.size+1,1,none⟩=some (.int .i64 ((a:Int)))∧w'.cell? ⟨w.heap.size+1,2,none⟩=some (.int .i64 ((f:Int)))∧w'.cell? ⟨w.heap.size+1,3,none⟩=some (.int .i64 ((p:Int)))) (first | (refine⟨(((Below.refl _ _).alloc (Nat.le_refl _) _).alloc (by simp) _).drew,?_⟩;go_keep) | (go_split_ands;and_intros<;>assumption) | (go_split_ands;exact⟨keepBelow (by assumption) hb,keepSize hb (by assumption),keepCell hb (Nat.lt_of_succ_lt (by assumption)) (by assumption),keepCell hb (Nat.lt_of_succ_lt (by assumption)) (by assumption),keepCell hb (Nat.lt_of_succ_lt (by assumption)) (by assumption),keepCell hb (Nat.lt_of_succ_lt (by assumption)) (by assumption),keepCell hb (by assumption) (by assumption),keepCell hb (by assumption) (by assumption),keepCell hb (by assumption) (by assumption),keepCell hb (by assumption) (by assumption)⟩))
    (first | (go_at_call 114;refine(ctext 0 a f p _).mono ?_;rintro e w'⟨rfl,hb⟩))
   go_split_ands
   obtain⟨hc1,hf1⟩:=bcell hb;have HB9:Hid (Below w.heap.size w w'):=by show Below w.heap.size w w';assumption
   clear hb;go_wp2_with fail
   refine(cframeAt f _ (by omega) (by omega)).mono ?_;rintro e w3⟨rfl,rfl⟩;go_wp2;refine bodyPost_ret (v:=(.agg #[.int .i64 (0),.int .i64 (0),.int .i64 (0),.int .i64 (0)])) (by simp[results,Tryz.results107,go_sem, *]) rfl ⟨by rw[HT.out];rfl,?_⟩;exact((((HB9.out).setCell (by simp<;>omega) _).setCell (by simp<;>omega) _).setCell (by simp<;>omega) _).setCell (by simp<;>omega) _
  ·have HT:Hid (toldA head 16 0 size=(⟨0,numB head 16,numB head 20,numB head 24⟩:Cm)):=HE.trans (by rw[if_neg (by omega),if_neg (fun h=>h c3),if_neg (fun h=>c5 h.2)]);clear HE;go_enter Tryz.func107,Tryz.ntmps107;go_wp2_with fail
   refine(cslotAt 0 _ (by omega) (by omega)).mono ?_;rintro e w2⟨rfl,rfl⟩;go_wp2_with fail
   refine(cnumber head 16 _ HA.out HH.out).mono ?_;rintro e w2⟨rfl,rfl⟩;go_wp2_with fail
   refine(cnumber head 20 _ HB.out HH.out).mono ?_;rintro e w2⟨rfl,rfl⟩;go_wp2_with fail
   refine(cnumber head 24 _ HC.out HH.out).mono ?_;rintro e w2⟨rfl,rfl⟩;generalize numB head 16=a at *;generalize numB head 20=f at *;generalize numB head 24=p at *;have hwr:IntKind.i64.wrap 40=40:=by decide
   have hsl:∀X,(Instr.slice 9 (.string head) (some (.int .i64 16)) (some (.int .i64 40)) none).run Tryz.prog X=.ok (.string (head.extract 16 40)) X:=fun X=>slice_lit head 16 40 (by omega) (by omega) X
   have j1:decide ((a:Int)<1)=false:=decide_eq_false (by omega);have j2:decide ((3:Int)<(a:Int))=false:=decide_eq_false (by omega);have i4:(0:Int)<(f:Int):=by omega
   have i5:¬(size:Int)<64+1028*(f:Int):=by omega
   clear h1 h2 HA HB HC HH hh
   go_upto_region 5 with fail
   go_region_held3 (fun w'=>Below w.heap.size w w'∧w.heap.size+1<w'.heap.size∧w'.cell? ⟨w.heap.size,0,none⟩=some (.int .i64 (0))∧w'.cell? ⟨w.heap.size,1,none⟩=some (.int .i64 (0))∧w'.cell? ⟨w.heap.size,2,none⟩=some (.int .i64 (0))∧w'.cell? ⟨w.heap.size,3,none⟩=some (.int .i64 (0))∧w'.cell? ⟨w.heap.size+1,0,none⟩=some (.int .i64 (0))∧w'.cell? ⟨w.heap.size+1,1,none⟩=some (.int .i64 ((a:Int)))∧w'.cell? ⟨w.heap.size+1,2,none⟩=some (.int .i64 ((f:Int)))∧w'.cell? ⟨w.heap.size+1,3,none⟩=some (.int .i64 ((p:Int)))) (first | (refine⟨(((Below.refl _ _).alloc (Nat.le_refl _) _).alloc (by simp) _).drew,?_⟩;go_keep) | (go_split_ands;and_intros<;>assumption) | (go_split_ands;exact⟨keepBelow (by assumption) hb,keepSize hb (by assumption),keepCell hb (Nat.lt_of_succ_lt (by assumption)) (by assumption),keepCell hb (Nat.lt_of_succ_lt (by assumption)) (by assumption),keepCell hb (Nat.lt_of_succ_lt (by assumption)) (by assumption),keepCell hb (Nat.lt_of_succ_lt (by assumption)) (by assumption),keepCell hb (by assumption) (by assumption),keepCell hb (by assumption) (by assumption),keepCell hb (by assumption) (by assumption),keepCell hb (by assumption) (by assumption)⟩))
    (first | (go_at_call 114;refine(ctext 0 a f p _).mono ?_;rintro e w'⟨rfl,hb⟩))
   go_split_ands
   obtain⟨hc1,hf1⟩:=bcell hb;have HB9:Hid (Below w.heap.size w w'):=by show Below w.heap.size w w';assumption
   clear hb;go_wp2_with fail
   refine(cframeAt f _ (by omega) (by omega)).mono ?_;rintro e w3⟨rfl,rfl⟩;go_wp2;refine bodyPost_ret (v:=(.agg #[.int .i64 (0),.int .i64 ((a:Int)),.int .i64 ((f:Int)),.int .i64 ((p:Int))])) (by simp[results,Tryz.results107,go_sem, *]) rfl ⟨by rw[HT.out];rfl,?_⟩;exact((((HB9.out).setCell (by simp<;>omega) _).setCell (by simp<;>omega) _).setCell (by simp<;>omega) _).setCell (by simp<;>omega) _
 ·have HT:Hid (toldA head 16 0 size=(⟨0,numB head 16,numB head 20,numB head 24⟩:Cm)):=HE.trans (by rw[if_neg (by omega),if_neg (fun h=>h c3),if_neg (fun h=>c4 h.1)]);clear HE;go_enter Tryz.func107,Tryz.ntmps107;go_wp2_with fail
  refine(cslotAt 0 _ (by omega) (by omega)).mono ?_;rintro e w2⟨rfl,rfl⟩;go_wp2_with fail
  refine(cnumber head 16 _ HA.out HH.out).mono ?_;rintro e w2⟨rfl,rfl⟩;go_wp2_with fail
  refine(cnumber head 20 _ HB.out HH.out).mono ?_;rintro e w2⟨rfl,rfl⟩;go_wp2_with fail
  refine(cnumber head 24 _ HC.out HH.out).mono ?_;rintro e w2⟨rfl,rfl⟩;generalize numB head 16=a at *;generalize numB head 20=f at *;generalize numB head 24=p at *;have hwr:IntKind.i64.wrap 40=40:=by decide
  have hsl:∀X,(Instr.slice 9 (.string head) (some (.int .i64 16)) (some (.int .i64 40)) none).run Tryz.prog X=.ok (.string (head.extract 16 40)) X:=fun X=>slice_lit head 16 40 (by omega) (by omega) X
  have j1:decide ((a:Int)<1)=false:=decide_eq_false (by omega);have j2:decide ((3:Int)<(a:Int))=false:=decide_eq_false (by omega);have i4:¬(0:Int)<(f:Int):=by omega
  clear h1 h2 HA HB HC HH hh
  go_upto_region 5 with fail
  go_region_held3 (fun w'=>Below w.heap.size w w'∧w.heap.size+1<w'.heap.size∧w'.cell? ⟨w.heap.size,0,none⟩=some (.int .i64 (0))∧w'.cell? ⟨w.heap.size,1,none⟩=some (.int .i64 (0))∧w'.cell? ⟨w.heap.size,2,none⟩=some (.int .i64 (0))∧w'.cell? ⟨w.heap.size,3,none⟩=some (.int .i64 (0))∧w'.cell? ⟨w.heap.size+1,0,none⟩=some (.int .i64 (0))∧w'.cell? ⟨w.heap.size+1,1,none⟩=some (.int .i64 ((a:Int)))∧w'.cell? ⟨w.heap.size+1,2,none⟩=some (.int .i64 ((f:Int)))∧w'.cell? ⟨w.heap.size+1,3,none⟩=some (.int .i64 ((p:Int)))) (first | (refine⟨(((Below.refl _ _).alloc (Nat.le_refl _) _).alloc (by simp) _).drew,?_⟩;go_keep) | (go_split_ands;and_intros<;>assumption) | (go_split_ands;exact⟨keepBelow (by assumption) hb,keepSize hb (by assumption),keepCell hb (Nat.lt_of_succ_lt (by assumption)) (by assumption),keepCell hb (Nat.lt_of_succ_lt (by assumption)) (by assumption),keepCell hb (Nat.lt_of_succ_lt (by assumption)) (by assumption),keepCell hb (Nat.lt_of_succ_lt (by assumption)) (by assumption),keepCell hb (by assumption) (by assumption),keepCell hb (by assumption) (by assumption),keepCell hb (by assumption) (by assumption),keepCell hb (by assumption) (by assumption)⟩))
   (first | (go_at_call 114;refine(ctext 0 a f p _).mono ?_;rintro e w'⟨rfl,hb⟩))
  go_split_ands
  obtain⟨hc1,hf1⟩:=bcell hb;have HB9:Hid (Below w.heap.size w w'):=by show Below w.heap.size w w';assumption
  clear hb;go_wp2;refine bodyPost_ret (v:=(.agg #[.int .i64 (0),.int .i64 ((a:Int)),.int .i64 ((f:Int)),.int .i64 ((p:Int))])) (by simp[results,Tryz.results107,go_sem, *]) rfl ⟨by rw[HT.out];rfl,?_⟩;exact((((HB9.out).setCell (by simp<;>omega) _).setCell (by simp<;>omega) _).setCell (by simp<;>omega) _).setCell (by simp<;>omega) _
theorem ctold1 (head:ByteArray)(size:Nat)(w:World)(hh:head.size≤1000000):Calls Tryz.prog 107 #[.string head,.int .i64 1,.int .i64 size] w fun e w'=>e=.returned (cmV (toldA head 40 1 size))∧Below w.heap.size w w':=by
 by_cases h1:head.size<64
 ·have HT:Hid (toldA head 40 1 size=cm0):=if_pos h1;go_enter Tryz.func107,Tryz.ntmps107;go_wp2_with fail
  refine(cslotAt 1 _ (by omega) (by omega)).mono ?_;rintro e w2⟨rfl,rfl⟩;have h2:(head.size:Int)<64:=by omega
  go_wp2;refine bodyPost_ret (v:=(.agg #[.int .i64 (0),.int .i64 (0),.int .i64 (0),.int .i64 (0)])) (by simp[results,Tryz.results107,go_sem, *]) rfl ⟨by rw[HT.out];rfl,?_⟩;exact((Below.refl _ _).alloc (Nat.le_refl _) _)
 have h2:¬(head.size:Int)<64:=by omega
 have HA:Hid (40+4≤head.size):=(by omega:40+4≤head.size);have HB:Hid (44+4≤head.size):=(by omega:44+4≤head.size);have HC:Hid (48+4≤head.size):=(by omega:48+4≤head.size);have HH:Hid (head.size≤1099511627776):=(by omega:head.size≤1099511627776);have HE:toldA head 40 1 size=if ¬(1≤numB head 40∧numB head 40≤3) then cm0 else if ¬txtB (numB head 40) (numB head 44) (numB head 48)=head.extract 40 64 then cm0 else if 0<numB head 44∧size<64+1028*numB head 44 then cm0 else⟨1,numB head 40,numB head 44,numB head 48⟩:=if_neg h1;have ba:=numB_lt head 40;have bf:=numB_lt head 44;have bp:=numB_lt head 48;by_cases c1:numB head 40<1
 ·have HT:Hid (toldA head 40 1 size=cm0):=HE.trans (if_pos (by omega));clear HE;go_enter Tryz.func107,Tryz.ntmps107;go_wp2_with fail
  refine(cslotAt 1 _ (by omega) (by omega)).mono ?_;rintro e w2⟨rfl,rfl⟩;go_wp2_with fail
  refine(cnumber head 40 _ HA.out HH.out).mono ?_;rintro e w2⟨rfl,rfl⟩;go_wp2_with fail
  refine(cnumber head 44 _ HB.out HH.out).mono ?_;rintro e w2⟨rfl,rfl⟩;go_wp2_with fail
  refine(cnumber head 48 _ HC.out HH.out).mono ?_;rintro e w2⟨rfl,rfl⟩;generalize numB head 40=a at *;generalize numB head 44=f at *;generalize numB head 48=p at *;have i1:(a:Int)<1:=by omega
  go_upto_region 5 with fail
  go_quiet (fail)
  go_wp2;refine bodyPost_ret (v:=(.agg #[.int .i64 (0),.int .i64 (0),.int .i64 (0),.int .i64 (0)])) (by simp[results,Tryz.results107,go_sem, *]) rfl ⟨by rw[HT.out];rfl,?_⟩;exact(((((below_dw (((Below.refl _ _).alloc (Nat.le_refl _) _).alloc (by simp) _))).setCell (by simp<;>omega) _).setCell (by simp<;>omega) _).setCell (by simp<;>omega) _).setCell (by simp<;>omega) _
 by_cases c2:3<numB head 40
 ·have HT:Hid (toldA head 40 1 size=cm0):=HE.trans (if_pos (by omega));clear HE;go_enter Tryz.func107,Tryz.ntmps107;go_wp2_with fail
  refine(cslotAt 1 _ (by omega) (by omega)).mono ?_;rintro e w2⟨rfl,rfl⟩;go_wp2_with fail
  refine(cnumber head 40 _ HA.out HH.out).mono ?_;rintro e w2⟨rfl,rfl⟩;go_wp2_with fail
  refine(cnumber head 44 _ HB.out HH.out).mono ?_;rintro e w2⟨rfl,rfl⟩;go_wp2_with fail
  refine(cnumber head 48 _ HC.out HH.out).mono ?_;rintro e w2⟨rfl,rfl⟩;generalize numB head 40=a at *;generalize numB head 44=f at *;generalize numB head 48=p at *;have j1:decide ((a:Int)<1)=false:=decide_eq_false (by omega);have j2:decide ((3:Int)<(a:Int))=true:=decide_eq_true (by omega)
  go_upto_region 5 with fail
  go_quiet (fail)
  go_wp2;refine bodyPost_ret (v:=(.agg #[.int .i64 (0),.int .i64 (0),.int .i64 (0),.int .i64 (0)])) (by simp[results,Tryz.results107,go_sem, *]) rfl ⟨by rw[HT.out];rfl,?_⟩;exact(((((below_dw (((Below.refl _ _).alloc (Nat.le_refl _) _).alloc (by simp) _))).setCell (by simp<;>omega) _).setCell (by simp<;>omega) _).setCell (by simp<;>omega) _).setCell (by simp<;>omega) _
 by_cases c3:¬txtB (numB head 40) (numB head 44) (numB head 48)=head.extract 40 64
 ·have HT:Hid (toldA head 40 1 size=cm0):=HE.trans (by rw[if_neg (by omega),if_pos c3]);clear HE;go_enter Tryz.func107,Tryz.ntmps107;go_wp2_with fail
  refine(cslotAt 1 _ (by omega) (by omega)).mono ?_;rintro e w2⟨rfl,rfl⟩;go_wp2_with fail
  refine(cnumber head 40 _ HA.out HH.out).mono ?_;rintro e w2⟨rfl,rfl⟩;go_wp2_with fail
  refine(cnumber head 44 _ HB.out HH.out).mono ?_;rintro e w2⟨rfl,rfl⟩;go_wp2_with fail
  refine(cnumber head 48 _ HC.out HH.out).mono ?_;rintro e w2⟨rfl,rfl⟩;generalize numB head 40=a at *;generalize numB head 44=f at *;generalize numB head 48=p at *;have hwr:IntKind.i64.wrap 64=64:=by decide
  have hsl:∀X,(Instr.slice 9 (.string head) (some (.int .i64 40)) (some (.int .i64 64)) none).run Tryz.prog X=.ok (.string (head.extract 40 64)) X:=fun X=>slice_lit head 40 64 (by omega) (by omega) X
  have j1:decide ((a:Int)<1)=false:=decide_eq_false (by omega);have j2:decide ((3:Int)<(a:Int))=false:=decide_eq_false (by omega);have n3:=ne_lists c3;have m3:((txtB a f p).toList == (head.extract 40 64).toList)=false:=by simpa using n3
  clear h1 h2 HA HB HC HH hh
  go_upto_region 5 with fail
  go_region_held3 (fun w'=>Below w.heap.size w w'∧w.heap.size+1<w'.heap.size∧w'.cell? ⟨w.heap.size,0,none⟩=some (.int .i64 (0))∧w'.cell? ⟨w.heap.size,1,none⟩=some (.int .i64 (0))∧w'.cell? ⟨w.heap.size,2,none⟩=some (.int .i64 (0))∧w'.cell? ⟨w.heap.size,3,none⟩=some (.int .i64 (0))∧w'.cell? ⟨w.heap.size+1,0,none⟩=some (.int .i64 (1))∧w'.cell? ⟨w.heap.size+1,1,none⟩=some (.int .i64 ((a:Int)))∧w'.cell? ⟨w.heap.size+1,2,none⟩=some (.int .i64 ((f:Int)))∧w'.cell? ⟨w.heap.size+1,3,none⟩=some (.int .i64 ((p:Int)))) (first | (refine⟨(((Below.refl _ _).alloc (Nat.le_refl _) _).alloc (by simp) _).drew,?_⟩;go_keep) | (go_split_ands;and_intros<;>assumption) | (go_split_ands;exact⟨keepBelow (by assumption) hb,keepSize hb (by assumption),keepCell hb (Nat.lt_of_succ_lt (by assumption)) (by assumption),keepCell hb (Nat.lt_of_succ_lt (by assumption)) (by assumption),keepCell hb (Nat.lt_of_succ_lt (by assumption)) (by assumption),keepCell hb (Nat.lt_of_succ_lt (by assumption)) (by assumption),keepCell hb (by assumption) (by assumption),keepCell hb (by assumption) (by assumption),keepCell hb (by assumption) (by assumption),keepCell hb (by assumption) (by assumption)⟩))
   (first | (go_at_call 114;refine(ctext 1 a f p _).mono ?_;rintro e w'⟨rfl,hb⟩))
  go_split_ands
  obtain⟨hc1,hf1⟩:=bcell hb;have HB9:Hid (Below w.heap.size w w'):=by show Below w.heap.size w w';assumption
  clear hb;go_wp2;refine bodyPost_ret (v:=(.agg #[.int .i64 (0),.int .i64 (0),.int .i64 (0),.int .i64 (0)])) (by simp[results,Tryz.results107,go_sem, *]) rfl ⟨by rw[HT.out];rfl,?_⟩;exact((((HB9.out).setCell (by simp<;>omega) _).setCell (by simp<;>omega) _).setCell (by simp<;>omega) _).setCell (by simp<;>omega) _
 have c3:=Classical.not_not.1 c3;by_cases c4:0<numB head 44
 ·by_cases c5:size<64+1028*numB head 44
  ·have HT:Hid (toldA head 40 1 size=cm0):=HE.trans (by rw[if_neg (by omega),if_neg (fun h=>h c3),if_pos ⟨c4,c5⟩]);clear HE;go_enter Tryz.func107,Tryz.ntmps107;go_wp2_with fail
   refine(cslotAt 1 _ (by omega) (by omega)).mono ?_;rintro e w2⟨rfl,rfl⟩;go_wp2_with fail
   refine(cnumber head 40 _ HA.out HH.out).mono ?_;rintro e w2⟨rfl,rfl⟩;go_wp2_with fail
   refine(cnumber head 44 _ HB.out HH.out).mono ?_;rintro e w2⟨rfl,rfl⟩;go_wp2_with fail
   refine(cnumber head 48 _ HC.out HH.out).mono ?_;rintro e w2⟨rfl,rfl⟩;generalize numB head 40=a at *;generalize numB head 44=f at *;generalize numB head 48=p at *;have hwr:IntKind.i64.wrap 64=64:=by decide
   have hsl:∀X,(Instr.slice 9 (.string head) (some (.int .i64 40)) (some (.int .i64 64)) none).run Tryz.prog X=.ok (.string (head.extract 40 64)) X:=fun X=>slice_lit head 40 64 (by omega) (by omega) X
   have j1:decide ((a:Int)<1)=false:=decide_eq_false (by omega);have j2:decide ((3:Int)<(a:Int))=false:=decide_eq_false (by omega);have i4:(0:Int)<(f:Int):=by omega
   have i5:(size:Int)<64+1028*(f:Int):=by omega
   clear h1 h2 HA HB HC HH hh
   go_upto_region 5 with fail
   go_region_held3 (fun w'=>Below w.heap.size w w'∧w.heap.size+1<w'.heap.size∧w'.cell? ⟨w.heap.size,0,none⟩=some (.int .i64 (0))∧w'.cell? ⟨w.heap.size,1,none⟩=some (.int .i64 (0))∧w'.cell? ⟨w.heap.size,2,none⟩=some (.int .i64 (0))∧w'.cell? ⟨w.heap.size,3,none⟩=some (.int .i64 (0))∧w'.cell? ⟨w.heap.size+1,0,none⟩=some (.int .i64 (1))∧w'.cell? ⟨w.heap.size+1,1,none⟩=some (.int .i64 ((a:Int)))∧w'.cell? ⟨w.heap.size+1,2,none⟩=some (.int .i64 ((f:Int)))∧w'.cell? ⟨w.heap.size+1,3,none⟩=some (.int .i64 ((p:Int)))) (first | (refine⟨(((Below.refl _ _).alloc (Nat.le_refl _) _).alloc (by simp) _).drew,?_⟩;go_keep) | (go_split_ands;and_intros<;>assumption) | (go_split_ands;exact⟨keepBelow (by assumption) hb,keepSize hb (by assumption),keepCell hb (Nat.lt_of_succ_lt (by assumption)) (by assumption),keepCell hb (Nat.lt_of_succ_lt (by assumption)) (by assumption),keepCell hb (Nat.lt_of_succ_lt (by assumption)) (by assumption),keepCell hb (Nat.lt_of_succ_lt (by assumption)) (by assumption),keepCell hb (by assumption) (by assumption),keepCell hb (by assumption) (by assumption),keepCell hb (by assumption) (by assumption),keepCell hb (by assumption) (by assumption)⟩))
    (first | (go_at_call 114;refine(ctext 1 a f p _).mono ?_;rintro e w'⟨rfl,hb⟩))
   go_split_ands
   obtain⟨hc1,hf1⟩:=bcell hb;have HB9:Hid (Below w.heap.size w w'):=by show Below w.heap.size w w';assumption
   clear hb;go_wp2_with fail
   refine(cframeAt f _ (by omega) (by omega)).mono ?_;rintro e w3⟨rfl,rfl⟩;go_wp2;refine bodyPost_ret (v:=(.agg #[.int .i64 (0),.int .i64 (0),.int .i64 (0),.int .i64 (0)])) (by simp[results,Tryz.results107,go_sem, *]) rfl ⟨by rw[HT.out];rfl,?_⟩;exact((((HB9.out).setCell (by simp<;>omega) _).setCell (by simp<;>omega) _).setCell (by simp<;>omega) _).setCell (by simp<;>omega) _
  ·have HT:Hid (toldA head 40 1 size=(⟨1,numB head 40,numB head 44,numB head 48⟩:Cm)):=HE.trans (by rw[if_neg (by omega),if_neg (fun h=>h c3),if_neg (fun h=>c5 h.2)]);clear HE;go_enter Tryz.func107,Tryz.ntmps107;go_wp2_with fail
   refine(cslotAt 1 _ (by omega) (by omega)).mono ?_;rintro e w2⟨rfl,rfl⟩;go_wp2_with fail
   refine(cnumber head 40 _ HA.out HH.out).mono ?_;rintro e w2⟨rfl,rfl⟩;go_wp2_with fail
   refine(cnumber head 44 _ HB.out HH.out).mono ?_;rintro e w2⟨rfl,rfl⟩;go_wp2_with fail
   refine(cnumber head 48 _ HC.out HH.out).mono ?_;rintro e w2⟨rfl,rfl⟩;generalize numB head 40=a at *;generalize numB head 44=f at *;generalize numB head 48=p at *;have hwr:IntKind.i64.wrap 64=64:=by decide
   have hsl:∀X,(Instr.slice 9 (.string head) (some (.int .i64 40)) (some (.int .i64 64)) none).run Tryz.prog X=.ok (.string (head.extract 40 64)) X:=fun X=>slice_lit head 40 64 (by omega) (by omega) X
   have j1:decide ((a:Int)<1)=false:=decide_eq_false (by omega);have j2:decide ((3:Int)<(a:Int))=false:=decide_eq_false (by omega);have i4:(0:Int)<(f:Int):=by omega
   have i5:¬(size:Int)<64+1028*(f:Int):=by omega
   clear h1 h2 HA HB HC HH hh
   go_upto_region 5 with fail
   go_region_held3 (fun w'=>Below w.heap.size w w'∧w.heap.size+1<w'.heap.size∧w'.cell? ⟨w.heap.size,0,none⟩=some (.int .i64 (0))∧w'.cell? ⟨w.heap.size,1,none⟩=some (.int .i64 (0))∧w'.cell? ⟨w.heap.size,2,none⟩=some (.int .i64 (0))∧w'.cell? ⟨w.heap.size,3,none⟩=some (.int .i64 (0))∧w'.cell? ⟨w.heap.size+1,0,none⟩=some (.int .i64 (1))∧w'.cell? ⟨w.heap.size+1,1,none⟩=some (.int .i64 ((a:Int)))∧w'.cell? ⟨w.heap.size+1,2,none⟩=some (.int .i64 ((f:Int)))∧w'.cell? ⟨w.heap.size+1,3,none⟩=some (.int .i64 ((p:Int)))) (first | (refine⟨(((Below.refl _ _).alloc (Nat.le_refl _) _).alloc (by simp) _).drew,?_⟩;go_keep) | (go_split_ands;and_intros<;>assumption) | (go_split_ands;exact⟨keepBelow (by assumption) hb,keepSize hb (by assumption),keepCell hb (Nat.lt_of_succ_lt (by assumption)) (by assumption),keepCell hb (Nat.lt_of_succ_lt (by assumption)) (by assumption),keepCell hb (Nat.lt_of_succ_lt (by assumption)) (by assumption),keepCell hb (Nat.lt_of_succ_lt (by assumption)) (by assumption),keepCell hb (by assumption) (by assumption),keepCell hb (by assumption) (by assumption),keepCell hb (by assumption) (by assumption),keepCell hb (by assumption) (by assumption)⟩))
    (first | (go_at_call 114;refine(ctext 1 a f p _).mono ?_;rintro e w'⟨rfl,hb⟩))
   go_split_ands
   obtain⟨hc1,hf1⟩:=bcell hb;have HB9:Hid (Below w.heap.size w w'):=by show Below w.heap.size w w';assumption
   clear hb;go_wp2_with fail
   refine(cframeAt f _ (by omega) (by omega)).mono ?_;rintro e w3⟨rfl,rfl⟩;go_wp2;refine bodyPost_ret (v:=(.agg #[.int .i64 (1),.int .i64 ((a:Int)),.int .i64 ((f:Int)),.int .i64 ((p:Int))])) (by simp[results,Tryz.results107,go_sem, *]) rfl ⟨by rw[HT.out];rfl,?_⟩;exact((((HB9.out).setCell (by simp<;>omega) _).setCell (by simp<;>omega) _).setCell (by simp<;>omega) _).setCell (by simp<;>omega) _
 ·have HT:Hid (toldA head 40 1 size=(⟨1,numB head 40,numB head 44,numB head 48⟩:Cm)):=HE.trans (by rw[if_neg (by omega),if_neg (fun h=>h c3),if_neg (fun h=>c4 h.1)]);clear HE;go_enter Tryz.func107,Tryz.ntmps107;go_wp2_with fail
  refine(cslotAt 1 _ (by omega) (by omega)).mono ?_;rintro e w2⟨rfl,rfl⟩;go_wp2_with fail
  refine(cnumber head 40 _ HA.out HH.out).mono ?_;rintro e w2⟨rfl,rfl⟩;go_wp2_with fail
  refine(cnumber head 44 _ HB.out HH.out).mono ?_;rintro e w2⟨rfl,rfl⟩;go_wp2_with fail
  refine(cnumber head 48 _ HC.out HH.out).mono ?_;rintro e w2⟨rfl,rfl⟩;generalize numB head 40=a at *;generalize numB head 44=f at *;generalize numB head 48=p at *;have hwr:IntKind.i64.wrap 64=64:=by decide
  have hsl:∀X,(Instr.slice 9 (.string head) (some (.int .i64 40)) (some (.int .i64 64)) none).run Tryz.prog X=.ok (.string (head.extract 40 64)) X:=fun X=>slice_lit head 40 64 (by omega) (by omega) X
  have j1:decide ((a:Int)<1)=false:=decide_eq_false (by omega);have j2:decide ((3:Int)<(a:Int))=false:=decide_eq_false (by omega);have i4:¬(0:Int)<(f:Int):=by omega
  clear h1 h2 HA HB HC HH hh
  go_upto_region 5 with fail
  go_region_held3 (fun w'=>Below w.heap.size w w'∧w.heap.size+1<w'.heap.size∧w'.cell? ⟨w.heap.size,0,none⟩=some (.int .i64 (0))∧w'.cell? ⟨w.heap.size,1,none⟩=some (.int .i64 (0))∧w'.cell? ⟨w.heap.size,2,none⟩=some (.int .i64 (0))∧w'.cell? ⟨w.heap.size,3,none⟩=some (.int .i64 (0))∧w'.cell? ⟨w.heap.size+1,0,none⟩=some (.int .i64 (1))∧w'.cell? ⟨w.heap.size+1,1,none⟩=some (.int .i64 ((a:Int)))∧w'.cell? ⟨w.heap.size+1,2,none⟩=some (.int .i64 ((f:Int)))∧w'.cell? ⟨w.heap.size+1,3,none⟩=some (.int .i64 ((p:Int)))) (first | (refine⟨(((Below.refl _ _).alloc (Nat.le_refl _) _).alloc (by simp) _).drew,?_⟩;go_keep) | (go_split_ands;and_intros<;>assumption) | (go_split_ands;exact⟨keepBelow (by assumption) hb,keepSize hb (by assumption),keepCell hb (Nat.lt_of_succ_lt (by assumption)) (by assumption),keepCell hb (Nat.lt_of_succ_lt (by assumption)) (by assumption),keepCell hb (Nat.lt_of_succ_lt (by assumption)) (by assumption),keepCell hb (Nat.lt_of_succ_lt (by assumption)) (by assumption),keepCell hb (by assumption) (by assumption),keepCell hb (by assumption) (by assumption),keepCell hb (by assumption) (by assumption),keepCell hb (by assumption) (by assumption)⟩))
   (first | (go_at_call 114;refine(ctext 1 a f p _).mono ?_;rintro e w'⟨rfl,hb⟩))
  go_split_ands
  obtain⟨hc1,hf1⟩:=bcell hb;have HB9:Hid (Below w.heap.size w w'):=by show Below w.heap.size w w';assumption
  clear hb;go_wp2;refine bodyPost_ret (v:=(.agg #[.int .i64 (1),.int .i64 ((a:Int)),.int .i64 ((f:Int)),.int .i64 ((p:Int))])) (by simp[results,Tryz.results107,go_sem, *]) rfl ⟨by rw[HT.out];rfl,?_⟩;exact((((HB9.out).setCell (by simp<;>omega) _).setCell (by simp<;>omega) _).setCell (by simp<;>omega) _).setCell (by simp<;>omega) _
end Go.Proofs.YtiaibgfhigdgdaaGreat
