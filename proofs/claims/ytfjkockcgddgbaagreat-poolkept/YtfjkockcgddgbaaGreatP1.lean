/- a part -/
import Derived.Test.YtfjkockcgddgbaaGreatP0
import Derived.Maps.OwnSet
import Derived.Maps.RangeWalk
import Derived.Maps.Ext
import Derived.Laws.Bits64b
set_option maxRecDepth 100000
set_option maxHeartbeats 8000000
namespace Go.Proofs.YtfjkockcgddgbaaGreat
open Go.RowKit Go.Lib
variable {X Y w W w1:World}{n cap g B B0 D k i m n0 p0 b:Nat}{l M:List UInt8}{f left count x:Int}{down c:Bool}{vb:Nat→Value}{lb:Nat→List UInt8}{ws:List Chg}{v:Value}{xs:List Value}{α:Type}{t:ByteArray}{a0:Option Addr}{F:Int→Option Int}
attribute [local go_sem ↓] Go.wp_at_zero Go.wp_at_succ
theorem zero_text (X:World)(p:Option Addr)(c:Nat):(convert 79 9 (.slice p 0 c)).run Tryz.prog X=.ok (.string ⟨#[]⟩) X:=by
 cases p with
 | none=>first | kernel_rfl | simp[convert,go_sem,Tryz.underlying79,Tryz.underlying5,Tryz.underlying9]
 | some a=>exact run_convert_bytes_back (P:=Tryz.prog) X 79 9 5 a c [] Tryz.underlying79 Tryz.underlying5 Tryz.underlying9 (fun j hj=>absurd hj (by simp))
theorem sub_text {base:Nat}(h:X.ownsRow base 5 1 (.slice (some ⟨g,0,none⟩) n cap) n (valsB l))(at' m c:Nat)(hm:at'+m≤n):(convert 79 9 (.slice (some ⟨g,at',none⟩) m c)).run Tryz.prog X=.ok (.string ⟨((l.drop at').take m).toArray⟩) X:=by
 have hl:l.length=n:=by have:=h.1;simpa[valsB] using this
 have hlen:((l.drop at').take m).length=m:=by rw[List.length_take,List.length_drop];omega
 have:=run_convert_bytes_back (P:=Tryz.prog) X 79 9 5 ⟨g,at',none⟩ c ((l.drop at').take m) Tryz.underlying79 Tryz.underlying5 Tryz.underlying9 (fun j hj=>by
  rw[Addr.add_lit,h.cellAt (at'+j) (by omega)];have hj':at'+j<l.length:=by omega
  simp[valsB,List.getElem?_eq_getElem hj',List.getElem_take,List.getElem_drop])
 rw[hlen] at this;exact this
def sizV (f:Int)(lb:Nat→List UInt8)(down:Bool):Int:=if askE f 0 0 down=0 then((lb (2*f.toNat)).length:Int) else 0
def rdE (f at' n:Int)(lb:Nat→List UInt8)(down:Bool):Int:=if askE f at' n down=0 then(if((lb (2*f.toNat)).length:Int)<at'+n then 3 else 0) else askE f at' n down
def rdS (f at' n:Int)(lb:Nat→List UInt8)(down:Bool):ByteArray:=if rdE f at' n lb down=0 then⟨(((lb (2*f.toNat)).drop at'.toNat).take n.toNat).toArray⟩ else⟨#[]⟩
theorem ask_n {at' n:Int}(h:askE f at' n down=0):0≤n:=by
 unfold askE at h;split at h
 ·rename_i hf
  unfold fitsD at hf;have hf:=of_decide_eq_true hf;omega
 ·cases h
theorem csize (f:Int)(X:World)(B D:Nat)(vb:Nat→Value)(vw:Value)(lb:Nat→List UInt8)(ws:List Chg)(left count:Int)(down:Bool)(h:PD X B D vb vw lb ws left count down):Calls Tryz.prog 54 #[(.pointer (some ⟨D,0,none⟩)),.int .i64 f] X fun e w'=>e=.returned (.tuple #[.int .i64 (sizV f lb down),.int .i64 (askE f 0 0 down)])∧w'=X:=by
 have H:Hid (PD X B D vb vw lb ws left count down):=h;obtain⟨c0,c1,c2,c3,-⟩:=h.cells;obtain⟨a0,p0,e0,-⟩:=owns_sliceB (h.rows 0 (by decide));obtain⟨a2,p2,e2,-⟩:=owns_sliceB (h.rows 2 (by decide));rw[e0] at c0;rw[e2] at c2;clear h;by_cases ha:askE f 0 0 down=0
 ·have HA:Hid _:=ha;obtain⟨f',p,rfl,-,hf,-⟩:=ask_fits ha;have e9:sizV f' lb down=((lb (2*f')).length:Int):=by unfold sizV;rw[if_pos ha,Int.toNat_natCast]
  rw[e9,ha];clear ha e9;rcases(show f'=0∨f'=1 by omega) with rfl | rfl
  ·have hA:askE 0 0 0 down=0:=HA.out;go_enter Tryz.func54,Tryz.ntmps54;go_wp2_with fail
   refine(casked 0 0 0 X B D vb vw lb ws left count down H.out).mono ?_;rintro e w'⟨rfl,rfl⟩;rw[hA];go_wp2_with fail
   go_ret2
   exact⟨rfl,rfl⟩
  ·have hA:askE 1 0 0 down=0:=HA.out;go_enter Tryz.func54,Tryz.ntmps54;go_wp2_with fail
   refine(casked 1 0 0 X B D vb vw lb ws left count down H.out).mono ?_;rintro e w'⟨rfl,rfl⟩;rw[hA];go_wp2_with fail
   go_ret2
   exact⟨rfl,rfl⟩
 ·have e9:sizV f lb down=0:=by unfold sizV;rw[if_neg ha]
  rw[e9];clear e9;go_enter Tryz.func54,Tryz.ntmps54;go_wp2_with fail
  refine(casked f 0 0 X B D vb vw lb ws left count down H.out).mono ?_;rintro e w'⟨rfl,rfl⟩;go_wp2_with fail
  go_ret2
  exact⟨rfl,rfl⟩
theorem cread (f at' n:Int)(X:World)(B D:Nat)(vb:Nat→Value)(vw:Value)(lb:Nat→List UInt8)(ws:List Chg)(left count:Int)(down:Bool)(h:PD X B D vb vw lb ws left count down):Calls Tryz.prog 55 #[(.pointer (some ⟨D,0,none⟩)),.int .i64 f,.int .i64 at',.int .i64 n] X fun e w'=>e=.returned (.tuple #[.string (rdS f at' n lb down),.int .i64 (rdE f at' n lb down)])∧w'=X:=by
 have H:Hid (PD X B D vb vw lb ws left count down):=h;obtain⟨c0,c1,c2,c3,-⟩:=h.cells;obtain⟨a0,p0,e0,q0⟩:=owns_sliceB (h.rows 0 (by decide));obtain⟨a2,p2,e2,q2⟩:=owns_sliceB (h.rows 2 (by decide));have hs0:=h.size 0 (by decide);have hs2:=h.size 2 (by decide);have O0:Hid _:=e0 ▸ h.rows 0 (by decide);have O2:Hid _:=e2 ▸ h.rows 2 (by decide);rw[e0] at c0;rw[e2] at c2;clear h e0 e2;by_cases ha:askE f at' n down=0
 ·have HA:Hid _:=ha;have hn0:=ask_n ha;obtain⟨f',p,rfl,rfl,hf,hfit⟩:=ask_fits ha;obtain⟨m,rfl⟩:∃m:Nat,n=m:=⟨n.toNat,by omega⟩;have e9:rdE f' p m lb down=if((lb (2*f')).length:Int)<(p:Int)+m then 3 else 0:=by unfold rdE;rw[if_pos ha,Int.toNat_natCast]
  have e8:rdS f' p m lb down=if((lb (2*f')).length:Int)<(p:Int)+m then⟨#[]⟩ else⟨(((lb (2*f')).drop p).take m).toArray⟩:=by
   unfold rdS;rw[e9];by_cases hlt:((lb (2*f')).length:Int)<(p:Int)+m
   ·rw[if_pos hlt,if_neg (by decide),if_pos hlt]
   ·rw[if_neg hlt,if_pos rfl,if_neg hlt,Int.toNat_natCast,Int.toNat_natCast,Int.toNat_natCast]
  rw[e9,e8];clear ha e9 e8;rcases(show f'=0∨f'=1 by omega) with rfl | rfl
  ·have hA:askE 0 p m down=0:=HA.out;show Calls _ _ #[_,.int .i64 0,_,_] _ _;rw[show 2*0=0 from rfl];by_cases hlt:(lb 0).length<p+m
   ·have hlt':((lb 0).length:Int)<(p:Int)+m:=by omega
    rw[if_pos hlt',if_pos hlt'];go_enter Tryz.func55,Tryz.ntmps55;go_wp2_with fail
    refine(casked 0 p m X B D vb vw lb ws left count down H.out).mono ?_;rintro e w'⟨rfl,rfl⟩;rw[hA];go_wp2_with fail
    go_ret2
    exact⟨rfl,rfl⟩
   ·have hlt':¬((lb 0).length:Int)<(p:Int)+m:=by omega
    rw[if_neg hlt',if_neg hlt'];have k1:(0:Int)≤(p:Int):=by omega
    have k2:(p:Int)≤(p:Int)+m:=by omega
    have k3:(p:Int)+m≤(p0:Int):=by omega
    by_cases hm:m=0
    ·subst hm;have hcv:=zero_text X;rw[show(((lb 0).drop p).take 0).toArray=#[] from rfl];rcases Decidable.em (p=p0) with rfl | hpe
     all_goals
      go_enter Tryz.func55,Tryz.ntmps55;go_wp2_with fail
      refine(casked 0 p 0 X B D vb vw lb ws left count down H.out).mono ?_;rintro e w'⟨rfl,rfl⟩
      first | rw[hA] | (rw[show askE 0 p 0 down=0 from HA.out])
      go_wp2_with fail
      go_ret2
      exact⟨rfl,rfl⟩
    ·obtain⟨g,cap',ee,_,_⟩:=World.ownsRow.form O0.out (by omega);injection ee with ee1 ee2 ee3;subst ee1 ee3;have hcv:=sub_text O0.out p m (p0-p) (by omega);have hpe:¬p=p0:=by omega
     go_enter Tryz.func55,Tryz.ntmps55;go_wp2_with fail
     refine(casked 0 p m X B D vb vw lb ws left count down H.out).mono ?_;rintro e w'⟨rfl,rfl⟩;rw[hA];go_wp2_with fail
     go_ret2
     exact⟨rfl,rfl⟩
  ·have hA:askE 1 p m down=0:=HA.out;show Calls _ _ #[_,.int .i64 1,_,_] _ _;rw[show 2*1=2 from rfl];by_cases hlt:(lb 2).length<p+m
   ·have hlt':((lb 2).length:Int)<(p:Int)+m:=by omega
    rw[if_pos hlt',if_pos hlt'];go_enter Tryz.func55,Tryz.ntmps55;go_wp2_with fail
    refine(casked 1 p m X B D vb vw lb ws left count down H.out).mono ?_;rintro e w'⟨rfl,rfl⟩;rw[hA];go_wp2_with fail
    go_ret2
    exact⟨rfl,rfl⟩
   ·have hlt':¬((lb 2).length:Int)<(p:Int)+m:=by omega
    rw[if_neg hlt',if_neg hlt'];have k1:(0:Int)≤(p:Int):=by omega
    have k2:(p:Int)≤(p:Int)+m:=by omega
    have k3:(p:Int)+m≤(p2:Int):=by omega
    by_cases hm:m=0
    ·subst hm;have hcv:=zero_text X;rw[show(((lb 2).drop p).take 0).toArray=#[] from rfl];rcases Decidable.em (p=p2) with rfl | hpe
     all_goals
      go_enter Tryz.func55,Tryz.ntmps55;go_wp2_with fail
      refine(casked 1 p 0 X B D vb vw lb ws left count down H.out).mono ?_;rintro e w'⟨rfl,rfl⟩
      first | rw[hA] | (rw[show askE 1 p 0 down=0 from HA.out])
      go_wp2_with fail
      go_ret2
      exact⟨rfl,rfl⟩
    ·obtain⟨g,cap',ee,_,_⟩:=World.ownsRow.form O2.out (by omega);injection ee with ee1 ee2 ee3;subst ee1 ee3;have hcv:=sub_text O2.out p m (p2-p) (by omega);have hpe:¬p=p2:=by omega
     go_enter Tryz.func55,Tryz.ntmps55;go_wp2_with fail
     refine(casked 1 p m X B D vb vw lb ws left count down H.out).mono ?_;rintro e w'⟨rfl,rfl⟩;rw[hA];go_wp2_with fail
     go_ret2
     exact⟨rfl,rfl⟩
 ·have e9:rdE f at' n lb down=askE f at' n down:=by unfold rdE;rw[if_neg ha]
  have e8:rdS f at' n lb down=⟨#[]⟩:=by unfold rdS;rw[e9,if_neg ha]
  rw[e9,e8];clear e9 e8;go_enter Tryz.func55,Tryz.ntmps55;go_wp2_with fail
  refine(casked f at' n X B D vb vw lb ws left count down H.out).mono ?_;rintro e w'⟨rfl,rfl⟩;go_wp2_with fail
  go_ret2
  exact⟨rfl,rfl⟩
def foldF (f:Nat)(ws:List Chg)(l:List UInt8):List UInt8:=ws.foldl (fun l x=>if x.f=f then onL x.p x.t x.c l else l) l
def othF (f:Nat)(ws:List Chg):List Chg:=ws.filter fun x=>!(x.f == f)
theorem foldF_snoc (f:Nat)(ws:List Chg)(x:Chg)(l:List UInt8):foldF f (ws++[x]) l=if x.f=f then onL x.p x.t x.c (foldF f ws l) else foldF f ws l:=by simp[foldF]
theorem othF_snoc (f:Nat)(ws:List Chg)(x:Chg):othF f (ws++[x])=if x.f=f then othF f ws else othF f ws++[x]:=by
 unfold othF;rw[List.filter_append];by_cases h:x.f=f<;>simp[h]
theorem othF_le (f:Nat)(ws:List Chg):(othF f ws).length≤ws.length:=List.length_filter_le _ _
theorem chgs_get:∀{ws:List Chg} {i j:Nat} (h:i<ws.length),j<4→(chgsCells ws)[i*4+j]?=(chgCells (ws[i]'h))[j]?
 | x :: ws, 0, j, _, hj => by
  show(chgCells x++chgsCells ws)[0*4+j]?=_;rw[List.getElem?_append_left (by simp[chgCells];omega),Nat.zero_mul,Nat.zero_add];rfl
 | x :: ws, i + 1, j, h, hj => by
  have h':i<ws.length:=by simpa using h
  show(chgCells x++chgsCells ws)[(i+1)*4+j]?=_;rw[List.getElem?_append_right (by simp[chgCells];omega),show(i+1)*4+j-(chgCells x).length=i*4+j by simp[chgCells];omega,chgs_get h' hj];rfl
theorem row_kept2 {vw:Value}(h:PD X B D vb vw lb ws left count down)(hk:k<4)(ho:X.ownsRow B0 114 4 v n xs)(hb:But2 X Y (some D) (vb k).ownBlock):Y.ownsRow B0 114 4 v n xs:=
 row_keep ho fun g hg=>by
  have h1:=row_neD h.blk (by decide) ho;have h2:v.ownBlock=none∨v.ownBlock≠(vb k).ownBlock:=by
   rcases(h.rows k hk).2 with⟨e,_⟩|⟨g',cap,cur,e,_,hgg,_⟩
   ·rw[e];exact .inr (fun h=>by rw[hg] at h;cases h)
   ·rw[e];exact row_neD hgg (by decide) ho
  refine hb.block g (World.ownsRow.lt ho g hg).2 (fun e=>?_) (fun e=>?_)
  ·rcases h1 with h1|h1
   ·rw[hg] at h1;cases h1
   ·exact h1 (by rw[hg,e])
  ·rcases h2 with h2|h2
   ·rw[hg] at h2;cases h2
   ·exact h2 (by rw[hg,e])
theorem none_or {o:Option Nat}(h:∀b,o=some b→¬b=g):o=none∨o≠some g:=by
 cases o with
 | none=>exact .inl rfl
 | some b=>exact .inr (fun e=>by injection e with e;exact h b rfl e)
theorem PD.keptC {vw:Value}(h:PD X B D vb vw lb ws left count down)(ho:X.ownsRow B0 114 4 v n xs)(hv:∀g,vw.ownBlock=some g→g<B0)(hg:X.grownBy Y v.ownBlock):PD Y B D vb vw lb ws left count down:=by
 have far:∀(e:TypeId) (size:Nat) (u:Value) (m:Nat) (ys:List Value),¬e=114→X.ownsRow B e size u m ys→u.ownBlock=none∨u.ownBlock≠v.ownBlock:=fun e size u m ys he hu=>by
  rcases ho.2 with⟨e1,_⟩|⟨g',cap,cur,e1,_,hgg,_⟩
  ·rw[e1];cases hq:u.ownBlock with
   | none=>exact .inl rfl
   | some b=>exact .inr (fun h=>by cases h)
  ·rw[e1];exact row_neD hgg he hu
 refine⟨(hg.block D h.lt (neD' (row_neD h.blk (by decide) ho))).trans h.blk,h.low,fun i hi=>World.ownsRow.kept (h.rows i hi) hg (far _ _ _ _ _ (by decide) (h.rows i hi)),World.ownsRow.kept h.wrow hg ?_,h.dif,h.size,h.oks⟩;rcases ho.2 with⟨e1,_⟩ | ⟨g',cap,cur,e1,hlo,_⟩
 ·rw[e1];cases hq:vw.ownBlock with
  | none=>exact .inl rfl
  | some b=>exact .inr (fun h=>by cases h)
 ·rw[e1];exact none_or (fun b hb e=>by have h1:=hv b hb;have e:b=g':=e;omega)
theorem PD.setW {vw:Value}{ws':List Chg}(h:PD X B D vb vw lb ws left count down)(ho:X.ownsRow B0 114 4 v ws'.length (chgsCells ws'))(hB:B≤B0)(hok:∀x∈ws',okC x):PD (X.setCell ⟨D,4,none⟩ v) B D vb v lb ws' left count down:=by
 have hset:=set_grown X D 4 v;refine⟨by rw[set_blk h.blk];rfl,h.low,fun i hi=>World.ownsRow.kept (h.rows i hi) hset (row_neD h.blk (by decide) (h.rows i hi)),?_,h.dif,h.size,hok⟩;have:=World.ownsRow.kept ho hset (row_neD h.blk (by decide) ho);refine⟨this.1,?_⟩;rcases this.2 with h' | ⟨g,cap,cur,h1,h2,h3⟩
 ·exact .inl h'
 ·exact .inr ⟨g,cap,cur,h1,Nat.le_trans hB h2,h3⟩
theorem PD.vwlt {vw:Value}(h:PD X B D vb vw lb ws left count down):∀g,vw.ownBlock=some g→g<X.heap.size:=fun g hg=>(World.ownsRow.lt h.wrow g hg).2
theorem updF_same (f:Nat→α)(k:Nat):updF f k (f k)=f:=by
 funext i;unfold updF;split
 ·rename_i h;rw[h]
 ·rfl
theorem updF_two (f:Nat→α)(k:Nat)(v u:α):updF (updF f k v) k u=updF f k u:=by
 funext i;unfold updF;split<;>rfl
theorem take_snoc {l:List α}(h:i<l.length):l.take (i+1)=l.take i++[l[i]]:=by
 rw[List.take_add_one,List.getElem?_eq_getElem h];rfl
theorem othF_ok {f:Nat}(h:∀x∈ws,okC x):∀x∈othF f ws,okC x:=fun x hx=>h x (List.mem_filter.1 hx).1
theorem wcells (h:PD X B D vb (.slice (some ⟨g,0,none⟩) ws.length cap) lb ws left count down)(hi:i<ws.length){xf p:Nat}(hx:ws[i]=⟨xf,p,t,c⟩):X.cell? ⟨g,i*4,none⟩=some (.int .i64 xf)∧X.cell? ⟨g,i*4+1,none⟩=some (.int .i64 p)∧X.cell? ⟨g,i*4+2,none⟩=some (.string t)∧X.cell? ⟨g,i*4+3,none⟩=some (.bool c):=by
 have k:∀j,j<4→X.cell? ⟨g,i*4+j,none⟩=(chgCells ⟨xf,p,t,c⟩)[j]?:=fun j hj=>by
  rw[h.wrow.cellAt (i*4+j) (by omega),chgs_get hi hj,hx]
 exact⟨k 0 (by decide),k 1 (by decide),k 2 (by decide),k 3 (by decide)⟩
theorem below_appC (h:BelT tyP B w X)(ho:X.ownsRow B0 114 4 v n xs)(hB:B≤B0)(hX:B≤X.heap.size)(hg:X.grownBy Y v.ownBlock):BelT tyP B w Y:=
 h.trans (BelT.row hg hX (fun b e=>⟨Nat.le_trans hB (row_nf (T:=tyP) (by decide) ho b e).1,(row_nf (by decide) ho b e).2⟩))
def synPost (f:Int)(X:World)(B D:Nat)(vb:Nat→Value)(vw:Value)(lb:Nat→List UInt8)(ws:List Chg)(left count:Int)(down:Bool)(e:Ending)(w':World):Prop:=
 (¬askE f 0 0 down=0∧e=.returned (.int .i64 (askE f 0 0 down))∧w'=X) ∨
 (askE f 0 0 down=0∧left=0∧e=.returned (.int .i64 2)∧PD w' B D vb vw lb ws left count true∧BelT tyP B X w') ∨
 (askE f 0 0 down=0∧¬left=0∧e=.returned (.int .i64 0)∧(∃(f':Nat) (v' vw':Value),f=f'∧f'<2∧PD w' B D (updF vb (2*f'+1) v') vw' (updF lb (2*f'+1) (foldF f' ws (lb (2*f'+1)))) (othF f' ws) (decL left) (count+1) down)∧BelT tyP B X w')
theorem csync (f:Int)(X:World)(B D:Nat)(vb:Nat→Value)(vw:Value)(lb:Nat→List UInt8)(ws:List Chg)(left count:Int)(down:Bool)(h:PD X B D vb vw lb ws left count down)(hB:B≤X.heap.size)(hl:-9223372036854775808≤left∧left≤9223372036854775807)(hc:0≤count∧count≤4611686018427387904)(hw:ws.length≤1000000):Calls Tryz.prog 62 #[(.pointer (some ⟨D,0,none⟩)),.int .i64 f] X (synPost f X B D vb vw lb ws left count down):=by
 have H:Hid (PD X B D vb vw lb ws left count down):=h;obtain⟨i0,hi,hz0,hz1,hz2⟩:=info_parts infoC;have hlow:=h.low;obtain⟨aw,cw,rfl⟩:=owns_sliceC h.wrow;clear h;go_enter Tryz.func62,Tryz.ntmps62;go_wp2_with fail
 refine(cbegin f 0 0 X B D vb _ lb ws left count down H.out hl hc).mono ?_;rintro e w1 h;rcases h with⟨ha,rfl,rfl⟩ | ⟨ha,h0,rfl,hP,hb⟩ | ⟨ha,h0,rfl,hP,hb⟩
 ·have HA:Hid _:=ha;go_wp2_with fail
  go_ret;exact .inl ⟨HA.out,rfl,rfl⟩
 ·have HA:Hid _:=ha;have HP:Hid _:=hP;have HBB:Hid _:=but_below hb hB hlow H.out.nf;clear ha hP hb;go_wp2_with fail
  go_ret;exact .inr (.inl ⟨HA.out,h0,rfl,HP.out,HBB.out⟩)
 ·have HA:Hid _:=ha;have HP:Hid (PD w1 B D vb (.slice aw ws.length cw) lb ws (decL left) (count+1) down):=hP;have hBB:=but_below hb hB hlow H.out.nf;have hB1:B≤w1.heap.size:=Nat.le_trans hB hBB.size;have HBB:Hid _:=hBB;have HV:Hid _:=HP.out.vwlt;obtain⟨f',p',rfl,-,hf,-⟩:=ask_fits ha;have c4:=HP.out.cells.2.2.2.2.1;clear ha hP hb hBB;rcases(show f'=0∨f'=1 by omega) with rfl | rfl
  ·go_wp2_with fail
   go_loopw [6,20] (fun v y X=>∃(i:Nat) (v':Value),y=.int .i64 i∧i≤ws.length∧Hid (X.ownsRow w1.heap.size 114 4 v (othF 0 (ws.take i)).length (chgsCells (othF 0 (ws.take i))))∧Hid (PD X B D (updF vb 1 v') (.slice aw ws.length cw) (updF lb 1 (foldF 0 (ws.take i) (lb 1))) ws (decL left) (count+1) down)∧Hid (BelT tyP B w1 X)) (fun _ y _=>ws.length-(intOf y).toNat)
   case atStart=>exact⟨0,vb 1,rfl,Nat.zero_le _,World.ownsRow_nil _ _ _ _,(by show PD w1 B D (updF vb 1 (vb 1)) _ (updF lb 1 (lb 1)) ws _ _ down;rw[updF_same,updF_same];exact HP.out),BelT.refl _ _ _⟩
   case round =>
    obtain⟨i,v',rfl,hin,HO,HQ,HB⟩:=hrel;by_cases hlt:i<ws.length
    ·have ki:(0:Int)≤(i:Int):=by omega
     have kn:(i:Int)<(ws.length:Int):=by omega
     obtain⟨g,cap',ee,_,_⟩:=World.ownsRow.form HQ.out.wrow (by omega);injection ee with ee1 ee2 ee3;subst ee1 ee3;obtain⟨xf,p,t,c,hx⟩:∃xf p t c,ws[i]=(⟨xf,p,t,c⟩:Chg):=⟨_,_,_,_,rfl⟩;obtain⟨k1,k2,k3⟩:okC ⟨xf,p,t,c⟩:=hx ▸ HQ.out.oks _ (List.getElem_mem hlt);have HK3:Hid _:=k3;obtain⟨d0,d1,d2,d3⟩:=wcells HQ.out hlt hx;have hTk:ws.take (i+1)=ws.take i++[⟨xf,p,t,c⟩]:=by rw[take_snoc hlt,hx]
     have HT:Hid _:=hTk;have zb:=HB.out.size;have zg:=HQ.out.vwlt g rfl;have hole:=othF_le 0 (ws.take i);rw[List.length_take] at hole;clear hTk k3 hx;have H1:Hid (PD (wr.alloc (.cells #[.int .i64 xf,.int .i64 p,.string t,.bool c] 114)) B D (updF vb 1 v') (.slice (some ⟨g,0,none⟩) ws.length cw) (updF lb 1 (foldF 0 (ws.take i) (lb 1))) ws (decL left) (count+1) down):=HQ.out.below ((Below.refl _ _).alloc (Nat.le_refl _) _);have hBwr:B≤wr.heap.size:=Nat.le_trans hB1 zb;by_cases hxf:xf=0
     ·subst hxf;go_wp2_with fail
      refine(clast0 p t c k2 HK3.out _ B D _ _ _ ws _ _ down H1.out ?hs).mono ?_
      case hs=>simp;omega
      rintro e w2⟨rfl,⟨v2,hQ2⟩,hbb,hb2⟩;have HQ2:Hid (PD w2 B D (updF vb 1 v2) (.slice (some ⟨g,0,none⟩) ws.length cw) (updF lb 1 (foldF 0 (ws.take (i+1)) (lb 1))) ws (decL left) (count+1) down):=by
       show PD w2 B D (updF vb 1 v2) (.slice (some ⟨g,0,none⟩) ws.length cw) (updF lb 1 (foldF 0 (ws.take (i+1)) (lb 1))) ws (decL left) (count+1) down;rw[HT.out,foldF_snoc,if_pos rfl];rw[updF_two,updF_two,updF_at] at hQ2;exact hQ2
      have HO2:Hid (w2.ownsRow w1.heap.size 114 4 u6 (othF 0 (ws.take (i+1))).length (chgsCells (othF 0 (ws.take (i+1))))):=by
       show w2.ownsRow w1.heap.size 114 4 u6 (othF 0 (ws.take (i+1))).length (chgsCells (othF 0 (ws.take (i+1))));rw[HT.out,othF_snoc,if_pos rfl];exact row_kept2 H1.out (show 1<4 by decide) (World.ownsRow.alloc HO.out _) hb2
      have HB2:Hid (BelT tyP B w1 w2):=(HB.out.alloc hBwr _).trans hbb;clear hQ2 hbb hb2 d0 d1 d2 d3;go_wp2
      go_roundw
      case rel=>exact⟨i+1,v2,by go_num,by omega,HO2,HQ2,HB2⟩
      case measure=>simp[intOf];omega
     ·have hxf':¬(xf:Int)=0:=by omega
      have HOa:Hid ((wr.alloc (.cells #[.int .i64 xf,.int .i64 p,.string t,.bool c] 114)).ownsRow w1.heap.size 114 4 u6 (othF 0 (ws.take i)).length (chgsCells (othF 0 (ws.take i)))):=World.ownsRow.alloc HO.out _;have hn1:=newsC (wr.alloc (.cells #[.int .i64 xf,.int .i64 p,.string t,.bool c] 114)) xf p t c;have HN:Hid _:=hn1;clear hn1;go_wp2_with (at_builtin;go_must (refine wpList_append_lies _ rfl _ _ _ rfl w1.heap.size 114 i0 (.agg #[.int .i64 0,.int .i64 0,.string ⟨#[]⟩,.bool false]) 4 40 Tryz.underlying83 hi hz0 hz1 hz2 rfl (by decide) _ (othF 0 (ws.take i)).length (chgsCells (othF 0 (ws.take i))) rfl (World.ownsRow.alloc HOa.out _) ⟨wr.heap.size+1,0,none⟩ 1 1 [.int .i64 xf,.int .i64 p,.string t,.bool c] rfl rfl ?n0 ?r00 (by decide) ?r10 ?r20 ?r30 (wr.heap.size+2) (by simp) ?_))
      case r00=>simp[Value.oneCell']
      case r10=>unfold maxLen;omega
      case r20=>omega
      case r30=>first | omega | (simp;omega)
      intro g' cap2 w4 hown2 hgrow2 hat2 hlt4;have HB4:Hid (BelT tyP B w1 w4):=below_appC ((HB.out.alloc hBwr _).alloc (by simp;omega) _) (World.ownsRow.alloc HOa.out _) hB1 (by simp;omega) hgrow2;have HQ4:Hid (PD w4 B D (updF vb 1 v') (.slice (some ⟨g,0,none⟩) ws.length cw) (updF lb 1 (foldF 0 (ws.take (i+1)) (lb 1))) ws (decL left) (count+1) down):=by
       show PD w4 B D (updF vb 1 v') (.slice (some ⟨g,0,none⟩) ws.length cw) (updF lb 1 (foldF 0 (ws.take (i+1)) (lb 1))) ws (decL left) (count+1) down;rw[HT.out,foldF_snoc,if_neg hxf];exact PD.keptC (H1.out.below ((Below.refl _ _).alloc (Nat.le_refl _) _)) (World.ownsRow.alloc HOa.out _) HV.out hgrow2
      have HO4:Hid (w4.ownsRow w1.heap.size 114 4 (.slice (some ⟨g',0,none⟩) ((othF 0 (ws.take i)).length+1) cap2) (othF 0 (ws.take (i+1))).length (chgsCells (othF 0 (ws.take (i+1))))):=by
       show w4.ownsRow w1.heap.size 114 4 (.slice (some ⟨g',0,none⟩) ((othF 0 (ws.take i)).length+1) cap2) (othF 0 (ws.take (i+1))).length (chgsCells (othF 0 (ws.take (i+1))));rw[HT.out,othF_snoc,if_neg hxf,List.length_append,chgs_snoc];exact hown2
      clear hown2 hgrow2 hat2 hlt4 d0 d1 d2 d3;go_wp2
      go_roundw
      case rel=>exact⟨i+1,v',by go_num,by omega,HO4,HQ4,HB4⟩
      case measure=>simp[intOf];omega
    ·obtain rfl:i=ws.length:=by omega
     rw[List.take_length] at HO HQ;obtain⟨a6,c6,rfl⟩:=owns_sliceC HO.out;have p4:=HQ.out.cells.2.2.2.2.1;have f4:=HQ.out.unfrozen 4;have HF:Hid _:=PD.setW HQ.out HO.out hB1 (othF_ok HQ.out.oks);go_wp2_with fail
     go_ret;exact .inr (.inr ⟨HA.out,h0,rfl,⟨0,v',_,rfl,by decide,HF.out⟩,HBB.out.trans (HB.out.setCell hlow (fun _=>HP.out.nf) _)⟩)
  ·go_wp2_with fail
   go_loopw [6,20] (fun v y X=>∃(i:Nat) (v':Value),y=.int .i64 i∧i≤ws.length∧Hid (X.ownsRow w1.heap.size 114 4 v (othF 1 (ws.take i)).length (chgsCells (othF 1 (ws.take i))))∧Hid (PD X B D (updF vb 3 v') (.slice aw ws.length cw) (updF lb 3 (foldF 1 (ws.take i) (lb 3))) ws (decL left) (count+1) down)∧Hid (BelT tyP B w1 X)) (fun _ y _=>ws.length-(intOf y).toNat)
   case atStart=>exact⟨0,vb 3,rfl,Nat.zero_le _,World.ownsRow_nil _ _ _ _,(by show PD w1 B D (updF vb 3 (vb 3)) _ (updF lb 3 (lb 3)) ws _ _ down;rw[updF_same,updF_same];exact HP.out),BelT.refl _ _ _⟩
   case round =>
    obtain⟨i,v',rfl,hin,HO,HQ,HB⟩:=hrel;by_cases hlt:i<ws.length
    ·have ki:(0:Int)≤(i:Int):=by omega
     have kn:(i:Int)<(ws.length:Int):=by omega
     obtain⟨g,cap',ee,_,_⟩:=World.ownsRow.form HQ.out.wrow (by omega);injection ee with ee1 ee2 ee3;subst ee1 ee3;obtain⟨xf,p,t,c,hx⟩:∃xf p t c,ws[i]=(⟨xf,p,t,c⟩:Chg):=⟨_,_,_,_,rfl⟩;obtain⟨k1,k2,k3⟩:okC ⟨xf,p,t,c⟩:=hx ▸ HQ.out.oks _ (List.getElem_mem hlt);have HK3:Hid _:=k3;obtain⟨d0,d1,d2,d3⟩:=wcells HQ.out hlt hx;have hTk:ws.take (i+1)=ws.take i++[⟨xf,p,t,c⟩]:=by rw[take_snoc hlt,hx]
     have HT:Hid _:=hTk;have zb:=HB.out.size;have zg:=HQ.out.vwlt g rfl;have hole:=othF_le 1 (ws.take i);rw[List.length_take] at hole;clear hTk k3 hx;have H1:Hid (PD (wr.alloc (.cells #[.int .i64 xf,.int .i64 p,.string t,.bool c] 114)) B D (updF vb 3 v') (.slice (some ⟨g,0,none⟩) ws.length cw) (updF lb 3 (foldF 1 (ws.take i) (lb 3))) ws (decL left) (count+1) down):=HQ.out.below ((Below.refl _ _).alloc (Nat.le_refl _) _);have hBwr:B≤wr.heap.size:=Nat.le_trans hB1 zb;by_cases hxf:xf=1
     ·subst hxf;go_wp2_with fail
      refine(clast1 p t c k2 HK3.out _ B D _ _ _ ws _ _ down H1.out ?hs).mono ?_
      case hs=>simp;omega
      rintro e w2⟨rfl,⟨v2,hQ2⟩,hbb,hb2⟩;have HQ2:Hid (PD w2 B D (updF vb 3 v2) (.slice (some ⟨g,0,none⟩) ws.length cw) (updF lb 3 (foldF 1 (ws.take (i+1)) (lb 3))) ws (decL left) (count+1) down):=by
       show PD w2 B D (updF vb 3 v2) (.slice (some ⟨g,0,none⟩) ws.length cw) (updF lb 3 (foldF 1 (ws.take (i+1)) (lb 3))) ws (decL left) (count+1) down;rw[HT.out,foldF_snoc,if_pos rfl];rw[updF_two,updF_two,updF_at] at hQ2;exact hQ2
      have HO2:Hid (w2.ownsRow w1.heap.size 114 4 u6 (othF 1 (ws.take (i+1))).length (chgsCells (othF 1 (ws.take (i+1))))):=by
       show w2.ownsRow w1.heap.size 114 4 u6 (othF 1 (ws.take (i+1))).length (chgsCells (othF 1 (ws.take (i+1))));rw[HT.out,othF_snoc,if_pos rfl];exact row_kept2 H1.out (show 3<4 by decide) (World.ownsRow.alloc HO.out _) hb2
      have HB2:Hid (BelT tyP B w1 w2):=(HB.out.alloc hBwr _).trans hbb;clear hQ2 hbb hb2 d0 d1 d2 d3;go_wp2
      go_roundw
      case rel=>exact⟨i+1,v2,by go_num,by omega,HO2,HQ2,HB2⟩
      case measure=>simp[intOf];omega
     ·have hxf':¬(xf:Int)=1:=by omega
      have HOa:Hid ((wr.alloc (.cells #[.int .i64 xf,.int .i64 p,.string t,.bool c] 114)).ownsRow w1.heap.size 114 4 u6 (othF 1 (ws.take i)).length (chgsCells (othF 1 (ws.take i)))):=World.ownsRow.alloc HO.out _;have hn1:=newsC (wr.alloc (.cells #[.int .i64 xf,.int .i64 p,.string t,.bool c] 114)) xf p t c;have HN:Hid _:=hn1;clear hn1;go_wp2_with (at_builtin;go_must (refine wpList_append_lies _ rfl _ _ _ rfl w1.heap.size 114 i0 (.agg #[.int .i64 0,.int .i64 0,.string ⟨#[]⟩,.bool false]) 4 40 Tryz.underlying83 hi hz0 hz1 hz2 rfl (by decide) _ (othF 1 (ws.take i)).length (chgsCells (othF 1 (ws.take i))) rfl (World.ownsRow.alloc HOa.out _) ⟨wr.heap.size+1,0,none⟩ 1 1 [.int .i64 xf,.int .i64 p,.string t,.bool c] rfl rfl ?n1 ?r01 (by decide) ?r11 ?r21 ?r31 (wr.heap.size+2) (by simp) ?_))
      case r01=>simp[Value.oneCell']
      case r11=>unfold maxLen;omega
      case r21=>omega
      case r31=>first | omega | (simp;omega)
      intro g' cap2 w4 hown2 hgrow2 hat2 hlt4;have HB4:Hid (BelT tyP B w1 w4):=below_appC ((HB.out.alloc hBwr _).alloc (by simp;omega) _) (World.ownsRow.alloc HOa.out _) hB1 (by simp;omega) hgrow2;have HQ4:Hid (PD w4 B D (updF vb 3 v') (.slice (some ⟨g,0,none⟩) ws.length cw) (updF lb 3 (foldF 1 (ws.take (i+1)) (lb 3))) ws (decL left) (count+1) down):=by
       show PD w4 B D (updF vb 3 v') (.slice (some ⟨g,0,none⟩) ws.length cw) (updF lb 3 (foldF 1 (ws.take (i+1)) (lb 3))) ws (decL left) (count+1) down;rw[HT.out,foldF_snoc,if_neg hxf];exact PD.keptC (H1.out.below ((Below.refl _ _).alloc (Nat.le_refl _) _)) (World.ownsRow.alloc HOa.out _) HV.out hgrow2
      have HO4:Hid (w4.ownsRow w1.heap.size 114 4 (.slice (some ⟨g',0,none⟩) ((othF 1 (ws.take i)).length+1) cap2) (othF 1 (ws.take (i+1))).length (chgsCells (othF 1 (ws.take (i+1))))):=by
       show w4.ownsRow w1.heap.size 114 4 (.slice (some ⟨g',0,none⟩) ((othF 1 (ws.take i)).length+1) cap2) (othF 1 (ws.take (i+1))).length (chgsCells (othF 1 (ws.take (i+1))));rw[HT.out,othF_snoc,if_neg hxf,List.length_append,chgs_snoc];exact hown2
      clear hown2 hgrow2 hat2 hlt4 d0 d1 d2 d3;go_wp2
      go_roundw
      case rel=>exact⟨i+1,v',by go_num,by omega,HO4,HQ4,HB4⟩
      case measure=>simp[intOf];omega
    ·obtain rfl:i=ws.length:=by omega
     rw[List.take_length] at HO HQ;obtain⟨a6,c6,rfl⟩:=owns_sliceC HO.out;have p4:=HQ.out.cells.2.2.2.2.1;have f4:=HQ.out.unfrozen 4;have HF:Hid _:=PD.setW HQ.out HO.out hB1 (othF_ok HQ.out.oks);go_wp2_with fail
     go_ret;exact .inr (.inr ⟨HA.out,h0,rfl,⟨1,v',_,rfl,by decide,HF.out⟩,HBB.out.trans (HB.out.setCell hlow (fun _=>HP.out.nf) _)⟩)
theorem cdown (X:World)(B D:Nat)(vb:Nat→Value)(vw:Value)(lb:Nat→List UInt8)(ws:List Chg)(left count:Int)(down:Bool)(h:PD X B D vb vw lb ws left count down):Calls Tryz.prog 26 #[(.pointer (some ⟨D,0,none⟩))] X fun e w'=>e=.returned (.bool down)∧w'=X:=by
 obtain⟨c0,c1,c2,c3,c4,c5,c6,c7⟩:=h.cells;clear h;go_enter Tryz.func26,Tryz.ntmps26;go_wp2_with fail
 go_ret;exact⟨rfl,rfl⟩
theorem PD.own {vw:Value}{left' count':Int}{down':Bool}(h:PD X B D vb vw lb ws left count down)(he:#[vb 0,vb 1,vb 2,vb 3,vw,.int .i64 left,.int .i64 count,.bool down].setIfInBounds k v=#[vb 0,vb 1,vb 2,vb 3,vw,.int .i64 left',.int .i64 count',.bool down']):PD (X.setCell ⟨D,k,none⟩ v) B D vb vw lb ws left' count' down':=by
 have hset:=set_grown X D k v;exact⟨by rw[set_blk h.blk,he],h.low,fun i hi=>World.ownsRow.kept (h.rows i hi) hset (row_neD h.blk (by decide) (h.rows i hi)),World.ownsRow.kept h.wrow hset (row_neD h.blk (by decide) h.wrow),h.dif,h.size,h.oks⟩
theorem cfail (n:Int)(X:World)(B D:Nat)(vb:Nat→Value)(vw:Value)(lb:Nat→List UInt8)(ws:List Chg)(left count:Int)(down:Bool)(h:PD X B D vb vw lb ws left count down):Calls Tryz.prog 22 #[(.pointer (some ⟨D,0,none⟩)),.int .i64 n] X fun e w'=>e=.returned (.tuple #[])∧PD w' B D vb vw lb ws n count down∧BelT tyP B X w':=by
 have H:Hid (PD X B D vb vw lb ws left count down):=h;obtain⟨c0,c1,c2,c3,c4,c5,c6,c7⟩:=h.cells;have f5:=h.unfrozen 5;clear h;go_enter Tryz.func22,Tryz.ntmps22;go_wp2_with fail
 go_end0;exact⟨rfl,H.out.own rfl,(BelT.refl _ _ _).setCell H.out.low (fun _=>H.out.nf) _⟩
def fateI (n:Nat)(f:Nat→Int)(i:Nat):Int:=if n=0 then 0 else f (i%n)
theorem cfate (a:Option Addr)(n cap:Nat)(f:Nat→Int)(i:Nat)(X:World)(hi:i≤1000000)(hn:n≤140737488355328)(h:n=0∨∃b off,a=some ⟨b,off,none⟩∧∀j,j<n→X.cell? ⟨b,off+j,none⟩=some (.int .i64 (f j))):Calls Tryz.prog 68 #[.slice a n cap,.int .i64 i] X fun e w'=>e=.returned (.int .i64 (fateI n f i))∧w'=X:=by
 by_cases h0:n=0
 ·subst h0;have e:fateI 0 f i=0:=rfl;rw[e];clear e h;go_enter Tryz.func68,Tryz.ntmps68;go_wp2_with fail
  go_ret;exact⟨rfl,rfl⟩
 ·obtain⟨b,off,rfl,hc⟩:=h.resolve_left h0;have e:fateI n f i=f (i%n):=by unfold fateI;rw[if_neg h0]
  rw[e];have hlt:=Nat.mod_lt i (show 0<n by omega);have hcc:=hc _ hlt;have e1:Int.tmod (i:Int) (n:Int)=((i%n:Nat):Int):=by rw[Int.tmod_eq_emod_of_nonneg (by omega)];omega
  have k1:(0:Int)≤((i%n:Nat):Int):=by omega
  have k2:((i%n:Nat):Int)<(n:Int):=by omega
  have k3:¬(n:Int)=0:=by omega
  clear e h hc;go_enter Tryz.func68,Tryz.ntmps68;go_wp2_with fail
  go_ret;exact⟨rfl,rfl⟩
theorem pd_zero (X:World)(B:Nat)(hB:B≤X.heap.size):PD (X.alloc (.cells #[.slice none 0 0,.slice none 0 0,.slice none 0 0,.slice none 0 0,.slice none 0 0,.int .i64 (-1),.int .i64 0,.bool false] 85)) B X.heap.size (fun _=>.slice none 0 0) (.slice none 0 0) (fun _=>[]) [] (-1) 0 false:=
 ⟨(by show(X.heap.push _)[X.heap.size]?=_;rw[Array.getElem?_push_size]),hB,fun i hi=>World.ownsRow_nil _ _ _ _,World.ownsRow_nil _ _ _ _,fun i j _ _ _=>.inl rfl,fun i _=>Nat.zero_le _,fun x hx=>by cases hx⟩
theorem cnew (X:World):Calls Tryz.prog 5 #[] X fun e w'=>e=.returned (.pointer (some ⟨X.heap.size,0,none⟩))∧PD w' X.heap.size X.heap.size (fun _=>.slice none 0 0) (.slice none 0 0) (fun _=>[]) [] (-1) 0 false∧Below X.heap.size X w':=by
 have HP:Hid _:=pd_zero X X.heap.size (Nat.le_refl _);go_enter Tryz.func5,Tryz.ntmps5;go_wp2_with fail
 go_ret;exact⟨rfl,HP.out,((Below.refl _ _).alloc (Nat.le_refl _) _)⟩
theorem clast (f p:Nat)(t:ByteArray)(c:Bool)(hx:okC ⟨f,p,t,c⟩)(X:World)(B D:Nat)(vb:Nat→Value)(vw:Value)(lb:Nat→List UInt8)(ws:List Chg)(left count:Int)(down:Bool)(h:PD X B D vb vw lb ws left count down)(hB:B≤X.heap.size):Calls Tryz.prog 69 #[(.pointer (some ⟨D,0,none⟩)),(.agg #[.int .i64 (f:Int),.int .i64 (p:Int),.string t,.bool c])] X fun e w'=>e=.returned (.tuple #[])∧(∃v',PD w' B D (updF vb (2*f+1) v') vw (updF lb (2*f+1) (onL p t c (lb (2*f+1)))) ws left count down)∧BelT tyP B X w':=by
 obtain⟨h1,h2,h3⟩:=hx;have h1:f<2:=h1;rcases(show f=0∨f=1 by omega) with rfl | rfl
 ·exact(clast0 p t c h2 h3 X B D vb vw lb ws left count down h hB).mono fun e w' hh=>⟨hh.1,hh.2.1,hh.2.2.1⟩
 ·exact(clast1 p t c h2 h3 X B D vb vw lb ws left count down h hB).mono fun e w' hh=>⟨hh.1,hh.2.1,hh.2.2.1⟩
def half (t:ByteArray):ByteArray:=t.extract 0 (t.size/2)
def cpL (l:Nat→List UInt8):Nat→Nat→List UInt8
 | 0=>l
 | j+1=>updF (cpL l j) (2*j) (l (2*j+1))
theorem half_size (t:ByteArray):(half t).size=t.size/2:=by unfold half;rw[ByteArray.size_extract];omega
def crS (fa:Int)(x:Chg)(l:Nat→List UInt8):Nat→List UInt8:=
 if fa=1 then updF l (2*x.f+1) (onL x.p x.t x.c (l (2*x.f+1))) else if fa=2 then updF l (2*x.f+1) (onL x.p (half x.t) x.c (l (2*x.f+1))) else l
def crL (fa:Nat→Int)(ws:List Chg)(lb:Nat→List UInt8):Nat→Nat→List UInt8
 | 0=>lb
 | i + 1 => match ws[i]? with
  | none=>crL fa ws lb i
  | some x=>crS (fa i) x (crL fa ws lb i)
theorem crL_succ {fa:Nat→Int}(h:i<ws.length):crL fa ws lb (i+1)=crS (fa i) ws[i] (crL fa ws lb i):=by
 rw[crL,List.getElem?_eq_getElem h]
def liesI (T:TypeId→Bool)(X:World)(B:Nat)(a:Option Addr)(n:Nat)(f:Nat→Int):Prop:=n=0∨∃b off,a=some ⟨b,off,none⟩∧(b<B∨(b<X.heap.size∧farT T X b))∧∀j,j<n→X.cell? ⟨b,off+j,none⟩=some (.int .i64 (f j))
theorem liesI.below {T:TypeId→Bool}{a:Option Addr}{f:Nat→Int}(h:liesI T X B a n f)(hb:BelT T B X Y):n=0∨∃b off,a=some ⟨b,off,none⟩∧∀j,j<n→Y.cell? ⟨b,off+j,none⟩=some (.int .i64 (f j)):=by
 rcases h with h|⟨b,off,e,hl,hc⟩
 ·exact .inl h
 ·have hbb:Y.heap[b]?=X.heap[b]?:=by
   rcases hl with hl|⟨hl,hf⟩
   ·exact hb.block b hl
   ·exact hb.far b hl hf
  exact .inr ⟨b,off,e,fun j hj=>(World.cell?_of_block hbb).trans (hc j hj)⟩
theorem cp_pack {vw:Value}(h:PD X B D vb vw lb ws left count down)(hk:k<4)(e0:vb k=.slice a0 n0 p0)(hr:Y.ownsRow B 5 1 (.slice (some ⟨g,0,none⟩) M.length cap) M.length (valsB M))(hg:(X.drewN m).grownBy Y (Value.slice a0 0 p0).ownBlock)(hat:(Value.slice a0 0 p0).ownBlock=some g∨g=X.heap.size)(hM:M.length≤67108864)(hB:B≤X.heap.size):PD (Y.setCell ⟨D,k,none⟩ (.slice (some ⟨g,0,none⟩) M.length cap)) B D (updF vb k (.slice (some ⟨g,0,none⟩) M.length cap)) vw (updF lb k M) ws left count down∧Y.cell? ⟨D,k,none⟩=some (vb k)∧Y.frozen? ⟨D,k,none⟩=false∧BelT tyP B X Y:=by
 have eo:(Value.slice a0 0 p0).ownBlock=(vb k).ownBlock:=by rw[e0];cases a0<;>rfl
 rw[eo] at hg hat;have hb:But X Y (vb k).ownBlock:=⟨hg.os,hg.tape,hg.output,hg.size,hg.block⟩;have hn:newB X (vb k) (.slice (some ⟨g,0,none⟩) M.length cap):=by
  rcases hat with hat|hat
  ·exact .inl hat.symm
  ·exact .inr ⟨g,rfl,by omega⟩
 have hne:=neD' (row_neD h.blk (by decide) (h.rows k hk));refine⟨PD.put h hk hb hr hn hM,hb.cell (h.cellk hk) hne,(World.frozen?_of_block (hb.block D h.lt hne)).trans (h.unfrozen k),?_⟩;exact BelT.row hb hB (row_nf (by decide) (h.rows k hk))
theorem cp_pack0 {vw:Value}(h:PD X B D vb vw lb ws left count down)(hk:k<4)(e0:vb k=.slice a0 n0 p0)(hr:X.ownsRow B 5 1 (.slice a0 0 p0) 0 [])(hM:M.length=0):PD ((X.drewN m).setCell ⟨D,k,none⟩ (.slice a0 0 p0)) B D (updF vb k (.slice a0 0 p0)) vw (updF lb k M) ws left count down:=by
 obtain rfl:M=[]:=List.eq_nil_of_length_eq_zero hM;have hb:But X (X.drewN m) (vb k).ownBlock:=⟨rfl,rfl,rfl,Nat.le_refl _,fun _ _ _=>rfl⟩;exact PD.put h hk hb hr (.inl (by rw[e0];cases a0<;>rfl)) (Nat.zero_le _)
theorem lies_row (h:W.ownsRow B 5 1 (.slice (some ⟨g,0,none⟩) n cap) n (valsB l)):∀j u,(valsB l)[j]?=some u→W.cell? ((⟨g,0,none⟩:Addr).add j)=some u:=fun j u hj=>by
 have h1:=h.1;have hlt:j<(valsB l).length:=(List.getElem?_eq_some_iff.1 hj).1;rw[Addr.add_lit,Nat.zero_add,h.cellAt j (by omega),hj]
theorem ccrash (a:Option Addr)(n cap:Nat)(fk:Nat→Int)(X:World)(B D:Nat)(vb:Nat→Value)(vw:Value)(lb:Nat→List UInt8)(ws:List Chg)(left count:Int)(down:Bool)(h:PD X B D vb vw lb ws left count down)(hB:B≤X.heap.size)(hw:ws.length≤1000000)(hn:n≤140737488355328)(hk:liesI tyP X B a n fk):Calls Tryz.prog 24 #[(.pointer (some ⟨D,0,none⟩)),.slice a n cap] X fun e w'=>e=.returned (.tuple #[])∧(∃vb',PD w' B D vb' (.slice none 0 0) (cpL (crL (fateI n fk) ws lb ws.length) 2) [] (-1) count false)∧BelT tyP B X w':=by
 have H:Hid (PD X B D vb vw lb ws left count down):=h;have HK:Hid (liesI tyP X B a n fk):=hk;have hlow:=h.low;obtain⟨aw,cw,rfl⟩:=owns_sliceC h.wrow;have c4:=h.cells.2.2.2.2.1;have HNF:Hid (¬farT tyP X D):=h.nf;clear h hk;go_enter Tryz.func24,Tryz.ntmps24;go_wp2_with fail
 go_loopw [13] (fun y w=>∃(i:Nat) (vb':Nat→Value),y=.int .i64 i∧i≤ws.length∧Hid (PD w B D vb' (.slice aw ws.length cw) (crL (fateI n fk) ws lb i) ws left count down)∧Hid (BelT tyP B X w)) (fun y _=>ws.length-(intOf y).toNat)
 case atStart=>exact⟨0,vb,rfl,Nat.zero_le _,H,BelT.refl _ _ _⟩
 case round =>
  obtain⟨i,vb',rfl,hin,HQ,HB⟩:=hrel;by_cases hlt:i<ws.length
  ·have ki:(0:Int)≤(i:Int):=by omega
   have kn:(i:Int)<(ws.length:Int):=by omega
   obtain⟨g,cap',ee,_,_⟩:=World.ownsRow.form HQ.out.wrow (by omega);injection ee with ee1 ee2 ee3;subst ee1 ee3;obtain⟨xf,p,t,c,hx⟩:∃xf p t c,ws[i]=(⟨xf,p,t,c⟩:Chg):=⟨_,_,_,_,rfl⟩;have HX:Hid (okC ⟨xf,p,t,c⟩):=hx ▸ HQ.out.oks _ (List.getElem_mem hlt);obtain⟨d0,d1,d2,d3⟩:=wcells HQ.out hlt hx;have HT:Hid _:=(crL_succ (fa:=fateI n fk) (lb:=lb) hlt).trans (by rw[hx]);have zg:=HQ.out.vwlt g rfl;have hBwr:B≤wr.heap.size:=Nat.le_trans hB HB.out.size;have H1:Hid (PD (wr.alloc (.cells #[.int .i64 xf,.int .i64 p,.string t,.bool c] 114)) B D vb' (.slice (some ⟨g,0,none⟩) ws.length cw) (crL (fateI n fk) ws lb i) ws left count down):=HQ.out.below ((Below.refl _ _).alloc (Nat.le_refl _) _);clear hx;go_wp2_with fail
   refine(cfate a n cap fk i _ (by omega) hn ?hf).mono ?_
   case hf=>exact liesI.below HK.out (HB.out.alloc hBwr _)
   rintro e w2⟨rfl,rfl⟩;by_cases hf1:fateI n fk i=1
   ·have e9:crS (fateI n fk i) ⟨xf,p,t,c⟩ (crL (fateI n fk) ws lb i)=updF (crL (fateI n fk) ws lb i) (2*xf+1) (onL p t c (crL (fateI n fk) ws lb i (2*xf+1))):=by unfold crS;rw[if_pos hf1]
    have HT2:Hid _:=HT.out.trans e9;rw[hf1];clear e9;go_wp2_with fail
    refine(clast xf p t c HX.out _ B D _ _ _ ws _ _ down H1.out ?hs).mono ?_
    case hs=>simp;omega
    rintro e w2⟨rfl,⟨v2,hQ2⟩,hbb⟩;have HQ2:Hid (PD w2 B D (updF vb' (2*xf+1) v2) (.slice (some ⟨g,0,none⟩) ws.length cw) (crL (fateI n fk) ws lb (i+1)) ws left count down):=by
     show PD w2 B D (updF vb' (2*xf+1) v2) (.slice (some ⟨g,0,none⟩) ws.length cw) (crL (fateI n fk) ws lb (i+1)) ws left count down;rw[HT2.out];exact hQ2
    have HB2:Hid (BelT tyP B X w2):=(HB.out.alloc hBwr _).trans hbb;clear hQ2 hbb d0 d1 d2 d3;go_wp2
    go_roundw
    case rel=>exact⟨i+1,_,by go_num,by omega,HQ2,HB2⟩
    case measure=>simp[intOf];omega
   ·by_cases hf2:fateI n fk i=2
    ·have e9:crS (fateI n fk i) ⟨xf,p,t,c⟩ (crL (fateI n fk) ws lb i)=updF (crL (fateI n fk) ws lb i) (2*xf+1) (onL p (half t) c (crL (fateI n fk) ws lb i (2*xf+1))):=by unfold crS;rw[if_neg hf1,if_pos hf2]
     have HT2:Hid _:=HT.out.trans e9;have ht:p+t.size≤67108864:=HX.out.2.1;have ew:wrap64 ((t.size:Int)/2)=(t.size:Int)/2:=by unfold wrap64;omega
     have kh:(t.size:Int)/2≤(t.size:Int):=by omega
     have kz:(0:Int)≤(t.size:Int)/2:=by omega
     have eh:t.extract 0 ((t.size:Int)/2).toNat=half t:=by unfold half;rw[show((t.size:Int)/2).toNat=t.size/2 by omega]
     have HX2:Hid (okC ⟨xf,p,half t,c⟩):=⟨HX.out.1,by show p+(half t).size≤_;rw[half_size];omega,fun hc=>by show(half t).size=0;rw[half_size,HX.out.2.2 hc]⟩;have H2:Hid (PD (wr.alloc (.cells #[.int .i64 xf,.int .i64 p,.string (half t),.bool c] 114)) B D vb' (.slice (some ⟨g,0,none⟩) ws.length cw) (crL (fateI n fk) ws lb i) ws left count down):=HQ.out.below ((Below.refl _ _).alloc (Nat.le_refl _) _);rw[hf2];clear e9;go_wp2_with fail
     refine(clast xf p (half t) c HX2.out _ B D _ _ _ ws _ _ down H2.out ?hs2).mono ?_
     case hs2=>simp;omega
     rintro e w2⟨rfl,⟨v2,hQ2⟩,hbb⟩;have HQ2:Hid (PD w2 B D (updF vb' (2*xf+1) v2) (.slice (some ⟨g,0,none⟩) ws.length cw) (crL (fateI n fk) ws lb (i+1)) ws left count down):=by
      show PD w2 B D (updF vb' (2*xf+1) v2) (.slice (some ⟨g,0,none⟩) ws.length cw) (crL (fateI n fk) ws lb (i+1)) ws left count down;rw[HT2.out];exact hQ2
     have HB2:Hid (BelT tyP B X w2):=(HB.out.alloc hBwr _).trans hbb;clear hQ2 hbb d0 d1 d2 d3;go_wp2
     go_roundw
     case rel=>exact⟨i+1,_,by go_num,by omega,HQ2,HB2⟩
     case measure=>simp[intOf];omega
    ·have e9:crS (fateI n fk i) ⟨xf,p,t,c⟩ (crL (fateI n fk) ws lb i)=crL (fateI n fk) ws lb i:=by unfold crS;rw[if_neg hf1,if_neg hf2]
     have HQ2:Hid (PD (wr.alloc (.cells #[.int .i64 xf,.int .i64 p,.string t,.bool c] 114)) B D vb' (.slice (some ⟨g,0,none⟩) ws.length cw) (crL (fateI n fk) ws lb (i+1)) ws left count down):=by
      show PD _ B D vb' (.slice (some ⟨g,0,none⟩) ws.length cw) (crL (fateI n fk) ws lb (i+1)) ws left count down;rw[HT.out.trans e9];exact H1.out
     clear e9;go_wp2_with fail
     exact⟨⟨i+1,vb',rfl,by omega,HQ2,HB.out.alloc hBwr _⟩,by simp[intOf];omega⟩
  ·obtain rfl:i=ws.length:=by omega
   have f4:=HQ.out.unfrozen 4;have f5:=HQ.out.unfrozen 5;have f7:=HQ.out.unfrozen 7;obtain⟨c0,c1,c2,c3,c4',c5,c6,c7⟩:=HQ.out.cells;have HF:Hid (PD (((wr.setCell ⟨D,4,none⟩ (.slice none 0 0)).setCell ⟨D,5,none⟩ (.int .i64 (-1))).setCell ⟨D,7,none⟩ (.bool false)) B D vb' (.slice none 0 0) (crL (fateI n fk) ws lb ws.length) [] (-1) count false):=((PD.setW HQ.out (World.ownsRow_nil wr B 114 4) (Nat.le_refl _) (ws':=[]) (fun x hx=>by cases hx)).own rfl).own rfl;have HB2:Hid (BelT tyP B X (((wr.setCell ⟨D,4,none⟩ (.slice none 0 0)).setCell ⟨D,5,none⟩ (.int .i64 (-1))).setCell ⟨D,7,none⟩ (.bool false))):=((HB.out.setCell hlow (fun _=>HNF.out) _).setCell hlow (fun _=>HNF.out) _).setCell hlow (fun _=>HNF.out) _;go_wp2_with fail
   clear f4 f5 f7 c0 c1 c2 c3 c4 c4' c5 c6 c7 HQ;generalize ((wr.setCell ⟨D,4,none⟩ (.slice none 0 0)).setCell ⟨D,5,none⟩ (.int .i64 (-1))).setCell ⟨D,7,none⟩ (.bool false)=W at *
   go_loopw [49] (fun y w=>∃(j:Nat) (vc:Nat→Value),y=.int .i64 j∧j≤2∧Hid (PD w B D vc (.slice none 0 0) (cpL (crL (fateI n fk) ws lb ws.length) j) [] (-1) count false)∧Hid (BelT tyP B X w)) (fun y _=>2-(intOf y).toNat)
   case atStart=>exact⟨0,vb',rfl,Nat.zero_le _,HF,HB2⟩
   case round =>
    obtain⟨j,vc,rfl,hj,HQ,HC⟩:=hrel;obtain⟨i0,hi,hz0,hz1,hz2⟩:=info_parts infoB;rcases(show j=0∨j=1∨j=2 by omega) with rfl | rfl | rfl
    ·have HL:Hid (cpL (crL (fateI n fk) ws lb ws.length) 1=updF (cpL (crL (fateI n fk) ws lb ws.length) 0) 0 (cpL (crL (fateI n fk) ws lb ws.length) 0 1)):=(rfl:cpL (crL (fateI n fk) ws lb ws.length) 1=updF (cpL (crL (fateI n fk) ws lb ws.length) 0) 0 (cpL (crL (fateI n fk) ws lb ws.length) 0 1));generalize cpL (crL (fateI n fk) ws lb ws.length) 0=L at *;have c0:=HQ.out.cellk (show 0<4 by decide);have c1:=HQ.out.cellk (show 1<4 by decide);have f0:=HQ.out.unfrozen 0;obtain⟨a0,p0,e0,q0⟩:=owns_sliceB (HQ.out.rows 0 (by decide));obtain⟨a1,p1,e1,q1⟩:=owns_sliceB (HQ.out.rows 1 (by decide));rw[e0] at c0;rw[e1] at c1;have E0:Hid _:=e0;have hBwr:B≤wr.heap.size:=Nat.le_trans hB HC.out.size;have O0:Hid (wr.ownsRow B 5 1 (.slice a0 0 p0) 0 []):=own_takeN (e0 ▸ HQ.out.rows 0 (by decide)) (Nat.zero_le _);by_cases hm:(L 1).length=0
     ·rw[hm] at c1;have HR:Hid (PD (wr.drew.setCell ⟨D,0,none⟩ (.slice a0 0 p0)) B D (updF vc 0 (.slice a0 0 p0)) (.slice none 0 0) (cpL (crL (fateI n fk) ws lb ws.length) 1) [] (-1) count false):=by
       show PD (wr.drew.setCell ⟨D,0,none⟩ (.slice a0 0 p0)) B D (updF vc 0 (.slice a0 0 p0)) (.slice none 0 0) (cpL (crL (fateI n fk) ws lb ws.length) 1) [] (-1) count false;rw[HL.out];exact cp_pack0 (m:=1) HQ.out (show 0<4 by decide) e0 O0.out hm
      have HBX:Hid (BelT tyP B X (wr.drew.setCell ⟨D,0,none⟩ (.slice a0 0 p0))):=(HC.out.trans (BelT.same rfl rfl rfl rfl:BelT tyP B wr wr.drew)).setCell hlow (fun _=>HNF.out) _;clear e0 e1 E0 O0;cases a0<;>cases a1
      all_goals
       go_wp2_with fail
       go_region_law (fail)
       all_goals
        go_wp2
        go_roundw
        case rel=>exact⟨1,_,rfl,by decide,HR,HBX⟩
        case measure=>simp[intOf]
     ·have O1:=HQ.out.rows 1 (by decide);rw[e1] at O1;obtain⟨g,cap',ee,_,_⟩:=World.ownsRow.form O1 (by omega);injection ee with ee1 ee2 ee3;subst ee1 ee3;have HS:Hid _:=lies_row O1;have hsz:=HQ.out.size 1 (by decide);clear O1 e0 e1 f0;go_wp2_with fail
      go_region_law (refine step_append_lies _ rfl (.tmp 62) (.tmp 66) 79 rfl B 5 i0 (.int .u8 0) 1 1 Tryz.underlying79 hi hz0 hz1 hz2 rfl (by decide) (.slice a0 0 p0) 0 [] ?s1 ?s2 ⟨g,0,none⟩ (L 1).length p1 (valsB (L 1)) ?s3 ?s4 ?sc ?s5 ?s6 ?s7 ?s8 ?s9 wr.heap.size rfl ?_;(case s1=>go_simp);(case s2=>exact O0.out);(case sc=>exact HS.out);(case s3=>go_simp);(case s4=>simp[valsB]);(case s5=>intro u hu;simp[valsB] at hu;obtain⟨x,_,rfl⟩:=hu;rfl);(case s6=>omega);(case s7=>unfold maxLen;omega);(case s8=>omega);(case s9=>exact hBwr);intro g' cap2 w4 hown2 hgrow2 hat2 hlt4;simp only[Nat.zero_add,List.nil_append] at hown2 ⊢;have HH:=cp_pack (m:=1) HQ.out (show 0<4 by decide) E0.out hown2 hgrow2 hat2 hsz hBwr;have HR:Hid (PD (w4.setCell ⟨D,0,none⟩ (.slice (some ⟨g',0,none⟩) (L 1).length cap2)) B D (updF vc 0 (.slice (some ⟨g',0,none⟩) (L 1).length cap2)) (.slice none 0 0) (updF L 0 (L 1)) [] (-1) count false):=HH.1;have e4:=HH.2.1;have fz4:=HH.2.2.1;have HBX:Hid (BelT tyP B X w4):=HC.out.trans HH.2.2.2;rw[E0.out] at e4;clear HH hown2 hgrow2 hat2 hlt4)
      all_goals
       have HR2:Hid (PD (w4.setCell ⟨D,0,none⟩ (.slice (some ⟨g',0,none⟩) (L 1).length cap2)) B D (updF vc 0 (.slice (some ⟨g',0,none⟩) (L 1).length cap2)) (.slice none 0 0) (cpL (crL (fateI n fk) ws lb ws.length) 1) [] (-1) count false):=by
        show PD (w4.setCell ⟨D,0,none⟩ (.slice (some ⟨g',0,none⟩) (L 1).length cap2)) B D (updF vc 0 (.slice (some ⟨g',0,none⟩) (L 1).length cap2)) (.slice none 0 0) (cpL (crL (fateI n fk) ws lb ws.length) 1) [] (-1) count false;rw[HL.out];exact HR.out
       have HBY:Hid (BelT tyP B X (w4.setCell ⟨D,0,none⟩ (.slice (some ⟨g',0,none⟩) (L 1).length cap2))):=HBX.out.setCell hlow (fun _=>HNF.out) _;clear HR e4 fz4;go_wp2
       go_roundw
       case rel=>exact⟨1,_,rfl,by decide,HR2,HBY⟩
       case measure=>simp[intOf]
    ·have HL:Hid (cpL (crL (fateI n fk) ws lb ws.length) 2=updF (cpL (crL (fateI n fk) ws lb ws.length) 1) 2 (cpL (crL (fateI n fk) ws lb ws.length) 1 3)):=(rfl:cpL (crL (fateI n fk) ws lb ws.length) 2=updF (cpL (crL (fateI n fk) ws lb ws.length) 1) 2 (cpL (crL (fateI n fk) ws lb ws.length) 1 3));generalize cpL (crL (fateI n fk) ws lb ws.length) 1=L at *;have c0:=HQ.out.cellk (show 2<4 by decide);have c1:=HQ.out.cellk (show 3<4 by decide);have f0:=HQ.out.unfrozen 2;obtain⟨a0,p0,e0,q0⟩:=owns_sliceB (HQ.out.rows 2 (by decide));obtain⟨a1,p1,e1,q1⟩:=owns_sliceB (HQ.out.rows 3 (by decide));rw[e0] at c0;rw[e1] at c1;have E0:Hid _:=e0;have hBwr:B≤wr.heap.size:=Nat.le_trans hB HC.out.size;have O0:Hid (wr.ownsRow B 5 1 (.slice a0 0 p0) 0 []):=own_takeN (e0 ▸ HQ.out.rows 2 (by decide)) (Nat.zero_le _);by_cases hm:(L 3).length=0
     ·rw[hm] at c1;have HR:Hid (PD (wr.drew.setCell ⟨D,2,none⟩ (.slice a0 0 p0)) B D (updF vc 2 (.slice a0 0 p0)) (.slice none 0 0) (cpL (crL (fateI n fk) ws lb ws.length) 2) [] (-1) count false):=by
       show PD (wr.drew.setCell ⟨D,2,none⟩ (.slice a0 0 p0)) B D (updF vc 2 (.slice a0 0 p0)) (.slice none 0 0) (cpL (crL (fateI n fk) ws lb ws.length) 2) [] (-1) count false;rw[HL.out];exact cp_pack0 (m:=1) HQ.out (show 2<4 by decide) e0 O0.out hm
      have HBX:Hid (BelT tyP B X (wr.drew.setCell ⟨D,2,none⟩ (.slice a0 0 p0))):=(HC.out.trans (BelT.same rfl rfl rfl rfl:BelT tyP B wr wr.drew)).setCell hlow (fun _=>HNF.out) _;clear e0 e1 E0 O0;cases a0<;>cases a1
      all_goals
       go_wp2_with fail
       go_region_law (fail)
       all_goals
        go_wp2
        go_roundw
        case rel=>exact⟨2,_,rfl,by decide,HR,HBX⟩
        case measure=>simp[intOf]
     ·have O1:=HQ.out.rows 3 (by decide);rw[e1] at O1;obtain⟨g,cap',ee,_,_⟩:=World.ownsRow.form O1 (by omega);injection ee with ee1 ee2 ee3;subst ee1 ee3;have HS:Hid _:=lies_row O1;have hsz:=HQ.out.size 3 (by decide);clear O1 e0 e1 f0;go_wp2_with fail
      go_region_law (refine step_append_lies _ rfl (.tmp 62) (.tmp 66) 79 rfl B 5 i0 (.int .u8 0) 1 1 Tryz.underlying79 hi hz0 hz1 hz2 rfl (by decide) (.slice a0 0 p0) 0 [] ?s1 ?s2 ⟨g,0,none⟩ (L 3).length p1 (valsB (L 3)) ?s3 ?s4 ?sc ?s5 ?s6 ?s7 ?s8 ?s9 wr.heap.size rfl ?_;(case s1=>go_simp);(case s2=>exact O0.out);(case sc=>exact HS.out);(case s3=>go_simp);(case s4=>simp[valsB]);(case s5=>intro u hu;simp[valsB] at hu;obtain⟨x,_,rfl⟩:=hu;rfl);(case s6=>omega);(case s7=>unfold maxLen;omega);(case s8=>omega);(case s9=>exact hBwr);intro g' cap2 w4 hown2 hgrow2 hat2 hlt4;simp only[Nat.zero_add,List.nil_append] at hown2 ⊢;have HH:=cp_pack (m:=1) HQ.out (show 2<4 by decide) E0.out hown2 hgrow2 hat2 hsz hBwr;have HR:Hid (PD (w4.setCell ⟨D,2,none⟩ (.slice (some ⟨g',0,none⟩) (L 3).length cap2)) B D (updF vc 2 (.slice (some ⟨g',0,none⟩) (L 3).length cap2)) (.slice none 0 0) (updF L 2 (L 3)) [] (-1) count false):=HH.1;have e4:=HH.2.1;have fz4:=HH.2.2.1;have HBX:Hid (BelT tyP B X w4):=HC.out.trans HH.2.2.2;rw[E0.out] at e4;clear HH hown2 hgrow2 hat2 hlt4)
      all_goals
       have HR2:Hid (PD (w4.setCell ⟨D,2,none⟩ (.slice (some ⟨g',0,none⟩) (L 3).length cap2)) B D (updF vc 2 (.slice (some ⟨g',0,none⟩) (L 3).length cap2)) (.slice none 0 0) (cpL (crL (fateI n fk) ws lb ws.length) 2) [] (-1) count false):=by
        show PD (w4.setCell ⟨D,2,none⟩ (.slice (some ⟨g',0,none⟩) (L 3).length cap2)) B D (updF vc 2 (.slice (some ⟨g',0,none⟩) (L 3).length cap2)) (.slice none 0 0) (cpL (crL (fateI n fk) ws lb ws.length) 2) [] (-1) count false;rw[HL.out];exact HR.out
       have HBY:Hid (BelT tyP B X (w4.setCell ⟨D,2,none⟩ (.slice (some ⟨g',0,none⟩) (L 3).length cap2))):=HBX.out.setCell hlow (fun _=>HNF.out) _;clear HR e4 fz4;go_wp2
       go_roundw
       case rel=>exact⟨2,_,rfl,by decide,HR2,HBY⟩
       case measure=>simp[intOf]
    ·go_wp2_with fail
     go_end0;exact⟨rfl,⟨vc,HQ.out⟩,HC.out⟩
structure DS where
 lb:Nat→List UInt8
 ws:List Chg
 left:Int
 count:Int
 down:Bool
def PDs (X:World)(B D:Nat)(S:DS):Prop:=∃vb vw,PD X B D vb vw S.lb S.ws S.left S.count S.down
def okS (S:DS)(m:Nat):Prop:=(-9223372036854775808≤S.left∧S.left≤9223372036854775807)∧0≤S.count∧S.count≤m∧S.ws.length≤m
def opD (S:DS)(f at':Int)(t:ByteArray)(c:Bool):Int×DS:=
 if askE f at' t.size S.down=0 then
  (if S.left=0 then(2,{ S with down:=true }) else(0,⟨updF S.lb (2*f.toNat) (onL at'.toNat t c (S.lb (2*f.toNat))),S.ws++[⟨f.toNat,at'.toNat,t,c⟩],decL S.left,S.count+1,S.down⟩))
 else(askE f at' t.size S.down,S)
def synD (S:DS)(f:Int):Int×DS:=
 if askE f 0 0 S.down=0 then
  (if S.left=0 then(2,{ S with down:=true }) else(0,⟨updF S.lb (2*f.toNat+1) (foldF f.toNat S.ws (S.lb (2*f.toNat+1))),othF f.toNat S.ws,decL S.left,S.count+1,S.down⟩))
 else(askE f 0 0 S.down,S)
theorem decL_in {l:Int}(h:-9223372036854775808≤l∧l≤9223372036854775807):-9223372036854775808≤decL l∧decL l≤9223372036854775807:=by
 unfold decL;split<;>omega
theorem oth_len (f:Nat)(ws:List Chg):(othF f ws).length≤ws.length:=List.length_filter_le ..
theorem opD_ok {S:DS}(h:okS S m)(f at':Int)(t:ByteArray)(c:Bool):okS (opD S f at' t c).2 (m+1):=by
 obtain⟨h1,h2,h3,h4⟩:=h;have h5:=decL_in h1;unfold opD;split
 ·split
  ·exact⟨h1,h2,by show S.count≤((m+1:Nat):Int);omega,by show S.ws.length≤m+1;omega⟩
  ·refine⟨h5,?_,?_,?_⟩
   ·show 0≤S.count+1;omega
   ·show S.count+1≤((m+1:Nat):Int);omega
   ·show(S.ws++[_]).length≤m+1;simp;omega
 ·exact⟨h1,h2,by show S.count≤((m+1:Nat):Int);omega,by show S.ws.length≤m+1;omega⟩
theorem synD_ok {S:DS}(h:okS S m)(f:Int):okS (synD S f).2 (m+1):=by
 obtain⟨h1,h2,h3,h4⟩:=h;have h5:=decL_in h1;have h6:=oth_len f.toNat S.ws;unfold synD;split
 ·split
  ·exact⟨h1,h2,by show S.count≤((m+1:Nat):Int);omega,by show S.ws.length≤m+1;omega⟩
  ·refine⟨h5,?_,?_,?_⟩
   ·show 0≤S.count+1;omega
   ·show S.count+1≤((m+1:Nat):Int);omega
   ·show(othF f.toNat S.ws).length≤m+1;omega
 ·exact⟨h1,h2,by show S.count≤((m+1:Nat):Int);omega,by show S.ws.length≤m+1;omega⟩
theorem okS.mono {S:DS}(h:okS S m)(hn:m≤n):okS S n:=⟨h.1,h.2.1,by have:=h.2.2.1;omega,by have:=h.2.2.2;omega⟩
theorem PDs.nf {S:DS}(h:PDs X B D S):¬farT tyP X D:=by obtain⟨vb,vw,h⟩:=h;exact h.nf
theorem PDs.below {S:DS}(h:PDs X B D S)(hb:Below X.heap.size X Y):PDs Y B D S:=by obtain⟨vb,vw,h⟩:=h;exact⟨vb,vw,h.below hb⟩
theorem op_post {at':Int}{S:DS}{vw:Value}{e:Ending}{w':World}(hP:PD X B D vb vw S.lb S.ws S.left S.count S.down)(h:opPost f at' t c X B D vb vw S.lb S.ws S.left S.count S.down e w'):e=.returned (.int .i64 (opD S f at' t c).1)∧PDs w' B D (opD S f at' t c).2∧BelT tyP B X w':=by
 unfold opD;rcases h with⟨h1,h2,rfl⟩ | ⟨h1,h2,h3,h4,h5⟩ | ⟨h1,h2,h3,⟨f',p,v',vw',rfl,rfl,-,h4⟩,h5⟩
 ·rw[if_neg h1];exact⟨h2,⟨vb,vw,hP⟩,BelT.refl _ _ _⟩
 ·rw[if_pos h1,if_pos h2];exact⟨h3,⟨vb,vw,h4⟩,h5⟩
 ·rw[if_pos h1,if_neg h2];exact⟨h3,⟨_,_,h4⟩,h5⟩
theorem cwriteD (f at':Int)(t:ByteArray)(X:World)(B D:Nat)(S:DS)(m:Nat)(h:PDs X B D S)(hB:B≤X.heap.size)(ho:okS S m)(hm:m≤1000000):Calls Tryz.prog 58 #[(.pointer (some ⟨D,0,none⟩)),.int .i64 f,.int .i64 at',.string t] X fun e w'=>e=.returned (.int .i64 (opD S f at' t false).1)∧PDs w' B D (opD S f at' t false).2∧BelT tyP B X w':=by
 obtain⟨vb,vw,h⟩:=h;obtain⟨h1,h2,h3,h4⟩:=ho;exact(cwrite f at' t X B D vb vw S.lb S.ws S.left S.count S.down h hB h1 ⟨h2,by omega⟩ (by omega)).mono fun e w' hp=>op_post h hp
theorem ccutD (f at':Int)(X:World)(B D:Nat)(S:DS)(m:Nat)(h:PDs X B D S)(hB:B≤X.heap.size)(ho:okS S m)(hm:m≤1000000):Calls Tryz.prog 87 #[(.pointer (some ⟨D,0,none⟩)),.int .i64 f,.int .i64 at'] X fun e w'=>e=.returned (.int .i64 (opD S f at' ⟨#[]⟩ true).1)∧PDs w' B D (opD S f at' ⟨#[]⟩ true).2∧BelT tyP B X w':=by
 obtain⟨vb,vw,h⟩:=h;obtain⟨h1,h2,h3,h4⟩:=ho;exact(ccut f at' X B D vb vw S.lb S.ws S.left S.count S.down h hB h1 ⟨h2,by omega⟩ (by omega)).mono fun e w' hp=>op_post h hp
theorem csyncD (f:Int)(X:World)(B D:Nat)(S:DS)(m:Nat)(h:PDs X B D S)(hB:B≤X.heap.size)(ho:okS S m)(hm:m≤1000000):Calls Tryz.prog 62 #[(.pointer (some ⟨D,0,none⟩)),.int .i64 f] X fun e w'=>e=.returned (.int .i64 (synD S f).1)∧PDs w' B D (synD S f).2∧BelT tyP B X w':=by
 obtain⟨vb,vw,h⟩:=h;obtain⟨h1,h2,h3,h4⟩:=ho;refine(csync f X B D vb vw S.lb S.ws S.left S.count S.down h hB h1 ⟨h2,by omega⟩ (by omega)).mono fun e w' hp=>?_
 unfold synD;rcases hp with⟨h1,h2,rfl⟩ | ⟨h1,h2,h3,h4,h5⟩ | ⟨h1,h2,h3,⟨f',v',vw',rfl,-,h4⟩,h5⟩
 ·rw[if_neg h1];exact⟨h2,⟨vb,vw,h⟩,BelT.refl _ _ _⟩
 ·rw[if_pos h1,if_pos h2];exact⟨h3,⟨vb,vw,h4⟩,h5⟩
 ·rw[if_pos h1,if_neg h2];exact⟨h3,⟨_,_,h4⟩,h5⟩
theorem csizeD (f:Int)(X:World)(B D:Nat)(S:DS)(h:PDs X B D S):Calls Tryz.prog 54 #[(.pointer (some ⟨D,0,none⟩)),.int .i64 f] X fun e w'=>e=.returned (.tuple #[.int .i64 (sizV f S.lb S.down),.int .i64 (askE f 0 0 S.down)])∧w'=X:=by
 obtain⟨vb,vw,h⟩:=h;exact csize f X B D vb vw S.lb S.ws S.left S.count S.down h
theorem creadD (f at' n:Int)(X:World)(B D:Nat)(S:DS)(h:PDs X B D S):Calls Tryz.prog 55 #[(.pointer (some ⟨D,0,none⟩)),.int .i64 f,.int .i64 at',.int .i64 n] X fun e w'=>e=.returned (.tuple #[.string (rdS f at' n S.lb S.down),.int .i64 (rdE f at' n S.lb S.down)])∧w'=X:=by
 obtain⟨vb,vw,h⟩:=h;exact cread f at' n X B D vb vw S.lb S.ws S.left S.count S.down h
open Go.Maps
theorem lawI:Keyed Tryz.prog 3:=int_keyed Tryz.underlying3
theorem zeroI (w:World):(zeroValue 3).run Tryz.prog w=.ok (.int .i64 0) w:=by kernel_rfl
def i64 (x:Int):Prop:=(Lit.int .i64 x).wf=true
theorem i64_in (h0:-9223372036854775808≤x)(h1:x≤9223372036854775807):i64 x:=WalkArith.wf_i64 ⟨h0,h1⟩
def MI (X:World)(b n:Nat)(F:Int→Option Int):Prop:=∃D:DataW Unit,X.ownsMap Tryz.prog 3 (plainElem Tryz.prog 3) b n D∧∀x,i64 x→(Maps.has D (.int .i64 x)=(F x).isSome∧∀v,F x=some v→∀z,D.atKey (.int .i64 x) z=.lit (.int .i64 v))
theorem keyLit (x:Int):WideAt.IsKeyLit (.int .i64 x):=by simp[WideAt.IsKeyLit]
def updM (F:Int→Option Int)(k v:Int):Int→Option Int:=fun x=>if x=k then some v else F x
theorem MI.lt (h:MI X b n F):b<X.heap.size:=by obtain⟨D,h,-⟩:=h;exact h.lt
theorem MI.mono (h:MI X b n F)(hn:n≤m):MI X b m F:=by obtain⟨D,h,k⟩:=h;exact⟨D,h.mono hn,k⟩
theorem MI.keep (h:MI X b n F)(e:Y.heap[b]?=X.heap[b]?):MI Y b n F:=by
 obtain⟨D,⟨es,clock,hb,r⟩,k⟩:=h;exact⟨D,⟨es,clock,e.trans hb,r⟩,k⟩
theorem MI.isMap (h:MI X b n F):∃es clock,X.heap[b]?=some (.map es clock):=by
 obtain⟨D,⟨es,clock,hb,r⟩,k⟩:=h;exact⟨es,clock,hb⟩
theorem MI.far (h:MI X b n F)(T:TypeId→Bool):farT T X b:=fun cur e fz he=>by
 obtain⟨es,clock,hb⟩:=h.isMap;rw[hb] at he;cases he
theorem MI.made (X:World):MI (X.alloc (.map #[] 0)) X.heap.size 0 (fun _=>none):=
 ⟨.map [],World.ownsMap_made X _ _ _,fun _ _=>⟨rfl,fun v h=>by cases h⟩⟩
theorem MI.look (h:MI X b n F)(hx:i64 x):(Instr.lookup 94 (.map (some b)) (.int .i64 x) true).run Tryz.prog X=.ok (.tuple #[.int .i64 ((F x).getD 0),.bool (F x).isSome]) X:=by
 obtain⟨D,h,k⟩:=h;obtain⟨k1,k2⟩:=k x hx;obtain⟨v,ps,hrun,hR⟩:=h.look_ok lawI Tryz.underlying94 (zeroI X) (plainElem_int (H:=Unit) Tryz.underlying3 (by decide)) (keyOf_int_mk Tryz.underlying3 hx);obtain⟨c,rfl,hc,-⟩:=plainElem_int_inv Tryz.underlying3 hR;simp only[Prod.mk.injEq] at hc;rw[hrun,k1];cases hF:F x with
 | none =>
  rw[hF] at k1;rw[atKey_of_not_has k1] at hc;have e:c=0:=by have:=hc.1;simp at this;exact this.symm
  simp[e]
 | some v =>
  rw[k2 v hF] at hc;have e:c=v:=by have:=hc.1;simp at this;exact this.symm
  simp[e]
theorem MI.put (h:MI X b n F)(hn:n≤1000000){v:Int}(hx:i64 x)(hv:i64 v):∃Y,(Instr.mapUpdate 94 (.map (some b)) (.int .i64 x) (.int .i64 v)).run Tryz.prog X=.ok () Y∧MI Y b (n+1) (updM F x v)∧X.grownBy Y (some b):=by
 obtain⟨D,h,k⟩:=h;obtain⟨Y,hrun,hY,hg⟩:=h.update lawI Tryz.underlying94 (by unfold maxLen;omega) (keyOf_int_mk Tryz.underlying3 hx) (plainElem_int (H:=Unit) Tryz.underlying3 hv);refine⟨Y,hrun,⟨_,hY,fun y hy=>?_⟩,hg⟩;unfold updM;by_cases e:y=x
 ·subst e;rw[if_pos rfl];refine⟨has_put_same h.isMap (keyLit _) _,fun u hu z=>?_⟩;obtain rfl:v=u:=by simpa using hu
  exact atKey_put_same h.isMap (keyLit _) _ z
 ·have ne:Lit.int .i64 y≠Lit.int .i64 x:=fun h=>by injection h with _ h;exact e h
  rw[if_neg e,has_put_other ne];exact⟨(k y hy).1,fun u hu z=>by rw[atKey_put_other ne];exact(k y hy).2 u hu z⟩
theorem MI.clear (h:MI X b n F)(ty:TypeId):∃Y,(Builtin.clear_ #[94] ty #[.map (some b)]).run Tryz.prog X=.ok (.tuple #[]) Y∧MI Y b 0 (fun _=>none)∧X.grownBy Y (some b):=by
 obtain⟨D,⟨es,clock,hb,F0,hs,rfl⟩,k⟩:=h;refine⟨ChangeMaps.setBlock X b (.map #[] clock),?_,⟨.map [],⟨#[],clock,ChangeMaps.heap_setBlock_same hb _,⟨by simp,?_,by simp⟩,Nat.le_refl _,rfl⟩,fun _ _=>⟨rfl,fun v h=>by cases h⟩⟩,⟨rfl,rfl,rfl,by simp[ChangeMaps.setBlock],fun i _ hi=>ChangeMaps.heap_setBlock_other hb _ (fun e=>hi (by rw[e]))⟩⟩
 ·simp[Builtin.clear_,run_underlying Tryz.underlying94,MapKept.run_getObj_map hb,MapKept.run_setObj_map _ hb,Result.andThen,ChangeMaps.setBlock]
 ·exact MapKept.stamped_empty clock
theorem keepBelow (h:Below w.heap.size w W)(hb:Below W.heap.size W w1):Below w.heap.size w w1:=h.trans (hb.mono h.size)
theorem keepSize (hb:Below W.heap.size W w1){A:Nat}(hA:A<W.heap.size):A<w1.heap.size:=Nat.lt_of_lt_of_le hA hb.size
theorem below_dw {a:World}(h:Below B a X):Below B a (X.drewN m):=⟨h.os,h.tape,h.output,h.size,h.block⟩
def isPg (n:Int):Bool:=decide (0≤n∧n≤2147483647)
theorem cisPage (n:Int)(w:World):Calls Tryz.prog 52 #[.int .i64 n] w fun e w'=>e=.returned (.bool (isPg n))∧w'=w:=by
 by_cases h1:0≤n
 ·by_cases h2:n≤2147483647
  ·have e:isPg n=true:=decide_eq_true ⟨h1,h2⟩;rw[e];clear e;go_enter Tryz.func52,Tryz.ntmps52;go_wp2;go_ret;exact⟨rfl,rfl⟩
  ·have e:isPg n=false:=decide_eq_false (fun h=>h2 h.2);rw[e];clear e;go_enter Tryz.func52,Tryz.ntmps52;go_wp2;go_ret;exact⟨rfl,rfl⟩
 ·have e:isPg n=false:=decide_eq_false (fun h=>h1 h.1);rw[e];clear e;go_enter Tryz.func52,Tryz.ntmps52;go_wp2;go_ret;exact⟨rfl,rfl⟩
theorem cframeAt (n:Int)(w:World)(h0:0≤n)(h1:n≤4294967296):Calls Tryz.prog 57 #[.int .i64 n] w fun e w'=>e=.returned (.int .i64 (64+1028*n))∧w'=w:=by
 go_enter Tryz.func57,Tryz.ntmps57;go_wp2;go_ret;exact⟨rfl,rfl⟩
theorem cslotAt (n:Int)(w:World)(h0:0≤n)(h1:n≤1):Calls Tryz.prog 100 #[.int .i64 n] w fun e w'=>e=.returned (.int .i64 (16+24*n))∧w'=w:=by
 go_enter Tryz.func100,Tryz.ntmps100;go_wp2;go_ret;exact⟨rfl,rfl⟩
def nxN (n:Nat):Nat:=n%3+1
theorem cnext (n:Nat)(w:World)(h1:n≤4294967296):Calls Tryz.prog 85 #[.int .i64 n] w fun e w'=>e=.returned (.int .i64 (nxN n:Nat))∧w'=w:=by
 have e:((nxN n:Nat):Int)=(n:Int)%3+1:=by unfold nxN;omega
 rw[e];clear e;go_enter Tryz.func85,Tryz.ntmps85;go_wp2;go_ret;exact⟨rfl,rfl⟩
def fourB (n:Nat):ByteArray:=⟨#[UInt8.ofNat (n/16777216),UInt8.ofNat (n/65536),UInt8.ofNat (n/256),UInt8.ofNat n]⟩
def fourC (n:Nat):Array Value:=#[.int .u8 ((n:Int)/16777216%256),.int .u8 ((n:Int)/65536%256),.int .u8 ((n:Int)/256%256),.int .u8 ((n:Int)%256)]
theorem four_text (X:World)(n:Nat):(convert 79 9 (.slice (some ⟨X.heap.size,0,none⟩) 4 4)).run Tryz.prog (X.alloc (.cells #[.int .u8 ((n:Int)/16777216%256),.int .u8 ((n:Int)/65536%256),.int .u8 ((n:Int)/256%256),.int .u8 ((n:Int)%256)] 5))=.ok (.string (fourB n)) (X.alloc (.cells #[.int .u8 ((n:Int)/16777216%256),.int .u8 ((n:Int)/65536%256),.int .u8 ((n:Int)/256%256),.int .u8 ((n:Int)%256)] 5)):=by
 have:=run_convert_bytes_back (P:=Tryz.prog) (X.alloc (.cells (fourC n) 5)) 79 9 5 ⟨X.heap.size,0,none⟩ 4 [UInt8.ofNat (n/16777216),UInt8.ofNat (n/65536),UInt8.ofNat (n/256),UInt8.ofNat n] Tryz.underlying79 Tryz.underlying5 Tryz.underlying9 (fun j hj=>by
  rw[Addr.add_lit];have h4:j<4:=hj;have hc:(X.alloc (.cells (fourC n) 5)).cell? ⟨X.heap.size,0+j,none⟩=(fourC n)[j]?:=by simp only[World.cell?,World.alloc_heap_new];simp
  rw[hc];rcases(show j=0∨j=1∨j=2∨j=3 by omega) with rfl | rfl | rfl | rfl<;>simp[fourC])
 exact this
theorem cfour (n:Nat)(w:World):Calls Tryz.prog 59 #[.int .i64 n] w fun e w'=>e=.returned (.string (fourB n))∧Below w.heap.size w w':=by
 have ht:=four_text w n;go_enter Tryz.func59,Tryz.ntmps59;go_wp2;go_ret;exact⟨rfl,(Below.refl _ _).alloc (Nat.le_refl _) _⟩
def bytS (s:ByteArray)(i:Nat):Nat:=if h:i<s.size then(s[i]'h).toNat else 0
theorem bytS_lt (s:ByteArray)(i:Nat):bytS s i<256:=by
 unfold bytS;split
 ·exact UInt8.toNat_lt _
 ·decide
theorem bytS_get {s:ByteArray}(h:i<s.size):(s[i]'h).toNat=bytS s i:=by unfold bytS;rw[dif_pos h]
def numK (s:ByteArray)(p:Nat):Nat→Nat
 | 0=>0
 | i+1=>numK s p i*256+bytS s (p+i)
def numB (s:ByteArray)(p:Nat):Nat:=numK s p 4
theorem numK_lt (s:ByteArray)(p:Nat):∀i,numK s p i<256 ^ i
 | 0=>by show 0<1;decide
 | i + 1 => by
  have h1:=numK_lt s p i;have h2:=bytS_lt s (p+i);rw[Nat.pow_succ];show numK s p i*256+bytS s (p+i)<_;omega
theorem numK_7 (s:ByteArray)(p:Nat)(h:i≤4):numK s p i<4294967296:=Nat.lt_of_lt_of_le (numK_lt s p i) (by
 rcases(show i=0∨i=1∨i=2∨i=3∨i=4 by omega) with rfl | rfl | rfl | rfl | rfl<;>decide)
theorem numB_lt (s:ByteArray)(p:Nat):numB s p<4294967296:=numK_7 s p (Nat.le_refl _)
theorem bits_or_i64 (a b:Nat)(ha:a<4611686018427387904)(hb:b<4611686018427387904):bits .or .i64 (a:Int) (b:Int)=((a ||| b:Nat):Int):=by
 have hx:a ||| b<2 ^ 62:=Nat.or_lt_two_pow (by omega) (by omega)
 have h1:(BitVec.ofInt 64 (a:Int)).toNat=a:=by
  rw[BitVec.ofInt_natCast,BitVec.toNat_ofNat];exact Nat.mod_eq_of_lt (by omega)
 have h2:(BitVec.ofInt 64 (b:Int)).toNat=b:=by
  rw[BitVec.ofInt_natCast,BitVec.toNat_ofNat];exact Nat.mod_eq_of_lt (by omega)
 show IntKind.i64.wrap ((BitVec.ofInt 64 (a:Int) ||| BitVec.ofInt 64 (b:Int)).toNat:Int)=_;rw[BitVec.toNat_or,h1,h2];simp only[IntKind.wrap,IntKind.bits,IntKind.signed];simp;omega
theorem join_i64 (x y:Nat)(hy:y<256)(hx:x<4294967296):bits .or .i64 ((x:Int)*256) (y:Int)=((x*256+y:Nat):Int):=by
 have e:((x:Int)*256)=((x*256:Nat):Int):=by omega
 rw[e,bits_or_i64 _ _ (by omega) (by omega)]
 congr 1
 have h:=Nat.two_pow_add_eq_or_of_lt (i:=8) (show y<2 ^ 8 by omega) x;rw[show x*256=2 ^ 8*x by omega,←h]
theorem cnumber (s:ByteArray)(p:Nat)(w:World)(hp:p+4≤s.size)(hs:s.size≤1099511627776):Calls Tryz.prog 92 #[.string s,.int .i64 p] w fun e w'=>e=.returned (.int .i64 (numB s p:Nat))∧w'=w:=by
 go_enter Tryz.func92,Tryz.ntmps92;go_wp2
 go_loop [5,7] (fun x y=>∃i:Nat,x=.int .i64 (numK s p i:Nat)∧y=.int .i64 i∧i≤4) (fun _ y=>4-(intOf y).toNat)
 case atStart=>exact⟨0,rfl,rfl,by omega⟩
 case round =>
  obtain⟨k,rfl,rfl,hk⟩:=hrel;by_cases h0:k<4
  ·have h1:(k:Int)<4:=by omega
   have h2:(p:Int)+(k:Int)<(s.size:Int):=by omega
   have hks:p+k<s.size:=by omega
   have b0:=bytS_lt s (p+k);have g0:=bytS_get hks;have u0:=numK_7 s p (show k≤4 by omega);have h3:numK s p (k+1)=numK s p k*256+bytS s (p+k):=rfl;have hj:=join_i64 (numK s p k) (bytS s (p+k)) b0 u0;go_wp2
   go_round
   case rel=>exact⟨k+1,by rw[h3];first | rfl | go_num,by go_num,by omega⟩
   case measure=>simp[intOf];omega
  ·obtain rfl:k=4:=by omega
   go_wp2;go_ret;exact⟨rfl,rfl⟩
theorem slice_lit (head:ByteArray)(i j:Nat)(hij:i≤j)(hj:j≤head.size)(X:World):(Instr.slice 9 (.string head) (some (.int .i64 (i:Int))) (some (.int .i64 (j:Int))) none).run Tryz.prog X=.ok (.string (head.extract i j)) X:=by
 rw[run_slice_string_if X 9 head .i64 .i64 i j Tryz.underlying9,if_pos ⟨by omega,by omega⟩,if_pos ⟨by omega,by omega⟩];rfl
end Go.Proofs.YtfjkockcgddgbaaGreat
