/- TreeShape stands: the call of relstorekeep.TreeShape answers true for every script, and the script reads as it did. -/
import Derived.Test.YtiaibgfhigdgdaaGreatS21
import Derived.ProofKit
import Derived.OpenShut
import Derived.ChangeSlices
import Derived.Deep.Slices
import Derived.Deep.Strs
import Derived.SizedLaws
import Derived.Test.YtiaibgfhigdgdaaGreatRows
import Derived.Below
import Derived.Lib.SmallJoins
set_option maxRecDepth 100000
set_option maxHeartbeats 8000000
namespace Go.Proofs.YtiaibgfhigdgdaaGreat
open Go.RowKit Go.Lib Go.Maps
variable {P:Program}{ops:Array Oper}{Q:Exit→Act→World→Prop}{o:Oper}{a a0:Act}{s i id n D Gp m pages c:Nat}{K:Act→World→Prop}{X X' wc w W:World}{v:Value}{t0 t1 t2 t3 t4 t5 t6 t7 t8 t9 t10 t11 t12 t13 t14 t15 t16 t17 t18 t19 t20 t21 t22 t23 t24 t25 t26 t27:TypeId}{p0 p1 p2 p3 p4 p5 p6 p7 p8 p9 p10 p11 p12 p13 p14 p15 p16 p17 p18 p19 p20 p21 p22 p23 p24 p25 p26 p27:String}{f0 f1 f2 f3 f4 f5 f6 f7 f8 f9 f10 f11 f12 f13 f14 f15 f16 f17 f18 f19 f20 f21 f22 f23 f24 f25 f26 f27:Array Edge}{V:PV}{A:Nat→PgV}{fl:List Nat}{H:Type}
theorem wanted_of {oj:Oper}{j:Nat}{want b:Bool}(hg:o.guard=some (j,want))(hj:ops[j]?=some oj)(hd:oj.dst=some s)(ht:a.tmps[s]?=some (.bool b)):Region.wanted o (yielded ops a.tmps)=(b == want):=by
 have hy:yielded ops a.tmps j=some b:=by simp[yielded,hj,hd,ht]
 simp only[Region.wanted,hg,hy];cases b<;>cases want<;>rfl
theorem wanted_none (hg:o.guard=none):Region.wanted o (yielded ops a.tmps)=true:=by simp only[Region.wanted,hg]
theorem wpOp_valueG (ho:ops[i]?=some o)(hw:Region.wanted o (yielded ops a.tmps)=true)(hr:(execOp a.eval o).run P X=.ok (.value v) X')(h:K (a.put o.dst v) X'):wpOp P ops Q i K a X:=by
 unfold wpOp;simp only[ho,hw,if_true,Oper.wp,hr,Oper.upon];exact .inl h
theorem wpOp_callG {f:FuncId}{args:Array Value}{R:Value→World→Prop}(ho:ops[i]?=some o)(hw:Region.wanted o (yielded ops a.tmps)=true)(hr:(execOp a.eval o).run P X=.ok (.enter f args) X')(hc:Calls P f args X' fun e w'=>∃v,e=.returned v∧R v w')(h:∀v w',R v w'→K (a.put o.dst v) w'):wpOp P ops Q i K a X:=by
 unfold wpOp;simp only[ho,hw,if_true,Oper.wp,hr,Oper.upon];refine .inl (hc.mono fun e w' he=>?_);obtain⟨v,rfl,hR⟩:=he;exact h v w' hR
theorem tmp_of (h:a.eval (.tmp i)=v):a.tmps[i]?.getD undef=v:=by
 rw[←h];simp only[Act.eval,Array.getD_eq_getD_getElem?]
def SlT (tab:List (Nat×Value))(L:Nat→Bool)(a:Act):Prop:=∀i s v,tab[i]?=some (s,v)→L i=true→a.eval (.tmp s)=v
theorem SlT.put {tab:List (Nat×Value)}{L:Nat→Bool}{q:Nat}(h:SlT tab L a)(hq:tab[q]?=some (s,v))(hn:(tab.map (·.1)).Nodup)(hs:s<a.tmps.size):SlT tab (upd L q) (a.put (some s) v):=by
 intro i s' v' hi hL;by_cases e:i=q
 ·subst e;rw[hq] at hi;injection hi with hi;injection hi with h1 h2;subst h1 h2;exact eval_put_same hs _
 ·have hne:¬s=s':=fun e2=>e (by
   have hl:i<(tab.map (·.1)).length:=by
    rw[List.length_map];exact(List.getElem?_eq_some_iff.1 hi).1
   refine(List.getElem?_inj hl hn).1 ?_;rw[List.getElem?_map,List.getElem?_map,hi,hq,e2];rfl)
  rw[eval_put_ne hne];exact h i s' v' hi (by rw[upd_ne _ e] at hL;exact hL)
def Wr39 (sp g j jp Kn c3 mb:Nat)(kj kp:ByteArray):List (Nat×Value):=[(155,.map (some mb)),(156,(.pointer (some ⟨sp,0,none⟩))),(157,(.pointer (some ⟨sp,0,none⟩))),(158,.pointer (some ⟨sp,3,none⟩)),(159,.slice (some ⟨g,0,none⟩) Kn c3),(160,.int .i64 (j:Int)),(161,.pointer (some ⟨g,j,none⟩)),(162,.string kj),(163,.int .i64 1),(164,.bool false),(165,.bool false),(166,.int .i64 (j:Int)),(167,.bool true),(168,.bool true),(169,(.pointer (some ⟨sp,0,none⟩))),(170,(.pointer (some ⟨sp,0,none⟩))),(171,.pointer (some ⟨sp,3,none⟩)),(172,.slice (some ⟨g,0,none⟩) Kn c3),(173,.int .i64 (j:Int)),(174,.pointer (some ⟨g,j,none⟩)),(175,.string kj),(176,(.pointer (some ⟨sp,0,none⟩))),(177,(.pointer (some ⟨sp,0,none⟩))),(178,.pointer (some ⟨sp,3,none⟩)),(179,.slice (some ⟨g,0,none⟩) Kn c3),(180,.int .i64 (j:Int)),(181,.int .i64 (jp:Int)),(182,.pointer (some ⟨g,jp,none⟩)),(183,.string kp),(184,.bool false),(185,.bool false),(186,.bool false)]
theorem ndr39 (sp g j jp Kn c3 mb:Nat)(kj kp:ByteArray):((Wr39 sp g j jp Kn c3 mb kj kp).map (·.1)).Nodup:=by
 show [155,156,157,158,159,160,161,162,163,164,165,166,167,168,169,170,171,172,173,174,175,176,177,178,179,180,181,182,183,184,185,186].Nodup
 decide
def Ir39 (sp g j jp Kn c3 mb:Nat)(kj kp:ByteArray)(St:World→Prop)(a0:Act)(L:Nat→Bool)(a:Act)(X:World):Prop:=Fr [155,156,157,158,159,160,161,162,163,164,165,166,167,168,169,170,171,172,173,174,175,176,177,178,179,180,181,182,183,184,185,186] a0 a∧St X∧SlT (Wr39 sp g j jp Kn c3 mb kj kp) L a
theorem r39 (sp g j jp Kn c3 mb:Nat)(kj kp:ByteArray)(St:World→Prop)(h0:St wc.drew)(h3:∀w,St w→w.cell? ⟨sp,3,none⟩=some (.slice (some ⟨g,0,none⟩) Kn c3))(hj:∀w,St w→w.cell? ⟨g,j,none⟩=some (.string kj))(hp:∀w,St w→w.cell? ⟨g,jp,none⟩=some (.string kp))(hlk:∀w,St w→(Instr.lookup 54 (.map (some mb)) (.string kj) false).run Tryz.prog w=.ok (.int .i64 1) w)(i0:(0:Int)≤(j:Int))(i1:(0:Int)<(j:Int))(i2:(j:Int)<(Kn:Int))(i3:(j:Int)-1=(jp:Int))(i4:(0:Int)≤(jp:Int))(i5:(jp:Int)<(Kn:Int))(ib:j≤1000)(b2:Op.bytesLess kj.toList kp.toList=false)(b3:(kj.toList == kp.toList)=false)(hsz:186<a0.tmps.size)(e8:a0.eval (.tmp 8)=.map (some mb))(e12:a0.eval (.tmp 12)=(.pointer (some ⟨sp,0,none⟩)))(e15:a0.eval (.tmp 15)=.int .i64 (j:Int)){t28 t29 t30 t31:TypeId}{p28 p29 p30 p31:String}{f28 f29 f30 f31:Array Edge}(hops:ops=#[⟨some 155,.move (.tmp 8),t0,p0,f0,none⟩,⟨some 156,.move (.tmp 12),t1,p1,f1,none⟩,⟨some 157,.nilCheck (.tmp 156),t2,p2,f2,none⟩,⟨some 158,.fieldAddr 64 (.tmp 157) 3,t3,p3,f3,none⟩,⟨some 159,.load 43 (.tmp 158),t4,p4,f4,none⟩,⟨some 160,.move (.tmp 15),t5,p5,f5,none⟩,⟨some 161,.indexAddr 43 (.tmp 159) (.tmp 160),t6,p6,f6,none⟩,⟨some 162,.load 9 (.tmp 161),t7,p7,f7,none⟩,⟨some 163,.lookup 54 (.tmp 155) (.tmp 162) false,t8,p8,f8,none⟩,⟨some 164,.binOp .eql 3 (.tmp 163) (.const (.int .i64 0)) 3,t9,p9,f9,none⟩,⟨some 165,.move (.tmp 164),t10,p10,f10,none⟩,⟨some 166,.move (.tmp 15),t11,p11,f11,(some (10,false))⟩,⟨some 167,.binOp .gtr 3 (.tmp 166) (.const (.int .i64 0)) 3,t12,p12,f12,(some (10,false))⟩,⟨some 168,.move (.tmp 167),t13,p13,f13,(some (10,false))⟩,⟨some 169,.move (.tmp 12),t14,p14,f14,(some (13,true))⟩,⟨some 170,.nilCheck (.tmp 169),t15,p15,f15,(some (13,true))⟩,⟨some 171,.fieldAddr 64 (.tmp 170) 3,t16,p16,f16,(some (13,true))⟩,⟨some 172,.load 43 (.tmp 171),t17,p17,f17,(some (13,true))⟩,⟨some 173,.move (.tmp 15),t18,p18,f18,(some (13,true))⟩,⟨some 174,.indexAddr 43 (.tmp 172) (.tmp 173),t19,p19,f19,(some (13,true))⟩,⟨some 175,.load 9 (.tmp 174),t20,p20,f20,(some (13,true))⟩,⟨some 176,.move (.tmp 12),t21,p21,f21,(some (13,true))⟩,⟨some 177,.nilCheck (.tmp 176),t22,p22,f22,(some (13,true))⟩,⟨some 178,.fieldAddr 64 (.tmp 177) 3,t23,p23,f23,(some (13,true))⟩,⟨some 179,.load 43 (.tmp 178),t24,p24,f24,(some (13,true))⟩,⟨some 180,.move (.tmp 15),t25,p25,f25,(some (13,true))⟩,⟨some 181,.binOp .sub 3 (.tmp 180) (.const (.int .i64 1)) 3,t26,p26,f26,(some (13,true))⟩,⟨some 182,.indexAddr 43 (.tmp 179) (.tmp 181),t27,p27,f27,(some (13,true))⟩,⟨some 183,.load 9 (.tmp 182),t28,p28,f28,(some (13,true))⟩,⟨some 184,.binOp .leq 9 (.tmp 175) (.tmp 183) 9,t29,p29,f29,(some (13,true))⟩,⟨some 185,.pick (.tmp 168) (.tmp 184) (.const (.bool false)),t30,p30,f30,(some (10,false))⟩,⟨some 186,.pick (.tmp 165) (.const (.bool true)) (.tmp 185),t31,p31,f31,none⟩])(hb:backB ops=true)(d2:depB f2 [1]=true)(d3:depB f3 [2]=true)(d4:depB f4 [3]=true)(d6:depB f6 [4,5]=true)(d7:depB f7 [6]=true)(d8:depB f8 [0,7]=true)(d9:depB f9 [8]=true)(d10:depB f10 [9]=true)(d11:depB f11 [10]=true)(d12:depB f12 [11,10]=true)(d13:depB f13 [12,10]=true)(d14:depB f14 [13]=true)(d15:depB f15 [14,13]=true)(d16:depB f16 [15,13]=true)(d17:depB f17 [16,13]=true)(d18:depB f18 [13]=true)(d19:depB f19 [17,18,13]=true)(d20:depB f20 [19,13]=true)(d21:depB f21 [13]=true)(d22:depB f22 [21,13]=true)(d23:depB f23 [22,13]=true)(d24:depB f24 [23,13]=true)(d25:depB f25 [13]=true)(d26:depB f26 [25,13]=true)(d27:depB f27 [24,26,13]=true)(d28:depB f28 [27,13]=true)(d29:depB f29 [20,28,13]=true)(d30:depB f30 [13,29,10]=true)(d31:depB f31 [10,30]=true)(hm:Tryz.prog.follows .mixedOrders=true)(hQ:∀(u155 u156 u157 u158 u159 u160 u161 u162 u163 u164 u165 u166 u167 u168 u169 u170 u171 u172 u173 u174 u175 u176 u177 u178 u179 u180 u181 u182 u183 u184 u185:Value) X,St X→Q .normal ⟨sets [(155,u155),(156,u156),(157,u157),(158,u158),(159,u159),(160,u160),(161,u161),(162,u162),(163,u163),(164,u164),(165,u165),(166,u166),(167,u167),(168,u168),(169,u169),(170,u170),(171,u171),(172,u172),(173,u173),(174,u174),(175,u175),(176,u176),(177,u177),(178,u178),(179,u179),(180,u180),(181,u181),(182,u182),(183,u183),(184,u184),(185,u185),(186,.bool false)] a0.tmps,a0.defers⟩ X):(Code.region id ops true).wp Tryz.prog Q a0 wc:=by
 refine wp_region_inv hm (Ir39 sp g j jp Kn c3 mb kj kp St) (backB_spec hb) ?_ ?_ ?_
 ·refine⟨Fr.refl _ _,h0,?_⟩;exact fun _ _ _ _ h=>absurd h Bool.false_ne_true
 ·intro L a X hI q o ho hL hd;obtain⟨hF,S,hW⟩:=hI;have hs:a.tmps.size=a0.tmps.size:=hF.2.1;have E8:a.eval (.tmp 8)=.map (some mb):=by rw[hF.eval (by decide),e8]
  have E12:a.eval (.tmp 12)=(.pointer (some ⟨sp,0,none⟩)):=by rw[hF.eval (by decide),e12]
  have E15:a.eval (.tmp 15)=.int .i64 (j:Int):=by rw[hF.eval (by decide),e15]
  subst hops;obtain _ | _ | _ | _ | _ | _ | _ | _ | _ | _ | _ | _ | _ | _ | _ | _ | _ | _ | _ | _ | _ | _ | _ | _ | _ | _ | _ | _ | _ | _ | _ | _ | q:=q
  ·cases ho;have hrun:(execOp a.eval ⟨some 155,.move (.tmp 8),t0,p0,f0,none⟩).run Tryz.prog X=.ok (.value (.map (some mb))) X:=by
    have q0:=tmp_of E8;simp only[execOp,E8];go_simp
   refine wpOp_valueG rfl (wanted_none rfl) hrun ?_;exact⟨hF.put (by decide) _,S,hW.put (q:=0) rfl (ndr39 _ _ _ _ _ _ _ _ _) (by omega)⟩
  ·cases ho;have hrun:(execOp a.eval ⟨some 156,.move (.tmp 12),t1,p1,f1,none⟩).run Tryz.prog X=.ok (.value ((.pointer (some ⟨sp,0,none⟩)))) X:=by
    have q0:=tmp_of E12;simp only[execOp,E12];go_simp
   refine wpOp_valueG rfl (wanted_none rfl) hrun ?_;exact⟨hF.put (by decide) _,S,hW.put (q:=1) rfl (ndr39 _ _ _ _ _ _ _ _ _) (by omega)⟩
  ·cases ho;have hdj:=depB_spec d2 hd;have r1:a.eval (.tmp 156)=(.pointer (some ⟨sp,0,none⟩)):=hW 1 _ _ rfl (hdj 1 (by decide));have hrun:(execOp a.eval ⟨some 157,.nilCheck (.tmp 156),t2,p2,f2,none⟩).run Tryz.prog X=.ok (.value ((.pointer (some ⟨sp,0,none⟩)))) X:=by
    have q0:=tmp_of r1;simp only[execOp,r1];go_simp
   refine wpOp_valueG rfl (wanted_none rfl) hrun ?_;exact⟨hF.put (by decide) _,S,hW.put (q:=2) rfl (ndr39 _ _ _ _ _ _ _ _ _) (by omega)⟩
  ·cases ho;have hdj:=depB_spec d3 hd;have r2:a.eval (.tmp 157)=(.pointer (some ⟨sp,0,none⟩)):=hW 2 _ _ rfl (hdj 2 (by decide));have hrun:(execOp a.eval ⟨some 158,.fieldAddr 64 (.tmp 157) 3,t3,p3,f3,none⟩).run Tryz.prog X=.ok (.value (.pointer (some ⟨sp,3,none⟩))) X:=by
    have q0:=tmp_of r2;simp only[execOp,r2];go_simp
   refine wpOp_valueG rfl (wanted_none rfl) hrun ?_;exact⟨hF.put (by decide) _,S,hW.put (q:=3) rfl (ndr39 _ _ _ _ _ _ _ _ _) (by omega)⟩
  ·cases ho;have hdj:=depB_spec d4 hd;have r3:a.eval (.tmp 158)=.pointer (some ⟨sp,3,none⟩):=hW 3 _ _ rfl (hdj 3 (by decide));have hrun:(execOp a.eval ⟨some 159,.load 43 (.tmp 158),t4,p4,f4,none⟩).run Tryz.prog X=.ok (.value (.slice (some ⟨g,0,none⟩) Kn c3)) X:=by
    have x0:=h3 X S;have q0:=tmp_of r3;simp only[execOp,r3];go_simp
   refine wpOp_valueG rfl (wanted_none rfl) hrun ?_;exact⟨hF.put (by decide) _,S,hW.put (q:=4) rfl (ndr39 _ _ _ _ _ _ _ _ _) (by omega)⟩
  ·cases ho;have hrun:(execOp a.eval ⟨some 160,.move (.tmp 15),t5,p5,f5,none⟩).run Tryz.prog X=.ok (.value (.int .i64 (j:Int))) X:=by
    have q0:=tmp_of E15;simp only[execOp,E15];go_simp
   refine wpOp_valueG rfl (wanted_none rfl) hrun ?_;exact⟨hF.put (by decide) _,S,hW.put (q:=5) rfl (ndr39 _ _ _ _ _ _ _ _ _) (by omega)⟩
  ·cases ho;have hdj:=depB_spec d6 hd;have r4:a.eval (.tmp 159)=.slice (some ⟨g,0,none⟩) Kn c3:=hW 4 _ _ rfl (hdj 4 (by decide));have r5:a.eval (.tmp 160)=.int .i64 (j:Int):=hW 5 _ _ rfl (hdj 5 (by decide));have hrun:(execOp a.eval ⟨some 161,.indexAddr 43 (.tmp 159) (.tmp 160),t6,p6,f6,none⟩).run Tryz.prog X=.ok (.value (.pointer (some ⟨g,j,none⟩))) X:=by
    have q0:=tmp_of r4;have q1:=tmp_of r5;simp only[execOp,r4,r5];go_simp
   refine wpOp_valueG rfl (wanted_none rfl) hrun ?_;exact⟨hF.put (by decide) _,S,hW.put (q:=6) rfl (ndr39 _ _ _ _ _ _ _ _ _) (by omega)⟩
  ·cases ho;have hdj:=depB_spec d7 hd;have r6:a.eval (.tmp 161)=.pointer (some ⟨g,j,none⟩):=hW 6 _ _ rfl (hdj 6 (by decide));have hrun:(execOp a.eval ⟨some 162,.load 9 (.tmp 161),t7,p7,f7,none⟩).run Tryz.prog X=.ok (.value (.string kj)) X:=by
    have x0:=hj X S;have q0:=tmp_of r6;simp only[execOp,r6];go_simp
   refine wpOp_valueG rfl (wanted_none rfl) hrun ?_;exact⟨hF.put (by decide) _,S,hW.put (q:=7) rfl (ndr39 _ _ _ _ _ _ _ _ _) (by omega)⟩
  ·cases ho;have hdj:=depB_spec d8 hd;have r0:a.eval (.tmp 155)=.map (some mb):=hW 0 _ _ rfl (hdj 0 (by decide));have r7:a.eval (.tmp 162)=.string kj:=hW 7 _ _ rfl (hdj 7 (by decide));have hrun:(execOp a.eval ⟨some 163,.lookup 54 (.tmp 155) (.tmp 162) false,t8,p8,f8,none⟩).run Tryz.prog X=.ok (.value (.int .i64 1)) X:=by
    have x0:=hlk X S;have q0:=tmp_of r0;have q1:=tmp_of r7;simp only[execOp,r0,r7];go_simp
   refine wpOp_valueG rfl (wanted_none rfl) hrun ?_;exact⟨hF.put (by decide) _,S,hW.put (q:=8) rfl (ndr39 _ _ _ _ _ _ _ _ _) (by omega)⟩
  ·cases ho;have hdj:=depB_spec d9 hd;have r8:a.eval (.tmp 163)=.int .i64 1:=hW 8 _ _ rfl (hdj 8 (by decide));have hrun:(execOp a.eval ⟨some 164,.binOp .eql 3 (.tmp 163) (.const (.int .i64 0)) 3,t9,p9,f9,none⟩).run Tryz.prog X=.ok (.value (.bool false)) X:=by
    have q0:=tmp_of r8;simp only[execOp,r8];go_simp
   refine wpOp_valueG rfl (wanted_none rfl) hrun ?_;exact⟨hF.put (by decide) _,S,hW.put (q:=9) rfl (ndr39 _ _ _ _ _ _ _ _ _) (by omega)⟩
  ·cases ho;have hdj:=depB_spec d10 hd;have r9:a.eval (.tmp 164)=.bool false:=hW 9 _ _ rfl (hdj 9 (by decide));have hrun:(execOp a.eval ⟨some 165,.move (.tmp 164),t10,p10,f10,none⟩).run Tryz.prog X=.ok (.value (.bool false)) X:=by
    have q0:=tmp_of r9;simp only[execOp,r9];go_simp
   refine wpOp_valueG rfl (wanted_none rfl) hrun ?_;exact⟨hF.put (by decide) _,S,hW.put (q:=10) rfl (ndr39 _ _ _ _ _ _ _ _ _) (by omega)⟩
  ·cases ho;have hdj:=depB_spec d11 hd;have r10:a.eval (.tmp 165)=.bool false:=hW 10 _ _ rfl (hdj 10 (by decide));have hrun:(execOp a.eval ⟨some 166,.move (.tmp 15),t11,p11,f11,(some (10,false))⟩).run Tryz.prog X=.ok (.value (.int .i64 (j:Int))) X:=by
    have q0:=tmp_of E15;simp only[execOp,E15];go_simp
   refine wpOp_valueG rfl ((wanted_of rfl rfl rfl (get_of_eval (by omega) r10)).trans rfl) hrun ?_;exact⟨hF.put (by decide) _,S,hW.put (q:=11) rfl (ndr39 _ _ _ _ _ _ _ _ _) (by omega)⟩
  ·cases ho;have hdj:=depB_spec d12 hd;have r11:a.eval (.tmp 166)=.int .i64 (j:Int):=hW 11 _ _ rfl (hdj 11 (by decide));have r10:a.eval (.tmp 165)=.bool false:=hW 10 _ _ rfl (hdj 10 (by decide));have hrun:(execOp a.eval ⟨some 167,.binOp .gtr 3 (.tmp 166) (.const (.int .i64 0)) 3,t12,p12,f12,(some (10,false))⟩).run Tryz.prog X=.ok (.value (.bool true)) X:=by
    have q0:=tmp_of r11;simp only[execOp,r11];go_simp;omega
   refine wpOp_valueG rfl ((wanted_of rfl rfl rfl (get_of_eval (by omega) r10)).trans rfl) hrun ?_;exact⟨hF.put (by decide) _,S,hW.put (q:=12) rfl (ndr39 _ _ _ _ _ _ _ _ _) (by omega)⟩
  ·cases ho;have hdj:=depB_spec d13 hd;have r12:a.eval (.tmp 167)=.bool true:=hW 12 _ _ rfl (hdj 12 (by decide));have r10:a.eval (.tmp 165)=.bool false:=hW 10 _ _ rfl (hdj 10 (by decide));have hrun:(execOp a.eval ⟨some 168,.move (.tmp 167),t13,p13,f13,(some (10,false))⟩).run Tryz.prog X=.ok (.value (.bool true)) X:=by
    have q0:=tmp_of r12;simp only[execOp,r12];go_simp
   refine wpOp_valueG rfl ((wanted_of rfl rfl rfl (get_of_eval (by omega) r10)).trans rfl) hrun ?_;exact⟨hF.put (by decide) _,S,hW.put (q:=13) rfl (ndr39 _ _ _ _ _ _ _ _ _) (by omega)⟩
  ·cases ho;have hdj:=depB_spec d14 hd;have r13:a.eval (.tmp 168)=.bool true:=hW 13 _ _ rfl (hdj 13 (by decide));have hrun:(execOp a.eval ⟨some 169,.move (.tmp 12),t14,p14,f14,(some (13,true))⟩).run Tryz.prog X=.ok (.value ((.pointer (some ⟨sp,0,none⟩)))) X:=by
    have q0:=tmp_of E12;simp only[execOp,E12];go_simp
   refine wpOp_valueG rfl ((wanted_of rfl rfl rfl (get_of_eval (by omega) r13)).trans rfl) hrun ?_;exact⟨hF.put (by decide) _,S,hW.put (q:=14) rfl (ndr39 _ _ _ _ _ _ _ _ _) (by omega)⟩
  ·cases ho;have hdj:=depB_spec d15 hd;have r14:a.eval (.tmp 169)=(.pointer (some ⟨sp,0,none⟩)):=hW 14 _ _ rfl (hdj 14 (by decide));have r13:a.eval (.tmp 168)=.bool true:=hW 13 _ _ rfl (hdj 13 (by decide));have hrun:(execOp a.eval ⟨some 170,.nilCheck (.tmp 169),t15,p15,f15,(some (13,true))⟩).run Tryz.prog X=.ok (.value ((.pointer (some ⟨sp,0,none⟩)))) X:=by
    have q0:=tmp_of r14;simp only[execOp,r14];go_simp
   refine wpOp_valueG rfl ((wanted_of rfl rfl rfl (get_of_eval (by omega) r13)).trans rfl) hrun ?_;exact⟨hF.put (by decide) _,S,hW.put (q:=15) rfl (ndr39 _ _ _ _ _ _ _ _ _) (by omega)⟩
  ·cases ho;have hdj:=depB_spec d16 hd;have r15:a.eval (.tmp 170)=(.pointer (some ⟨sp,0,none⟩)):=hW 15 _ _ rfl (hdj 15 (by decide));have r13:a.eval (.tmp 168)=.bool true:=hW 13 _ _ rfl (hdj 13 (by decide));have hrun:(execOp a.eval ⟨some 171,.fieldAddr 64 (.tmp 170) 3,t16,p16,f16,(some (13,true))⟩).run Tryz.prog X=.ok (.value (.pointer (some ⟨sp,3,none⟩))) X:=by
    have q0:=tmp_of r15;simp only[execOp,r15];go_simp
   refine wpOp_valueG rfl ((wanted_of rfl rfl rfl (get_of_eval (by omega) r13)).trans rfl) hrun ?_;exact⟨hF.put (by decide) _,S,hW.put (q:=16) rfl (ndr39 _ _ _ _ _ _ _ _ _) (by omega)⟩
  ·cases ho;have hdj:=depB_spec d17 hd;have r16:a.eval (.tmp 171)=.pointer (some ⟨sp,3,none⟩):=hW 16 _ _ rfl (hdj 16 (by decide));have r13:a.eval (.tmp 168)=.bool true:=hW 13 _ _ rfl (hdj 13 (by decide));have hrun:(execOp a.eval ⟨some 172,.load 43 (.tmp 171),t17,p17,f17,(some (13,true))⟩).run Tryz.prog X=.ok (.value (.slice (some ⟨g,0,none⟩) Kn c3)) X:=by
    have x0:=h3 X S;have q0:=tmp_of r16;simp only[execOp,r16];go_simp
   refine wpOp_valueG rfl ((wanted_of rfl rfl rfl (get_of_eval (by omega) r13)).trans rfl) hrun ?_;exact⟨hF.put (by decide) _,S,hW.put (q:=17) rfl (ndr39 _ _ _ _ _ _ _ _ _) (by omega)⟩
  ·cases ho;have hdj:=depB_spec d18 hd;have r13:a.eval (.tmp 168)=.bool true:=hW 13 _ _ rfl (hdj 13 (by decide));have hrun:(execOp a.eval ⟨some 173,.move (.tmp 15),t18,p18,f18,(some (13,true))⟩).run Tryz.prog X=.ok (.value (.int .i64 (j:Int))) X:=by
    have q0:=tmp_of E15;simp only[execOp,E15];go_simp
   refine wpOp_valueG rfl ((wanted_of rfl rfl rfl (get_of_eval (by omega) r13)).trans rfl) hrun ?_;exact⟨hF.put (by decide) _,S,hW.put (q:=18) rfl (ndr39 _ _ _ _ _ _ _ _ _) (by omega)⟩
  ·cases ho;have hdj:=depB_spec d19 hd;have r17:a.eval (.tmp 172)=.slice (some ⟨g,0,none⟩) Kn c3:=hW 17 _ _ rfl (hdj 17 (by decide));have r18:a.eval (.tmp 173)=.int .i64 (j:Int):=hW 18 _ _ rfl (hdj 18 (by decide));have r13:a.eval (.tmp 168)=.bool true:=hW 13 _ _ rfl (hdj 13 (by decide));have hrun:(execOp a.eval ⟨some 174,.indexAddr 43 (.tmp 172) (.tmp 173),t19,p19,f19,(some (13,true))⟩).run Tryz.prog X=.ok (.value (.pointer (some ⟨g,j,none⟩))) X:=by
    have q0:=tmp_of r17;have q1:=tmp_of r18;simp only[execOp,r17,r18];go_simp
   refine wpOp_valueG rfl ((wanted_of rfl rfl rfl (get_of_eval (by omega) r13)).trans rfl) hrun ?_;exact⟨hF.put (by decide) _,S,hW.put (q:=19) rfl (ndr39 _ _ _ _ _ _ _ _ _) (by omega)⟩
  ·cases ho;have hdj:=depB_spec d20 hd;have r19:a.eval (.tmp 174)=.pointer (some ⟨g,j,none⟩):=hW 19 _ _ rfl (hdj 19 (by decide));have r13:a.eval (.tmp 168)=.bool true:=hW 13 _ _ rfl (hdj 13 (by decide));have hrun:(execOp a.eval ⟨some 175,.load 9 (.tmp 174),t20,p20,f20,(some (13,true))⟩).run Tryz.prog X=.ok (.value (.string kj)) X:=by
    have x0:=hj X S;have q0:=tmp_of r19;simp only[execOp,r19];go_simp
   refine wpOp_valueG rfl ((wanted_of rfl rfl rfl (get_of_eval (by omega) r13)).trans rfl) hrun ?_;exact⟨hF.put (by decide) _,S,hW.put (q:=20) rfl (ndr39 _ _ _ _ _ _ _ _ _) (by omega)⟩
  ·cases ho;have hdj:=depB_spec d21 hd;have r13:a.eval (.tmp 168)=.bool true:=hW 13 _ _ rfl (hdj 13 (by decide));have hrun:(execOp a.eval ⟨some 176,.move (.tmp 12),t21,p21,f21,(some (13,true))⟩).run Tryz.prog X=.ok (.value ((.pointer (some ⟨sp,0,none⟩)))) X:=by
    have q0:=tmp_of E12;simp only[execOp,E12];go_simp
   refine wpOp_valueG rfl ((wanted_of rfl rfl rfl (get_of_eval (by omega) r13)).trans rfl) hrun ?_;exact⟨hF.put (by decide) _,S,hW.put (q:=21) rfl (ndr39 _ _ _ _ _ _ _ _ _) (by omega)⟩
  ·cases ho;have hdj:=depB_spec d22 hd;have r21:a.eval (.tmp 176)=(.pointer (some ⟨sp,0,none⟩)):=hW 21 _ _ rfl (hdj 21 (by decide));have r13:a.eval (.tmp 168)=.bool true:=hW 13 _ _ rfl (hdj 13 (by decide));have hrun:(execOp a.eval ⟨some 177,.nilCheck (.tmp 176),t22,p22,f22,(some (13,true))⟩).run Tryz.prog X=.ok (.value ((.pointer (some ⟨sp,0,none⟩)))) X:=by
    have q0:=tmp_of r21;simp only[execOp,r21];go_simp
   refine wpOp_valueG rfl ((wanted_of rfl rfl rfl (get_of_eval (by omega) r13)).trans rfl) hrun ?_;exact⟨hF.put (by decide) _,S,hW.put (q:=22) rfl (ndr39 _ _ _ _ _ _ _ _ _) (by omega)⟩
  ·cases ho;have hdj:=depB_spec d23 hd;have r22:a.eval (.tmp 177)=(.pointer (some ⟨sp,0,none⟩)):=hW 22 _ _ rfl (hdj 22 (by decide));have r13:a.eval (.tmp 168)=.bool true:=hW 13 _ _ rfl (hdj 13 (by decide));have hrun:(execOp a.eval ⟨some 178,.fieldAddr 64 (.tmp 177) 3,t23,p23,f23,(some (13,true))⟩).run Tryz.prog X=.ok (.value (.pointer (some ⟨sp,3,none⟩))) X:=by
    have q0:=tmp_of r22;simp only[execOp,r22];go_simp
   refine wpOp_valueG rfl ((wanted_of rfl rfl rfl (get_of_eval (by omega) r13)).trans rfl) hrun ?_;exact⟨hF.put (by decide) _,S,hW.put (q:=23) rfl (ndr39 _ _ _ _ _ _ _ _ _) (by omega)⟩
  ·cases ho;have hdj:=depB_spec d24 hd;have r23:a.eval (.tmp 178)=.pointer (some ⟨sp,3,none⟩):=hW 23 _ _ rfl (hdj 23 (by decide));have r13:a.eval (.tmp 168)=.bool true:=hW 13 _ _ rfl (hdj 13 (by decide));have hrun:(execOp a.eval ⟨some 179,.load 43 (.tmp 178),t24,p24,f24,(some (13,true))⟩).run Tryz.prog X=.ok (.value (.slice (some ⟨g,0,none⟩) Kn c3)) X:=by
    have x0:=h3 X S;have q0:=tmp_of r23;simp only[execOp,r23];go_simp
   refine wpOp_valueG rfl ((wanted_of rfl rfl rfl (get_of_eval (by omega) r13)).trans rfl) hrun ?_;exact⟨hF.put (by decide) _,S,hW.put (q:=24) rfl (ndr39 _ _ _ _ _ _ _ _ _) (by omega)⟩
  ·cases ho;have hdj:=depB_spec d25 hd;have r13:a.eval (.tmp 168)=.bool true:=hW 13 _ _ rfl (hdj 13 (by decide));have hrun:(execOp a.eval ⟨some 180,.move (.tmp 15),t25,p25,f25,(some (13,true))⟩).run Tryz.prog X=.ok (.value (.int .i64 (j:Int))) X:=by
    have q0:=tmp_of E15;simp only[execOp,E15];go_simp
   refine wpOp_valueG rfl ((wanted_of rfl rfl rfl (get_of_eval (by omega) r13)).trans rfl) hrun ?_;exact⟨hF.put (by decide) _,S,hW.put (q:=25) rfl (ndr39 _ _ _ _ _ _ _ _ _) (by omega)⟩
  ·cases ho;have hdj:=depB_spec d26 hd;have r25:a.eval (.tmp 180)=.int .i64 (j:Int):=hW 25 _ _ rfl (hdj 25 (by decide));have r13:a.eval (.tmp 168)=.bool true:=hW 13 _ _ rfl (hdj 13 (by decide));have hrun:(execOp a.eval ⟨some 181,.binOp .sub 3 (.tmp 180) (.const (.int .i64 1)) 3,t26,p26,f26,(some (13,true))⟩).run Tryz.prog X=.ok (.value (.int .i64 (jp:Int))) X:=by
    have q0:=tmp_of r25;simp only[execOp,r25];go_simp;rw[IntKind.wrap_i64];omega
   refine wpOp_valueG rfl ((wanted_of rfl rfl rfl (get_of_eval (by omega) r13)).trans rfl) hrun ?_;exact⟨hF.put (by decide) _,S,hW.put (q:=26) rfl (ndr39 _ _ _ _ _ _ _ _ _) (by omega)⟩
  ·cases ho;have hdj:=depB_spec d27 hd;have r24:a.eval (.tmp 179)=.slice (some ⟨g,0,none⟩) Kn c3:=hW 24 _ _ rfl (hdj 24 (by decide));have r26:a.eval (.tmp 181)=.int .i64 (jp:Int):=hW 26 _ _ rfl (hdj 26 (by decide));have r13:a.eval (.tmp 168)=.bool true:=hW 13 _ _ rfl (hdj 13 (by decide));have hrun:(execOp a.eval ⟨some 182,.indexAddr 43 (.tmp 179) (.tmp 181),t27,p27,f27,(some (13,true))⟩).run Tryz.prog X=.ok (.value (.pointer (some ⟨g,jp,none⟩))) X:=by
    have q0:=tmp_of r24;have q1:=tmp_of r26;simp only[execOp,r24,r26];go_simp
   refine wpOp_valueG rfl ((wanted_of rfl rfl rfl (get_of_eval (by omega) r13)).trans rfl) hrun ?_;exact⟨hF.put (by decide) _,S,hW.put (q:=27) rfl (ndr39 _ _ _ _ _ _ _ _ _) (by omega)⟩
  ·cases ho;have hdj:=depB_spec d28 hd;have r27:a.eval (.tmp 182)=.pointer (some ⟨g,jp,none⟩):=hW 27 _ _ rfl (hdj 27 (by decide));have r13:a.eval (.tmp 168)=.bool true:=hW 13 _ _ rfl (hdj 13 (by decide));have hrun:(execOp a.eval ⟨some 183,.load 9 (.tmp 182),t28,p28,f28,(some (13,true))⟩).run Tryz.prog X=.ok (.value (.string kp)) X:=by
    have x0:=hp X S;have q0:=tmp_of r27;simp only[execOp,r27];go_simp
   refine wpOp_valueG rfl ((wanted_of rfl rfl rfl (get_of_eval (by omega) r13)).trans rfl) hrun ?_;exact⟨hF.put (by decide) _,S,hW.put (q:=28) rfl (ndr39 _ _ _ _ _ _ _ _ _) (by omega)⟩
  ·cases ho;have hdj:=depB_spec d29 hd;have r20:a.eval (.tmp 175)=.string kj:=hW 20 _ _ rfl (hdj 20 (by decide));have r28:a.eval (.tmp 183)=.string kp:=hW 28 _ _ rfl (hdj 28 (by decide));have r13:a.eval (.tmp 168)=.bool true:=hW 13 _ _ rfl (hdj 13 (by decide));have hrun:(execOp a.eval ⟨some 184,.binOp .leq 9 (.tmp 175) (.tmp 183) 9,t29,p29,f29,(some (13,true))⟩).run Tryz.prog X=.ok (.value (.bool false)) X:=by
    have q0:=tmp_of r20;have q1:=tmp_of r28;simp only[execOp,r20,r28];go_simp
   refine wpOp_valueG rfl ((wanted_of rfl rfl rfl (get_of_eval (by omega) r13)).trans rfl) hrun ?_;exact⟨hF.put (by decide) _,S,hW.put (q:=29) rfl (ndr39 _ _ _ _ _ _ _ _ _) (by omega)⟩
  ·cases ho;have hdj:=depB_spec d30 hd;have r13:a.eval (.tmp 168)=.bool true:=hW 13 _ _ rfl (hdj 13 (by decide));have r29:a.eval (.tmp 184)=.bool false:=hW 29 _ _ rfl (hdj 29 (by decide));have r10:a.eval (.tmp 165)=.bool false:=hW 10 _ _ rfl (hdj 10 (by decide));have hrun:(execOp a.eval ⟨some 185,.pick (.tmp 168) (.tmp 184) (.const (.bool false)),t30,p30,f30,(some (10,false))⟩).run Tryz.prog X=.ok (.value (.bool false)) X:=by
    have q0:=tmp_of r13;have q1:=tmp_of r29;simp only[execOp,r13,r29];go_simp
   refine wpOp_valueG rfl ((wanted_of rfl rfl rfl (get_of_eval (by omega) r10)).trans rfl) hrun ?_;exact⟨hF.put (by decide) _,S,hW.put (q:=30) rfl (ndr39 _ _ _ _ _ _ _ _ _) (by omega)⟩
  ·cases ho;have hdj:=depB_spec d31 hd;have r10:a.eval (.tmp 165)=.bool false:=hW 10 _ _ rfl (hdj 10 (by decide));have r30:a.eval (.tmp 185)=.bool false:=hW 30 _ _ rfl (hdj 30 (by decide));have hrun:(execOp a.eval ⟨some 186,.pick (.tmp 165) (.const (.bool true)) (.tmp 185),t31,p31,f31,none⟩).run Tryz.prog X=.ok (.value (.bool false)) X:=by
    have q0:=tmp_of r10;have q1:=tmp_of r30;simp only[execOp,r10,r30];go_simp
   refine wpOp_valueG rfl (wanted_none rfl) hrun ?_;exact⟨hF.put (by decide) _,S,hW.put (q:=31) rfl (ndr39 _ _ _ _ _ _ _ _ _) (by omega)⟩
  ·cases ho
 ·intro L a X hI hall;subst hops;obtain⟨hF,S,hW⟩:=hI;have hs:a.tmps.size=a0.tmps.size:=hF.2.1;have hv:a.eval (.tmp 186)=.bool false:=hW 31 _ _ rfl (hall 31 (by simp));rw[hF.eq [(155,a.eval (.tmp 155)),(156,a.eval (.tmp 156)),(157,a.eval (.tmp 157)),(158,a.eval (.tmp 158)),(159,a.eval (.tmp 159)),(160,a.eval (.tmp 160)),(161,a.eval (.tmp 161)),(162,a.eval (.tmp 162)),(163,a.eval (.tmp 163)),(164,a.eval (.tmp 164)),(165,a.eval (.tmp 165)),(166,a.eval (.tmp 166)),(167,a.eval (.tmp 167)),(168,a.eval (.tmp 168)),(169,a.eval (.tmp 169)),(170,a.eval (.tmp 170)),(171,a.eval (.tmp 171)),(172,a.eval (.tmp 172)),(173,a.eval (.tmp 173)),(174,a.eval (.tmp 174)),(175,a.eval (.tmp 175)),(176,a.eval (.tmp 176)),(177,a.eval (.tmp 177)),(178,a.eval (.tmp 178)),(179,a.eval (.tmp 179)),(180,a.eval (.tmp 180)),(181,a.eval (.tmp 181)),(182,a.eval (.tmp 182)),(183,a.eval (.tmp 183)),(184,a.eval (.tmp 184)),(185,a.eval (.tmp 185)),(186,.bool false)] (by simp) (by simp[hv];omega)];exact hQ _ _ _ _ _ _ _ _ _ _ _ _ _ _ _ _ _ _ _ _ _ _ _ _ _ _ _ _ _ _ _ X S
def Wr42 (sp Gp Kn c3 mb cnt fr pg:Nat)(a3:Option Addr):List (Nat×Value):=[(188,(.pointer (some ⟨sp,0,none⟩))),(189,(.pointer (some ⟨sp,0,none⟩))),(190,.pointer (some ⟨sp,4,none⟩)),(191,.bool true),(192,.bool false),(193,.bool false),(194,(.pointer (some ⟨sp,0,none⟩))),(195,(.pointer (some ⟨sp,0,none⟩))),(196,.pointer (some ⟨sp,3,none⟩)),(197,.slice a3 Kn c3),(198,.int .i64 (Kn:Int)),(199,.map (some mb)),(200,.int .i64 (Kn:Int)),(201,.bool false),(202,.bool false),(203,.bool false),(204,(.pointer (some ⟨sp,0,none⟩))),(205,(.pointer (some ⟨sp,0,none⟩))),(206,.pointer (some ⟨sp,0,none⟩)),(207,.int .i64 (cnt:Int)),(208,(.pointer (some ⟨Gp,0,none⟩))),(209,.int .i64 (fr:Int)),(210,.int .i64 ((cnt:Int)+(fr:Int))),(211,.int .i64 (pg:Int)),(212,(.pointer (some ⟨Gp,0,none⟩))),(213,.int .i64 (pg:Int)),(214,.bool false),(215,.bool false)]
theorem ndr42 (sp Gp Kn c3 mb cnt fr pg:Nat)(a3:Option Addr):((Wr42 sp Gp Kn c3 mb cnt fr pg a3).map (·.1)).Nodup:=by
 show [188,189,190,191,192,193,194,195,196,197,198,199,200,201,202,203,204,205,206,207,208,209,210,211,212,213,214,215].Nodup
 decide
def Ir42 (sp Gp Kn c3 mb cnt fr pg:Nat)(a3:Option Addr)(St:World→Prop)(a0:Act)(L:Nat→Bool)(a:Act)(X:World):Prop:=Fr [188,189,190,191,192,193,194,195,196,197,198,199,200,201,202,203,204,205,206,207,208,209,210,211,212,213,214,215] a0 a∧St X∧SlT (Wr42 sp Gp Kn c3 mb cnt fr pg a3) L a
theorem r42 (sp Gp Kn c3 mb cnt fr pg:Nat)(a3:Option Addr)(St:World→Prop)(h0:St wc.drew)(h4:∀w,St w→w.cell? ⟨sp,4,none⟩=some (.bool true))(h3:∀w,St w→w.cell? ⟨sp,3,none⟩=some (.slice a3 Kn c3))(hc:∀w,St w→w.cell? ⟨sp,0,none⟩=some (.int .i64 (cnt:Int)))(hlen:∀w,St w→∀ty,(Builtin.len_ #[54] ty #[.map (some mb)]).run Tryz.prog w=.ok (.int .i64 (Kn:Int)) w)(hfr:∀w,St w→Calls Tryz.prog 22 #[(.pointer (some ⟨Gp,0,none⟩))] w fun e w'=>e=.returned (.int .i64 (fr:Int))∧St w')(hpg:∀w,St w→Calls Tryz.prog 23 #[(.pointer (some ⟨Gp,0,none⟩))] w fun e w'=>e=.returned (.int .i64 (pg:Int))∧St w')(hs1:(cnt:Int)+(fr:Int)+1=(pg:Int))(hb1:cnt≤100000)(hb2:fr≤100000)(hsz:215<a0.tmps.size)(e4:a0.eval (.tmp 4)=(.pointer (some ⟨Gp,0,none⟩)))(e8:a0.eval (.tmp 8)=.map (some mb))(e12:a0.eval (.tmp 12)=(.pointer (some ⟨sp,0,none⟩)))(hops:ops=#[⟨some 188,.move (.tmp 12),t0,p0,f0,none⟩,⟨some 189,.nilCheck (.tmp 188),t1,p1,f1,none⟩,⟨some 190,.fieldAddr 64 (.tmp 189) 4,t2,p2,f2,none⟩,⟨some 191,.load 4 (.tmp 190),t3,p3,f3,none⟩,⟨some 192,.unOp .not 4 (.tmp 191),t4,p4,f4,none⟩,⟨some 193,.move (.tmp 192),t5,p5,f5,none⟩,⟨some 194,.move (.tmp 12),t6,p6,f6,(some (5,false))⟩,⟨some 195,.nilCheck (.tmp 194),t7,p7,f7,(some (5,false))⟩,⟨some 196,.fieldAddr 64 (.tmp 195) 3,t8,p8,f8,(some (5,false))⟩,⟨some 197,.load 43 (.tmp 196),t9,p9,f9,(some (5,false))⟩,⟨some 198,.call { callee:=.builtin .len,args:=#[.tmp 197],argTypes:=#[43]},t10,p10,f10,(some (5,false))⟩,⟨some 199,.move (.tmp 8),t11,p11,f11,(some (5,false))⟩,⟨some 200,.call { callee:=.builtin .len,args:=#[.tmp 199],argTypes:=#[54]},t12,p12,f12,(some (5,false))⟩,⟨some 201,.binOp .neq 3 (.tmp 198) (.tmp 200) 3,t13,p13,f13,(some (5,false))⟩,⟨some 202,.pick (.tmp 193) (.const (.bool true)) (.tmp 201),t14,p14,f14,none⟩,⟨some 203,.move (.tmp 202),t15,p15,f15,none⟩,⟨some 204,.move (.tmp 12),t16,p16,f16,(some (15,false))⟩,⟨some 205,.nilCheck (.tmp 204),t17,p17,f17,(some (15,false))⟩,⟨some 206,.fieldAddr 64 (.tmp 205) 0,t18,p18,f18,(some (15,false))⟩,⟨some 207,.load 3 (.tmp 206),t19,p19,f19,(some (15,false))⟩,⟨some 208,.move (.tmp 4),t20,p20,f20,(some (15,false))⟩,⟨some 209,.call { callee:=.value (.func 22),args:=#[.tmp 208],argTypes:=#[25]},t21,p21,f21,(some (15,false))⟩,⟨some 210,.binOp .add 3 (.tmp 207) (.tmp 209) 3,t22,p22,f22,(some (15,false))⟩,⟨some 211,.binOp .add 3 (.tmp 210) (.const (.int .i64 1)) 3,t23,p23,f23,(some (15,false))⟩,⟨some 212,.move (.tmp 4),t24,p24,f24,(some (15,false))⟩,⟨some 213,.call { callee:=.value (.func 23),args:=#[.tmp 212],argTypes:=#[25]},t25,p25,f25,(some (15,false))⟩,⟨some 214,.binOp .neq 3 (.tmp 211) (.tmp 213) 3,t26,p26,f26,(some (15,false))⟩,⟨some 215,.pick (.tmp 203) (.const (.bool true)) (.tmp 214),t27,p27,f27,none⟩])(hb:backB ops=true)(d1:depB f1 [0]=true)(d2:depB f2 [1]=true)(d3:depB f3 [2]=true)(d4:depB f4 [3]=true)(d5:depB f5 [4]=true)(d6:depB f6 [5]=true)(d7:depB f7 [6,5]=true)(d8:depB f8 [7,5]=true)(d9:depB f9 [8,5]=true)(d10:depB f10 [9,5]=true)(d11:depB f11 [5]=true)(d12:depB f12 [11,5]=true)(d13:depB f13 [10,12,5]=true)(d14:depB f14 [5,13]=true)(d15:depB f15 [14]=true)(d16:depB f16 [15]=true)(d17:depB f17 [16,15]=true)(d18:depB f18 [17,15]=true)(d19:depB f19 [18,15]=true)(d20:depB f20 [15]=true)(d21:depB f21 [20,15]=true)(d22:depB f22 [19,21,15]=true)(d23:depB f23 [22,15]=true)(d24:depB f24 [15]=true)(d25:depB f25 [24,15]=true)(d26:depB f26 [23,25,15]=true)(d27:depB f27 [15,26]=true)(hm:Tryz.prog.follows .mixedOrders=true)(hQ:∀(u188 u189 u190 u191 u192 u193 u194 u195 u196 u197 u198 u199 u200 u201 u202 u203 u204 u205 u206 u207 u208 u209 u210 u211 u212 u213 u214:Value) X,St X→Q .normal ⟨sets [(188,u188),(189,u189),(190,u190),(191,u191),(192,u192),(193,u193),(194,u194),(195,u195),(196,u196),(197,u197),(198,u198),(199,u199),(200,u200),(201,u201),(202,u202),(203,u203),(204,u204),(205,u205),(206,u206),(207,u207),(208,u208),(209,u209),(210,u210),(211,u211),(212,u212),(213,u213),(214,u214),(215,.bool false)] a0.tmps,a0.defers⟩ X):(Code.region id ops true).wp Tryz.prog Q a0 wc:=by
 refine wp_region_inv hm (Ir42 sp Gp Kn c3 mb cnt fr pg a3 St) (backB_spec hb) ?_ ?_ ?_
 ·refine⟨Fr.refl _ _,h0,?_⟩;exact fun _ _ _ _ h=>absurd h Bool.false_ne_true
 ·intro L a X hI q o ho hL hd;obtain⟨hF,S,hW⟩:=hI;have hs:a.tmps.size=a0.tmps.size:=hF.2.1;have E4:a.eval (.tmp 4)=(.pointer (some ⟨Gp,0,none⟩)):=by rw[hF.eval (by decide),e4]
  have E8:a.eval (.tmp 8)=.map (some mb):=by rw[hF.eval (by decide),e8]
  have E12:a.eval (.tmp 12)=(.pointer (some ⟨sp,0,none⟩)):=by rw[hF.eval (by decide),e12]
  subst hops;obtain _ | _ | _ | _ | _ | _ | _ | _ | _ | _ | _ | _ | _ | _ | _ | _ | _ | _ | _ | _ | _ | _ | _ | _ | _ | _ | _ | _ | q:=q
  ·cases ho;have hrun:(execOp a.eval ⟨some 188,.move (.tmp 12),t0,p0,f0,none⟩).run Tryz.prog X=.ok (.value ((.pointer (some ⟨sp,0,none⟩)))) X:=by
    have q0:=tmp_of E12;simp only[execOp,E12];go_simp
   refine wpOp_valueG rfl (wanted_none rfl) hrun ?_;exact⟨hF.put (by decide) _,S,hW.put (q:=0) rfl (ndr42 _ _ _ _ _ _ _ _ _) (by omega)⟩
  ·cases ho;have hdj:=depB_spec d1 hd;have r0:a.eval (.tmp 188)=(.pointer (some ⟨sp,0,none⟩)):=hW 0 _ _ rfl (hdj 0 (by decide));have hrun:(execOp a.eval ⟨some 189,.nilCheck (.tmp 188),t1,p1,f1,none⟩).run Tryz.prog X=.ok (.value ((.pointer (some ⟨sp,0,none⟩)))) X:=by
    have q0:=tmp_of r0;simp only[execOp,r0];go_simp
   refine wpOp_valueG rfl (wanted_none rfl) hrun ?_;exact⟨hF.put (by decide) _,S,hW.put (q:=1) rfl (ndr42 _ _ _ _ _ _ _ _ _) (by omega)⟩
  ·cases ho;have hdj:=depB_spec d2 hd;have r1:a.eval (.tmp 189)=(.pointer (some ⟨sp,0,none⟩)):=hW 1 _ _ rfl (hdj 1 (by decide));have hrun:(execOp a.eval ⟨some 190,.fieldAddr 64 (.tmp 189) 4,t2,p2,f2,none⟩).run Tryz.prog X=.ok (.value (.pointer (some ⟨sp,4,none⟩))) X:=by
    have q0:=tmp_of r1;simp only[execOp,r1];go_simp
   refine wpOp_valueG rfl (wanted_none rfl) hrun ?_;exact⟨hF.put (by decide) _,S,hW.put (q:=2) rfl (ndr42 _ _ _ _ _ _ _ _ _) (by omega)⟩
  ·cases ho;have hdj:=depB_spec d3 hd;have r2:a.eval (.tmp 190)=.pointer (some ⟨sp,4,none⟩):=hW 2 _ _ rfl (hdj 2 (by decide));have hrun:(execOp a.eval ⟨some 191,.load 4 (.tmp 190),t3,p3,f3,none⟩).run Tryz.prog X=.ok (.value (.bool true)) X:=by
    have x0:=h4 X S;have q0:=tmp_of r2;simp only[execOp,r2];go_simp
   refine wpOp_valueG rfl (wanted_none rfl) hrun ?_;exact⟨hF.put (by decide) _,S,hW.put (q:=3) rfl (ndr42 _ _ _ _ _ _ _ _ _) (by omega)⟩
  ·cases ho;have hdj:=depB_spec d4 hd;have r3:a.eval (.tmp 191)=.bool true:=hW 3 _ _ rfl (hdj 3 (by decide));have hrun:(execOp a.eval ⟨some 192,.unOp .not 4 (.tmp 191),t4,p4,f4,none⟩).run Tryz.prog X=.ok (.value (.bool false)) X:=by
    have q0:=tmp_of r3;simp only[execOp,r3];go_simp
   refine wpOp_valueG rfl (wanted_none rfl) hrun ?_;exact⟨hF.put (by decide) _,S,hW.put (q:=4) rfl (ndr42 _ _ _ _ _ _ _ _ _) (by omega)⟩
  ·cases ho;have hdj:=depB_spec d5 hd;have r4:a.eval (.tmp 192)=.bool false:=hW 4 _ _ rfl (hdj 4 (by decide));have hrun:(execOp a.eval ⟨some 193,.move (.tmp 192),t5,p5,f5,none⟩).run Tryz.prog X=.ok (.value (.bool false)) X:=by
    have q0:=tmp_of r4;simp only[execOp,r4];go_simp
   refine wpOp_valueG rfl (wanted_none rfl) hrun ?_;exact⟨hF.put (by decide) _,S,hW.put (q:=5) rfl (ndr42 _ _ _ _ _ _ _ _ _) (by omega)⟩
  ·cases ho;have hdj:=depB_spec d6 hd;have r5:a.eval (.tmp 193)=.bool false:=hW 5 _ _ rfl (hdj 5 (by decide));have hrun:(execOp a.eval ⟨some 194,.move (.tmp 12),t6,p6,f6,(some (5,false))⟩).run Tryz.prog X=.ok (.value ((.pointer (some ⟨sp,0,none⟩)))) X:=by
    have q0:=tmp_of E12;simp only[execOp,E12];go_simp
   refine wpOp_valueG rfl ((wanted_of rfl rfl rfl (get_of_eval (by omega) r5)).trans rfl) hrun ?_;exact⟨hF.put (by decide) _,S,hW.put (q:=6) rfl (ndr42 _ _ _ _ _ _ _ _ _) (by omega)⟩
  ·cases ho;have hdj:=depB_spec d7 hd;have r6:a.eval (.tmp 194)=(.pointer (some ⟨sp,0,none⟩)):=hW 6 _ _ rfl (hdj 6 (by decide));have r5:a.eval (.tmp 193)=.bool false:=hW 5 _ _ rfl (hdj 5 (by decide));have hrun:(execOp a.eval ⟨some 195,.nilCheck (.tmp 194),t7,p7,f7,(some (5,false))⟩).run Tryz.prog X=.ok (.value ((.pointer (some ⟨sp,0,none⟩)))) X:=by
    have q0:=tmp_of r6;simp only[execOp,r6];go_simp
   refine wpOp_valueG rfl ((wanted_of rfl rfl rfl (get_of_eval (by omega) r5)).trans rfl) hrun ?_;exact⟨hF.put (by decide) _,S,hW.put (q:=7) rfl (ndr42 _ _ _ _ _ _ _ _ _) (by omega)⟩
  ·cases ho;have hdj:=depB_spec d8 hd;have r7:a.eval (.tmp 195)=(.pointer (some ⟨sp,0,none⟩)):=hW 7 _ _ rfl (hdj 7 (by decide));have r5:a.eval (.tmp 193)=.bool false:=hW 5 _ _ rfl (hdj 5 (by decide));have hrun:(execOp a.eval ⟨some 196,.fieldAddr 64 (.tmp 195) 3,t8,p8,f8,(some (5,false))⟩).run Tryz.prog X=.ok (.value (.pointer (some ⟨sp,3,none⟩))) X:=by
    have q0:=tmp_of r7;simp only[execOp,r7];go_simp
   refine wpOp_valueG rfl ((wanted_of rfl rfl rfl (get_of_eval (by omega) r5)).trans rfl) hrun ?_;exact⟨hF.put (by decide) _,S,hW.put (q:=8) rfl (ndr42 _ _ _ _ _ _ _ _ _) (by omega)⟩
  ·cases ho;have hdj:=depB_spec d9 hd;have r8:a.eval (.tmp 196)=.pointer (some ⟨sp,3,none⟩):=hW 8 _ _ rfl (hdj 8 (by decide));have r5:a.eval (.tmp 193)=.bool false:=hW 5 _ _ rfl (hdj 5 (by decide));have hrun:(execOp a.eval ⟨some 197,.load 43 (.tmp 196),t9,p9,f9,(some (5,false))⟩).run Tryz.prog X=.ok (.value (.slice a3 Kn c3)) X:=by
    have x0:=h3 X S;have q0:=tmp_of r8;simp only[execOp,r8];go_simp
   refine wpOp_valueG rfl ((wanted_of rfl rfl rfl (get_of_eval (by omega) r5)).trans rfl) hrun ?_;exact⟨hF.put (by decide) _,S,hW.put (q:=9) rfl (ndr42 _ _ _ _ _ _ _ _ _) (by omega)⟩
  ·cases ho;have hdj:=depB_spec d10 hd;have r9:a.eval (.tmp 197)=.slice a3 Kn c3:=hW 9 _ _ rfl (hdj 9 (by decide));have r5:a.eval (.tmp 193)=.bool false:=hW 5 _ _ rfl (hdj 5 (by decide));have hrun:(execOp a.eval ⟨some 198,.call { callee:=.builtin .len,args:=#[.tmp 197],argTypes:=#[43]},t10,p10,f10,(some (5,false))⟩).run Tryz.prog X=.ok (.value (.int .i64 (Kn:Int))) X:=by
    have q0:=tmp_of r9;simp only[execOp];go_simp
   refine wpOp_valueG rfl ((wanted_of rfl rfl rfl (get_of_eval (by omega) r5)).trans rfl) hrun ?_;exact⟨hF.put (by decide) _,S,hW.put (q:=10) rfl (ndr42 _ _ _ _ _ _ _ _ _) (by omega)⟩
  ·cases ho;have hdj:=depB_spec d11 hd;have r5:a.eval (.tmp 193)=.bool false:=hW 5 _ _ rfl (hdj 5 (by decide));have hrun:(execOp a.eval ⟨some 199,.move (.tmp 8),t11,p11,f11,(some (5,false))⟩).run Tryz.prog X=.ok (.value (.map (some mb))) X:=by
    have q0:=tmp_of E8;simp only[execOp,E8];go_simp
   refine wpOp_valueG rfl ((wanted_of rfl rfl rfl (get_of_eval (by omega) r5)).trans rfl) hrun ?_;exact⟨hF.put (by decide) _,S,hW.put (q:=11) rfl (ndr42 _ _ _ _ _ _ _ _ _) (by omega)⟩
  ·cases ho;have hdj:=depB_spec d12 hd;have r11:a.eval (.tmp 199)=.map (some mb):=hW 11 _ _ rfl (hdj 11 (by decide));have r5:a.eval (.tmp 193)=.bool false:=hW 5 _ _ rfl (hdj 5 (by decide));have hrun:(execOp a.eval ⟨some 200,.call { callee:=.builtin .len,args:=#[.tmp 199],argTypes:=#[54]},t12,p12,f12,(some (5,false))⟩).run Tryz.prog X=.ok (.value (.int .i64 (Kn:Int))) X:=by
    have x0:=hlen X S;have q0:=tmp_of r11;simp only[execOp];go_simp
   refine wpOp_valueG rfl ((wanted_of rfl rfl rfl (get_of_eval (by omega) r5)).trans rfl) hrun ?_;exact⟨hF.put (by decide) _,S,hW.put (q:=12) rfl (ndr42 _ _ _ _ _ _ _ _ _) (by omega)⟩
  ·cases ho;have hdj:=depB_spec d13 hd;have r10:a.eval (.tmp 198)=.int .i64 (Kn:Int):=hW 10 _ _ rfl (hdj 10 (by decide));have r12:a.eval (.tmp 200)=.int .i64 (Kn:Int):=hW 12 _ _ rfl (hdj 12 (by decide));have r5:a.eval (.tmp 193)=.bool false:=hW 5 _ _ rfl (hdj 5 (by decide));have hrun:(execOp a.eval ⟨some 201,.binOp .neq 3 (.tmp 198) (.tmp 200) 3,t13,p13,f13,(some (5,false))⟩).run Tryz.prog X=.ok (.value (.bool false)) X:=by
    have q0:=tmp_of r10;have q1:=tmp_of r12;simp only[execOp,r10,r12];go_simp
   refine wpOp_valueG rfl ((wanted_of rfl rfl rfl (get_of_eval (by omega) r5)).trans rfl) hrun ?_;exact⟨hF.put (by decide) _,S,hW.put (q:=13) rfl (ndr42 _ _ _ _ _ _ _ _ _) (by omega)⟩
  ·cases ho;have hdj:=depB_spec d14 hd;have r5:a.eval (.tmp 193)=.bool false:=hW 5 _ _ rfl (hdj 5 (by decide));have r13:a.eval (.tmp 201)=.bool false:=hW 13 _ _ rfl (hdj 13 (by decide));have hrun:(execOp a.eval ⟨some 202,.pick (.tmp 193) (.const (.bool true)) (.tmp 201),t14,p14,f14,none⟩).run Tryz.prog X=.ok (.value (.bool false)) X:=by
    have q0:=tmp_of r5;have q1:=tmp_of r13;simp only[execOp,r5,r13];go_simp
   refine wpOp_valueG rfl (wanted_none rfl) hrun ?_;exact⟨hF.put (by decide) _,S,hW.put (q:=14) rfl (ndr42 _ _ _ _ _ _ _ _ _) (by omega)⟩
  ·cases ho;have hdj:=depB_spec d15 hd;have r14:a.eval (.tmp 202)=.bool false:=hW 14 _ _ rfl (hdj 14 (by decide));have hrun:(execOp a.eval ⟨some 203,.move (.tmp 202),t15,p15,f15,none⟩).run Tryz.prog X=.ok (.value (.bool false)) X:=by
    have q0:=tmp_of r14;simp only[execOp,r14];go_simp
   refine wpOp_valueG rfl (wanted_none rfl) hrun ?_;exact⟨hF.put (by decide) _,S,hW.put (q:=15) rfl (ndr42 _ _ _ _ _ _ _ _ _) (by omega)⟩
  ·cases ho;have hdj:=depB_spec d16 hd;have r15:a.eval (.tmp 203)=.bool false:=hW 15 _ _ rfl (hdj 15 (by decide));have hrun:(execOp a.eval ⟨some 204,.move (.tmp 12),t16,p16,f16,(some (15,false))⟩).run Tryz.prog X=.ok (.value ((.pointer (some ⟨sp,0,none⟩)))) X:=by
    have q0:=tmp_of E12;simp only[execOp,E12];go_simp
   refine wpOp_valueG rfl ((wanted_of rfl rfl rfl (get_of_eval (by omega) r15)).trans rfl) hrun ?_;exact⟨hF.put (by decide) _,S,hW.put (q:=16) rfl (ndr42 _ _ _ _ _ _ _ _ _) (by omega)⟩
  ·cases ho;have hdj:=depB_spec d17 hd;have r16:a.eval (.tmp 204)=(.pointer (some ⟨sp,0,none⟩)):=hW 16 _ _ rfl (hdj 16 (by decide));have r15:a.eval (.tmp 203)=.bool false:=hW 15 _ _ rfl (hdj 15 (by decide));have hrun:(execOp a.eval ⟨some 205,.nilCheck (.tmp 204),t17,p17,f17,(some (15,false))⟩).run Tryz.prog X=.ok (.value ((.pointer (some ⟨sp,0,none⟩)))) X:=by
    have q0:=tmp_of r16;simp only[execOp,r16];go_simp
   refine wpOp_valueG rfl ((wanted_of rfl rfl rfl (get_of_eval (by omega) r15)).trans rfl) hrun ?_;exact⟨hF.put (by decide) _,S,hW.put (q:=17) rfl (ndr42 _ _ _ _ _ _ _ _ _) (by omega)⟩
  ·cases ho;have hdj:=depB_spec d18 hd;have r17:a.eval (.tmp 205)=(.pointer (some ⟨sp,0,none⟩)):=hW 17 _ _ rfl (hdj 17 (by decide));have r15:a.eval (.tmp 203)=.bool false:=hW 15 _ _ rfl (hdj 15 (by decide));have hrun:(execOp a.eval ⟨some 206,.fieldAddr 64 (.tmp 205) 0,t18,p18,f18,(some (15,false))⟩).run Tryz.prog X=.ok (.value (.pointer (some ⟨sp,0,none⟩))) X:=by
    have q0:=tmp_of r17;simp only[execOp,r17];go_simp
   refine wpOp_valueG rfl ((wanted_of rfl rfl rfl (get_of_eval (by omega) r15)).trans rfl) hrun ?_;exact⟨hF.put (by decide) _,S,hW.put (q:=18) rfl (ndr42 _ _ _ _ _ _ _ _ _) (by omega)⟩
  ·cases ho;have hdj:=depB_spec d19 hd;have r18:a.eval (.tmp 206)=.pointer (some ⟨sp,0,none⟩):=hW 18 _ _ rfl (hdj 18 (by decide));have r15:a.eval (.tmp 203)=.bool false:=hW 15 _ _ rfl (hdj 15 (by decide));have hrun:(execOp a.eval ⟨some 207,.load 3 (.tmp 206),t19,p19,f19,(some (15,false))⟩).run Tryz.prog X=.ok (.value (.int .i64 (cnt:Int))) X:=by
    have x0:=hc X S;have q0:=tmp_of r18;simp only[execOp,r18];go_simp
   refine wpOp_valueG rfl ((wanted_of rfl rfl rfl (get_of_eval (by omega) r15)).trans rfl) hrun ?_;exact⟨hF.put (by decide) _,S,hW.put (q:=19) rfl (ndr42 _ _ _ _ _ _ _ _ _) (by omega)⟩
  ·cases ho;have hdj:=depB_spec d20 hd;have r15:a.eval (.tmp 203)=.bool false:=hW 15 _ _ rfl (hdj 15 (by decide));have hrun:(execOp a.eval ⟨some 208,.move (.tmp 4),t20,p20,f20,(some (15,false))⟩).run Tryz.prog X=.ok (.value ((.pointer (some ⟨Gp,0,none⟩)))) X:=by
    have q0:=tmp_of E4;simp only[execOp,E4];go_simp
   refine wpOp_valueG rfl ((wanted_of rfl rfl rfl (get_of_eval (by omega) r15)).trans rfl) hrun ?_;exact⟨hF.put (by decide) _,S,hW.put (q:=20) rfl (ndr42 _ _ _ _ _ _ _ _ _) (by omega)⟩
  ·cases ho;have hdj:=depB_spec d21 hd;have r20:a.eval (.tmp 208)=(.pointer (some ⟨Gp,0,none⟩)):=hW 20 _ _ rfl (hdj 20 (by decide));have r15:a.eval (.tmp 203)=.bool false:=hW 15 _ _ rfl (hdj 15 (by decide));have hrun:(execOp a.eval ⟨some 209,.call { callee:=.value (.func 22),args:=#[.tmp 208],argTypes:=#[25]},t21,p21,f21,(some (15,false))⟩).run Tryz.prog X=.ok (.enter 22 #[(.pointer (some ⟨Gp,0,none⟩))]) X:=by
    have q0:=tmp_of r20;simp only[execOp];go_simp
   refine wpOp_callG (R:=fun u X'=>u=.int .i64 (fr:Int)∧St X') rfl ((wanted_of rfl rfl rfl (get_of_eval (by omega) r15)).trans rfl) hrun ((hfr X S).mono fun e X' h=>⟨_,h.1,rfl,h.2⟩) ?_;rintro u X'⟨rfl,hS'⟩;exact⟨hF.put (by decide) _,hS',hW.put (q:=21) rfl (ndr42 _ _ _ _ _ _ _ _ _) (by omega)⟩
  ·cases ho;have hdj:=depB_spec d22 hd;have r19:a.eval (.tmp 207)=.int .i64 (cnt:Int):=hW 19 _ _ rfl (hdj 19 (by decide));have r21:a.eval (.tmp 209)=.int .i64 (fr:Int):=hW 21 _ _ rfl (hdj 21 (by decide));have r15:a.eval (.tmp 203)=.bool false:=hW 15 _ _ rfl (hdj 15 (by decide));have hrun:(execOp a.eval ⟨some 210,.binOp .add 3 (.tmp 207) (.tmp 209) 3,t22,p22,f22,(some (15,false))⟩).run Tryz.prog X=.ok (.value (.int .i64 ((cnt:Int)+(fr:Int)))) X:=by
    have q0:=tmp_of r19;have q1:=tmp_of r21;simp only[execOp,r19,r21];go_simp;rw[IntKind.wrap_i64];omega
   refine wpOp_valueG rfl ((wanted_of rfl rfl rfl (get_of_eval (by omega) r15)).trans rfl) hrun ?_;exact⟨hF.put (by decide) _,S,hW.put (q:=22) rfl (ndr42 _ _ _ _ _ _ _ _ _) (by omega)⟩
  ·cases ho;have hdj:=depB_spec d23 hd;have r22:a.eval (.tmp 210)=.int .i64 ((cnt:Int)+(fr:Int)):=hW 22 _ _ rfl (hdj 22 (by decide));have r15:a.eval (.tmp 203)=.bool false:=hW 15 _ _ rfl (hdj 15 (by decide));have hrun:(execOp a.eval ⟨some 211,.binOp .add 3 (.tmp 210) (.const (.int .i64 1)) 3,t23,p23,f23,(some (15,false))⟩).run Tryz.prog X=.ok (.value (.int .i64 (pg:Int))) X:=by
    have q0:=tmp_of r22;simp only[execOp,r22];go_simp;rw[IntKind.wrap_i64];omega
   refine wpOp_valueG rfl ((wanted_of rfl rfl rfl (get_of_eval (by omega) r15)).trans rfl) hrun ?_;exact⟨hF.put (by decide) _,S,hW.put (q:=23) rfl (ndr42 _ _ _ _ _ _ _ _ _) (by omega)⟩
  ·cases ho;have hdj:=depB_spec d24 hd;have r15:a.eval (.tmp 203)=.bool false:=hW 15 _ _ rfl (hdj 15 (by decide));have hrun:(execOp a.eval ⟨some 212,.move (.tmp 4),t24,p24,f24,(some (15,false))⟩).run Tryz.prog X=.ok (.value ((.pointer (some ⟨Gp,0,none⟩)))) X:=by
    have q0:=tmp_of E4;simp only[execOp,E4];go_simp
   refine wpOp_valueG rfl ((wanted_of rfl rfl rfl (get_of_eval (by omega) r15)).trans rfl) hrun ?_;exact⟨hF.put (by decide) _,S,hW.put (q:=24) rfl (ndr42 _ _ _ _ _ _ _ _ _) (by omega)⟩
  ·cases ho;have hdj:=depB_spec d25 hd;have r24:a.eval (.tmp 212)=(.pointer (some ⟨Gp,0,none⟩)):=hW 24 _ _ rfl (hdj 24 (by decide));have r15:a.eval (.tmp 203)=.bool false:=hW 15 _ _ rfl (hdj 15 (by decide));have hrun:(execOp a.eval ⟨some 213,.call { callee:=.value (.func 23),args:=#[.tmp 212],argTypes:=#[25]},t25,p25,f25,(some (15,false))⟩).run Tryz.prog X=.ok (.enter 23 #[(.pointer (some ⟨Gp,0,none⟩))]) X:=by
    have q0:=tmp_of r24;simp only[execOp];go_simp
   refine wpOp_callG (R:=fun u X'=>u=.int .i64 (pg:Int)∧St X') rfl ((wanted_of rfl rfl rfl (get_of_eval (by omega) r15)).trans rfl) hrun ((hpg X S).mono fun e X' h=>⟨_,h.1,rfl,h.2⟩) ?_;rintro u X'⟨rfl,hS'⟩;exact⟨hF.put (by decide) _,hS',hW.put (q:=25) rfl (ndr42 _ _ _ _ _ _ _ _ _) (by omega)⟩
  ·cases ho;have hdj:=depB_spec d26 hd;have r23:a.eval (.tmp 211)=.int .i64 (pg:Int):=hW 23 _ _ rfl (hdj 23 (by decide));have r25:a.eval (.tmp 213)=.int .i64 (pg:Int):=hW 25 _ _ rfl (hdj 25 (by decide));have r15:a.eval (.tmp 203)=.bool false:=hW 15 _ _ rfl (hdj 15 (by decide));have hrun:(execOp a.eval ⟨some 214,.binOp .neq 3 (.tmp 211) (.tmp 213) 3,t26,p26,f26,(some (15,false))⟩).run Tryz.prog X=.ok (.value (.bool false)) X:=by
    have q0:=tmp_of r23;have q1:=tmp_of r25;simp only[execOp,r23,r25];go_simp
   refine wpOp_valueG rfl ((wanted_of rfl rfl rfl (get_of_eval (by omega) r15)).trans rfl) hrun ?_;exact⟨hF.put (by decide) _,S,hW.put (q:=26) rfl (ndr42 _ _ _ _ _ _ _ _ _) (by omega)⟩
  ·cases ho;have hdj:=depB_spec d27 hd;have r15:a.eval (.tmp 203)=.bool false:=hW 15 _ _ rfl (hdj 15 (by decide));have r26:a.eval (.tmp 214)=.bool false:=hW 26 _ _ rfl (hdj 26 (by decide));have hrun:(execOp a.eval ⟨some 215,.pick (.tmp 203) (.const (.bool true)) (.tmp 214),t27,p27,f27,none⟩).run Tryz.prog X=.ok (.value (.bool false)) X:=by
    have q0:=tmp_of r15;have q1:=tmp_of r26;simp only[execOp,r15,r26];go_simp
   refine wpOp_valueG rfl (wanted_none rfl) hrun ?_;exact⟨hF.put (by decide) _,S,hW.put (q:=27) rfl (ndr42 _ _ _ _ _ _ _ _ _) (by omega)⟩
  ·cases ho
 ·intro L a X hI hall;subst hops;obtain⟨hF,S,hW⟩:=hI;have hs:a.tmps.size=a0.tmps.size:=hF.2.1;have hv:a.eval (.tmp 215)=.bool false:=hW 27 _ _ rfl (hall 27 (by simp));rw[hF.eq [(188,a.eval (.tmp 188)),(189,a.eval (.tmp 189)),(190,a.eval (.tmp 190)),(191,a.eval (.tmp 191)),(192,a.eval (.tmp 192)),(193,a.eval (.tmp 193)),(194,a.eval (.tmp 194)),(195,a.eval (.tmp 195)),(196,a.eval (.tmp 196)),(197,a.eval (.tmp 197)),(198,a.eval (.tmp 198)),(199,a.eval (.tmp 199)),(200,a.eval (.tmp 200)),(201,a.eval (.tmp 201)),(202,a.eval (.tmp 202)),(203,a.eval (.tmp 203)),(204,a.eval (.tmp 204)),(205,a.eval (.tmp 205)),(206,a.eval (.tmp 206)),(207,a.eval (.tmp 207)),(208,a.eval (.tmp 208)),(209,a.eval (.tmp 209)),(210,a.eval (.tmp 210)),(211,a.eval (.tmp 211)),(212,a.eval (.tmp 212)),(213,a.eval (.tmp 213)),(214,a.eval (.tmp 214)),(215,.bool false)] (by simp) (by simp[hv];omega)];exact hQ _ _ _ _ _ _ _ _ _ _ _ _ _ _ _ _ _ _ _ _ _ _ _ _ _ _ _ X S
open Go.Sort
attribute [local go_sem ↓] Go.wp_at_zero Go.wp_at_succ
structure ActQ where
 k:Int
 f:Int
 a:Int
 n:Int
 s:ByteArray
 t:ByteArray
def actQ (x:ActQ):List Value:=[.int .i64 x.k,.int .i64 x.f,.int .i64 x.a,.int .i64 x.n,.string x.s,.string x.t]
def okQ (x:ActQ):Prop:=(-9223372036854775808≤x.k∧x.k≤9223372036854775807)∧(-9223372036854775808≤x.n∧x.n≤9223372036854775807)∧x.s.size≤140737488355328∧x.t.size≤140737488355328
def liesQ (X:World)(sa:Option Addr)(sl:Nat)(A:Nat→ActQ):Prop:=sl=0∨∃b off,sa=some ⟨b,off,none⟩∧b<X.heap.size∧∀i,i<sl→okQ (A i)∧∀j,j<6→X.cell? ⟨b,off+(i*6+j),none⟩=(actQ (A i))[j]?
theorem pk_in (c:Int){n:Int}(hn:0<n):0≤pk c n∧pk c n<n:=⟨Int.emod_nonneg _ (by omega),Int.emod_lt_of_pos _ hn⟩
theorem made_zero (W:World)(F:Nat)(hF:F≤67108864):(Instr.makeSlice 59 (.int .i64 (F:Int)) (.int .i64 (F:Int))).run Tryz.prog W=.ok (.slice (some ⟨W.heap.size,0,none⟩) F F) (W.alloc (.cells (madeCells (Value.int IntKind.u8 0).cells F) 5))∧(convert 59 9 (.slice (some ⟨W.heap.size,0,none⟩) F F)).run Tryz.prog (W.alloc (.cells (madeCells (Value.int IntKind.u8 0).cells F) 5))=.ok (.string ⟨(List.replicate F 0).toArray⟩) (W.alloc (.cells (madeCells (Value.int IntKind.u8 0).cells F) 5)):=by
 obtain⟨i0,hi,hz0,hz1,hz2⟩:=info_parts infoB;have hm:=run_make (P:=Tryz.prog) W 59 5 i0 (.int .u8 0) Tryz.underlying59 hi hz0 .i64 .i64 (F:Int) (F:Int) (by omega) (by omega) (by rw[hz2];omega) (by omega);rw[hz1] at hm;simp only[Int.toNat_natCast,Nat.mul_one] at hm;refine⟨hm,?_⟩;have:=run_convert_bytes_back (P:=Tryz.prog) (W.alloc (.cells (madeCells (Value.int IntKind.u8 0).cells F) 5)) 59 9 5 ⟨W.heap.size,0,none⟩ F (List.replicate F 0) Tryz.underlying59 Tryz.underlying5 Tryz.underlying9 (fun j hj=>by
  have hj':j<F:=by simpa using hj
  rw[Addr.add_lit,Nat.zero_add];simp only[World.cell?,World.alloc_heap_new];have e:(madeCells (Value.int IntKind.u8 0).cells F).toList=List.replicate F (.int .u8 0):=toList_madeCells_one _ _;rw[←Array.getElem?_toList,e,List.getElem?_replicate,if_pos hj'];simp)
 rw[List.length_replicate] at this;exact this
structure FnS (w0 Y:World) (D Gp tb mb rt sp:Nat) (V:PV) (m:Nat) (A:Nat→PgV) (fl:List Nat) (pages d:Nat) (t:T d) (es:List Ent) (i:Nat) (va vb vc:Value):Prop where
 ts:TS Y w0.heap.size D Gp V K00 1 m A fl pages
 shp:Sp Y sp V (nodT d t).length va vb vc ((lvsT d t).map (·.1)) ((lvsT d t).map (·.2)) (es.map (·.1)) true
 tb:TB Y tb Gp rt
 mp:MT Y mb i (es.map (·.1))
 far:¬mb∈V.b.M
 bel:Below w0.heap.size w0 Y
theorem FnS.stay {w0 Y Z:World}{tb mb rt sp d:Nat}{V':PV}{t:T d}{es:List Ent}{va vb vc:Value}(h:FnS w0 Y D Gp tb mb rt sp V m A fl pages d t es i va vb vc)(ht:TS Z w0.heap.size D Gp V' K00 1 m A fl pages)(hs:St2 Y Z w0.heap.size V V'):FnS w0 Z D Gp tb mb rt sp V' m A fl pages d t es i va vb vc:=by
 obtain⟨m2,f2⟩:=h.mp.stay h.far hs;exact⟨ht,h.ts.staySp hs h.shp,h.ts.stayTB hs h.tb,m2,f2,h.bel.trans hs.bel.toBelow⟩
theorem own_curI {lo:Nat}{a:Option Addr}{l:List Nat}(h:w.ownsRow lo 3 1 (.slice a n c) n (intsN l))(h0:0<n):∃g,a=some ⟨g,0,none⟩∧∀j (hj:j<l.length),w.cell? ⟨g,j,none⟩=some (.int .i64 (l[j]:Int)):=by
 have hl:l.length=n:=by have:=h.1;simpa[intsN] using this
 rcases h.2 with⟨_,e⟩|⟨g,cap,cur,e,hb,hg,h1,h2,h3,h4⟩
 ·omega
 ·injection e with e1 e2 e3;subst e1;refine⟨g,rfl,fun j hj=>?_⟩;have hj':j<n:=by omega
  have e1:(cur.toList.take (n*1))[j]?=(intsN l)[j]?:=by rw[h4]
  rw[List.getElem?_take,if_pos (by omega)] at e1;simp only[World.cell?,hg];rw[←Array.getElem?_toList,e1];simp[intsN,hj]
theorem ts_newM {B:Nat}{K:Pgs}{pk:Nat}(h:TS w B D Gp V K pk m A fl pages)(hc:w.heap.size≤c):¬c∈V.b.M:=by
 obtain⟨C,h1,-⟩:=h.po;have p:=h1.pp;have a:=p.log.mp.lt;have b:=p.log.mf.lt;have e:=p.fmap.lt;have f:=p.chm.lt;intro hm;simp only[Bk.M,List.mem_cons,Option.mem_toList] at hm;rcases hm with q|q|q|q|q
 ·omega
 ·omega
 ·omega
 ·omega
 ·have:=(World.ownsRow.lt p.ord c q).2;omega
theorem ltreeshape (sa:Option Addr)(sl sc:Nat)(A:Nat→ActQ)(X:World)(hl:liesQ X sa sl A)(hn:sl≤140737488355328)(hc:sl≤sc)(ha:sa=none→sl=0∧sc=0):Calls Tryz.prog 4 #[.slice sa sl sc] X fun e w'=>e=.returned (.bool true)∧Below X.heap.size X w':=by
 have HL:Hid (liesQ X sa sl A):=hl;have HA:Hid (sa=none→sl=0∧sc=0):=ha;have hmm:=@run_makeMap Tryz.prog;clear hl ha;go_enter Tryz.func4,Tryz.ntmps4;go_wp2_with fail
 refine(cnewD X).mono ?_;rintro e w1⟨rfl,hP1,hb1⟩;have HB1:=hide (hb1);have HO1:=hide (copen_first hP1 hb1.size);clear hP1 hb1;go_wp2_with fail
 refine HO1.out.mono ?_;rintro e w2⟨Gp,V,rfl,hp2,hnf2,hpg2,hfr2,hb2⟩;have ts2:=ts_first hp2 hnf2 hpg2 hfr2;have HB2:=hide (HB1.out.trans hb2);have HC:=hide (cCreate ts2 (by decide) (by decide) (Z:=[]) (List.Perm.refl _));clear hp2 hnf2 hpg2 hfr2 hb2 HO1 HB1 ts2;go_wp2_with fail
 refine HC.out.mono ?_;rintro e w3⟨rt,rfl,V3,A3,fl3,pages3,c1,c2,c3⟩;have H3:=hide (show TS w3 X.heap.size X.heap.size Gp V3 K00 1 4 (updA A3 rt ⟨1,0,[]⟩) fl3 pages3∧Tr (updA A3 rt ⟨1,0,[]⟩) fl3 pages3 [] (d:=0) (⟨rt,0,[]⟩:Lf) []∧pages3≤2∧Below X.heap.size X w3 from⟨c1,tr_new (c3.perm [] (List.Perm.refl _)) (updA_at _ _ _),c3.pgs.2,HB2.out.trans c2.bel.toBelow⟩);clear c1 c2 c3 HC HB2;go_wp2_with fail
 refine(cOpenT Gp rt w3).mono ?_;rintro e w4⟨rfl,k1,k2⟩;have H5:Hid (LwE X (w4.alloc (.map #[] 0)) X.heap.size Gp w3.heap.size w4.heap.size rt 0):=by
  obtain⟨t1,t2,t3,t4⟩:=H3.out;have hb:Below w3.heap.size w3 (w4.alloc (.map #[] 0)):=k2.trans ((Below.refl _ _).alloc (by have:=k2.size;exact this) _);obtain⟨t5,t6⟩:=t1.below hb;refine⟨V3,4,_,fl3,pages3,0,(⟨rt,0,[]⟩:Lf),[],t5,t2,rfl,?_,MT.made w4,?_,Nat.le_refl _,by omega,by omega,t4.trans (hb.mono t4.size),?_⟩
  ·have k1':w4.heap[w3.heap.size]?=_:=k1;exact(heap_alloc_old w4 _ (Array.getElem?_eq_some_iff.1 k1').1).trans k1'
  ·exact ts_newM t1 k2.size
  ·exact Nat.le_trans t4.size k2.size
 clear H3 k1 k2;generalize w3.heap.size=tb at *;go_wp2_with fail
 refine(kshort sa sl sc _ hn hc HA.out).mono ?_;rintro e w5⟨rfl,rfl⟩;obtain⟨W,hW⟩:∃W,w4.alloc (.map #[] 0)=W:=⟨_,rfl⟩;rw[hW] at H5 ⊢;clear hW;generalize w4.heap.size=mb at *;clear HA
 go_upto_block 0 with fail
 go_cut [] (fun wx=>∃i:Nat,i≤250∧Hid (LwE X wx X.heap.size Gp tb mb rt i))
 case first =>
  go_wp2_with fail
  go_loopw [48] (fun x48 Y=>∃i:Nat,i≤min sl 250∧x48=.int .i64 (i:Int)∧Hid (LwE X Y X.heap.size Gp tb mb rt i)) (fun x48 _=>min sl 250-(intOf x48).toNat)
  case atStart=>exact⟨0,Nat.zero_le _,rfl,H5⟩
  case round =>
   clear H5;obtain⟨i,hi,rfl,HE⟩:=hrel;by_cases hlt:i<min sl 250
   ·have hsl:i<sl:=by omega
    have hi2:i<250:=by omega
    rcases HL.out with h0|⟨b,off,rfl,hbX,hE⟩
    ·omega
    have ki:(0:Int)≤(i:Int):=by omega
    have kn:(i:Int)<((min sl 250:Nat):Int):=by omega
    obtain⟨V,m,At,fl,pages,d,t,es,hE0⟩:=HE.out;have hbel:=hE0.bel;have zb:=hbel.size;have hbw:b<wr.heap.size:=by omega
    have g:∀j,j<6→wr.cell? ⟨b,off+(i*6+j),none⟩=(actQ (A i))[j]?:=fun j hj=>(hbel.cell (p:=⟨b,off+(i*6+j),none⟩) hbX).trans ((hE i hsl).2 j hj)
    have d0:wr.cell? ⟨b,off+i * 6,none⟩=some (.int .i64 (A i).k):=g 0 (by decide);have d1:wr.cell? ⟨b,off+i * 6+1,none⟩=some (.int .i64 (A i).f):=g 1 (by decide);have d2:wr.cell? ⟨b,off+i * 6+2,none⟩=some (.int .i64 (A i).a):=g 2 (by decide);have d3:wr.cell? ⟨b,off+i * 6+3,none⟩=some (.int .i64 (A i).n):=g 3 (by decide);have d4:wr.cell? ⟨b,off+i * 6+4,none⟩=some (.string (A i).s):=g 4 (by decide);have d5:wr.cell? ⟨b,off+i * 6+5,none⟩=some (.string (A i).t):=g 5 (by decide);have OK:Hid (okQ (A i)):=(hE i hsl).1;have HT:=hide hE0;clear g hE HL hE0 hbel HE zb;generalize hAi:A i=ai at *;clear hAi;have HT1:=hide (HT.out.below (show Below wr.heap.size wr (wr.alloc (.cells #[.int .i64 ai.k,.int .i64 ai.f,.int .i64 ai.a,.int .i64 ai.n,.string ai.s,.string ai.t] 57)) from((Below.refl _ _).alloc (Nat.le_refl _) _)));have HAB:=hide (heap_alloc_new wr (.cells #[.int .i64 ai.k,.int .i64 ai.f,.int .i64 ai.a,.int .i64 ai.n,.string ai.s,.string ai.t] 57));obtain⟨⟨ok1,ok2⟩,⟨ok3,ok4⟩,ok5,ok6⟩:=OK.out;have hlen:(ai.s++(⟨#[107]⟩:ByteArray)).size=ai.s.size+1:=by rw[ByteArray.size_append];rfl
    have HLN:=hide hlen;clear hlen HT
    go_upto_if 57 with fail
    obtain⟨Wa,hWa⟩:∃Wa,wr.alloc (.cells #[.int .i64 ai.k,.int .i64 ai.f,.int .i64 ai.a,.int .i64 ai.n,.string ai.s,.string ai.t] 57)=Wa:=⟨_,rfl⟩;rw[hWa] at HT1 HAB ⊢;clear hWa d0 d1 d2 d3 d4 d5 hbw
    go_cut [11] (fun x11 wx=>∃key:ByteArray,x11=.string key∧okK key∧wx=Wa)
    case first =>
     by_cases hlong:200<ai.s.size+1
     ·have hl1:(200:Int)<(ai.s.size:Int)+1:=by omega
      go_wp2_with fail
      go_meet
      case rel =>
       refine⟨_,rfl,?_,rfl⟩;unfold okK;rw[ByteArray.size_extract,HLN.out];omega
     ·have hl1:¬(200:Int)<(ai.s.size:Int)+1:=by omega
      go_wp2_with fail
      go_meet
      case rel =>
       refine⟨_,rfl,?_,rfl⟩;unfold okK;rw[HLN.out];omega
    obtain⟨key,rfl,hkey,rfl⟩:=hcut;have HKEY:=hide hkey;clear hkey HLN;have HTI:=hide HT1.out;obtain⟨ab,hab⟩:∃ab,wr.heap.size=ab:=⟨_,rfl⟩;rw[hab] at HAB ⊢;have q0:wc.cell? ⟨ab,0,none⟩=some (.int .i64 ai.k):=by simp[World.cell?,HAB.out]
    have q3:wc.cell? ⟨ab,3,none⟩=some (.int .i64 ai.n):=by simp[World.cell?,HAB.out]
    have q5:wc.cell? ⟨ab,5,none⟩=some (.string ai.t):=by simp[World.cell?,HAB.out]
    have qab:ab<wc.heap.size:=(Array.getElem?_eq_some_iff.1 HAB.out).1;have HABM:Hid (¬ab=mb):=fun e=>by
     obtain⟨es0,ck,hm⟩:=HT1.out.mp.isMap;have:=HAB.out;rw[e,hm] at this;cases this
    clear hab;go_wp2_with fail
    refine(cpickq ai.k 3 _ ⟨ok1,ok2⟩ (by decide) (by decide)).mono ?_;rintro e wp⟨rfl,rfl⟩;by_cases hp2:pk ai.k 3<2
    ·obtain⟨F,hF⟩:∃F:Nat,pk ai.n 2900=(F:Int):=⟨(pk ai.n 2900).toNat,by have:=pk_in ai.n (n:=2900) (by decide);omega⟩;have hFl:F<2900:=by have:=pk_in ai.n (n:=2900) (by decide);omega
     have HPK:=hide (fun(Y:World)=>(show Calls Tryz.prog 18 #[.int .i64 ai.n,.int .i64 2900] Y (fun e w'=>e=.returned (.int .i64 (F:Int))∧w'=Y) from hF ▸ cpickq ai.n 2900 Y ⟨ok3,ok4⟩ (by decide) (by decide)));obtain⟨hm1,hm2⟩:=made_zero wp.drew F (by omega)
     replace hm2:(convert 59 9 (.slice (some ⟨wp.heap.size,0,none⟩) F F)).run Tryz.prog (wp.alloc (.cells (madeCells (Value.int IntKind.u8 0).cells F) 5)).drew=.ok (.string ⟨(List.replicate F 0).toArray⟩) (wp.alloc (.cells (madeCells (Value.int IntKind.u8 0).cells F) 5)).drew:=hm2
     replace hm1:(Instr.makeSlice 59 (.int .i64 (F:Int)) (.int .i64 (F:Int))).run Tryz.prog wp.drew=.ok (.slice (some ⟨wp.heap.size,0,none⟩) F F) (wp.drew.alloc (.cells (madeCells (Value.int IntKind.u8 0).cells F) 5)):=hm1
     have hzt:(⟨(List.replicate F 0).toArray⟩:ByteArray).size=F:=by show(List.replicate F (0:UInt8)).toArray.size=F;simp
     generalize (⟨(List.replicate F 0).toArray⟩:ByteArray)=zt at *;generalize madeCells (Value.int IntKind.u8 0).cells F=zs at *;have hvz:(ai.t++zt).size=ai.t.size+F:=by rw[ByteArray.size_append,hzt]
     have HVZ:=hide hvz;have HZT:=hide hzt;have hsum:zt.size≤2900:=by omega
     clear hvz hF hzt;by_cases hfit:ai.t.size+F≤3000
     ·have HPU:=hide (fun(Y:World) (hb:Below wp.heap.size wp Y)=>kPut (HT1.out.below hb) hi2 key (ai.t++zt) HKEY.out (show(ai.t++zt).size≤3000 by rw[HVZ.out];omega))
      go_upto_region 19 with fail
      go_cut [5] (fun x5 wx=>x5=.int .i64 0∧∃Z,(Instr.mapUpdate 54 (.map (some mb)) (.string key) (.int .i64 1)).run Tryz.prog wx=.ok () Z∧Hid (LwE X Z X.heap.size Gp tb mb rt (i+1)))
      case first =>
       go_region_with (first | (go_at_call 18;refine(HPK.out _).mono ?_;rintro e w2⟨rfl,rfl⟩) | (go_at_call 19;refine(HPU.out _ (((Below.refl _ _).alloc (Nat.le_refl _) _)).drew).mono ?_;rintro e w3⟨rfl,Z,hz1,hz2⟩))
       all_goals
        go_wp2_with fail
        go_meet
        case rel=>exact⟨rfl,Z,hz1,hz2⟩
      obtain⟨rfl,Z,hz1,HZ2⟩:=hcut;clear HT1 HTI HPU HPK hm1 hm2 q0 q3 q5 qab;go_wp2_with fail
      refine⟨⟨i+1,by omega,by go_num,HZ2⟩,?_⟩;simp[intOf];omega
     ·have HPU:=hide (fun(Y:World) (hb:Below wp.heap.size wp Y)=>kPutL (HT1.out.below hb) hi2 key (ai.t++zt) HKEY.out (show 3000<(ai.t++zt).size by rw[HVZ.out];omega) (by rw[HVZ.out];omega));have hlg:(100:Int)<(ai.t.size:Int):=by omega
      go_upto_region 19 with fail
      go_cut [5] (fun x5 wx=>x5=.int .i64 8∧wx.cell? ⟨ab,5,none⟩=some (.string ai.t)∧∃Z,(Instr.mapUpdate 54 (.map (some mb)) (.string key) (.int .i64 1)).run Tryz.prog wx=.ok () Z∧Z.cell? ⟨ab,5,none⟩=some (.string ai.t)∧Hid (Below X.heap.size X Z))
      case first =>
       go_region_with (first | (go_at_call 18;refine(HPK.out _).mono ?_;rintro e w2⟨rfl,rfl⟩) | (go_at_call 19;refine(HPU.out _ (((Below.refl _ _).alloc (Nat.le_refl _) _)).drew).mono ?_;rintro e w3⟨rfl,hb3,Z,hz1,hz3,hz2⟩))
       all_goals
        go_wp2_with fail
        go_meet
        case rel =>
         have q5':w3.cell? ⟨ab,5,none⟩=some (.string ai.t):=(hb3.cell (p:=⟨ab,5,none⟩) (by simp;omega)).trans (((((Below.refl _ _).alloc (Nat.le_refl _) _)).drew.cell (p:=⟨ab,5,none⟩) qab).trans q5);exact⟨rfl,q5',Z,hz1,(World.cell?_of_block (a:=⟨ab,5,none⟩) (hz3 ab (by have:=hb3.size;simp at this;omega) HABM.out)).trans q5',hz2⟩
      obtain⟨rfl,q5',Z,hz1,q5z,HZ2⟩:=hcut;clear HT1 HTI HPU HPK hm1 hm2 q0 q3 q5 qab;go_wp2_with fail
      go_ret;exact⟨rfl,HZ2.out⟩
    ·have hd:=hide (kDel HT1.out hi2 key HKEY.out);clear q0 q3 q5 qab;go_wp2_with fail
     refine hd.out.mono ?_;rintro e w2⟨is,rfl,hz⟩;obtain⟨Z,hz1,hz2⟩:=hz 0;have HZ2:=hide hz2;clear hz hz2 hd HT1 HTI;go_wp2_with fail
     refine⟨⟨i+1,by omega,by go_num,HZ2⟩,?_⟩;simp[intOf];omega
   ·go_wp2_with fail
    go_meet
    case rel=>exact⟨i,by omega,HE⟩
 clear H5 HL;obtain⟨n,hn250,HE⟩:=hcut;obtain⟨V,m,At,fl,pages,d,t,es,hE⟩:=HE.out;have F:=hE.tr.facts;have hlen:=hE.len;have hmm2:=hE.mm;have hpp2:=hE.pp;have hd7:=F.dep (by omega);have hbW:Below wc.heap.size wc (wc.alloc (.cells #[.int .i64 ((0:Nat):Int),(.slice none 0 0),(.slice none 0 0),(.slice none 0 0),.bool true] 64)):=((Below.refl _ _).alloc (Nat.le_refl _) _);have hcnt:=F.cnt;have hlv:=lvs_len d t;have hN:Calls Tryz.prog 21 #[(.pointer (some ⟨wc.heap.size,0,none⟩)),(.pointer (some ⟨Gp,0,none⟩)),.int .i64 (rt:Int),.string ⟨#[]⟩,.string ⟨#[]⟩,.bool true] (wc.alloc (.cells #[.int .i64 ((0:Nat):Int),(.slice none 0 0),(.slice none 0 0),(.slice none 0 0),.bool true] 64)) (nodP (wc.alloc (.cells #[.int .i64 ((0:Nat):Int),(.slice none 0 0),(.slice none 0 0),(.slice none 0 0),.bool true] 64)) wc.heap.size X.heap.size X.heap.size Gp V K00 1 m At fl pages 0 (.slice none 0 0) [] [] [] (d+1) (nodT d t).length (lvsT d t) (entT d t)):=by
  rw[←hE.root];exact nod_root (hE.below hbW).ts (by omega) (Sp.new wc V) hE.bel.size hE.tr (by omega) (by omega) ⟨by simp;omega,by simp;omega,by simp;rw[F.ent];omega⟩
 have HN:=hide hN;have HR:=hide (fun(w2:World) (V':PV) (va' vb' vc':Value) (hn:NoS (wc.alloc (.cells #[.int .i64 ((0:Nat):Int),(.slice none 0 0),(.slice none 0 0),(.slice none 0 0),.bool true] 64)) w2 wc.heap.size X.heap.size X.heap.size Gp V V' K00 1 m At fl pages (0+(nodT d t).length) va' vb' (.slice none 0 0) vc' ([]++(lvsT d t).map (·.1)) ([]++(lvsT d t).map (·.2)) ([]++(entT d t).map (·.1)))=>(show FnS X w2 X.heap.size Gp tb mb rt wc.heap.size V' m At fl pages d t es n va' vb' vc' from by
  have s2:St2 wc w2 X.heap.size V V':=hn.hf.st wc V (hE.ts.below hbW).2 (Nat.le_refl _) hE.ts.lo;obtain⟨m2,f2⟩:=hE.mp.stay hE.far s2;have hs:=hn.shp;rw[Nat.zero_add,List.nil_append,List.nil_append,List.nil_append,F.ent] at hs;exact⟨hn.ts,hs,hE.ts.stayTB s2 hE.tb,m2,f2,hE.bel.trans s2.bel.toBelow⟩))
 have HF:=hide F;have HTR:=hide (And.intro hE.tr hE.root);have HNUM:=hide (show m≤20000∧m+2*(numsT d t).length≤38000∧es.length≤250∧(lvsT d t).length≤100000∧pages≤10000 from⟨by omega,by unfold numsT;rw[List.length_map];omega,by omega,by omega,by omega⟩);clear hE F hlen hmm2 hpp2 hcnt hlv hN HE hd7 hbW;go_wp2_with fail
 refine HN.out.mono ?_;rintro e w2⟨rfl,V',va',vb',vc',hn⟩;have HS:=hide (HR.out w2 V' va' vb' vc' hn);generalize wc.heap.size=sp at *;clear hn HN HR;have hra:=HS.out.shp.ra;have hrb:=HS.out.shp.rb;have hrc:=HS.out.shp.rc;rw[List.length_map] at hra hrb hrc;obtain⟨L,hL⟩:∃L,(lvsT d t).length=L:=⟨_,rfl⟩;rw[hL] at hra hrb;obtain⟨a1,c1,rfl⟩:=own_form hra;obtain⟨a2,c2,rfl⟩:=own_form hrb;obtain⟨a3,c3,rfl⟩:=own_form hrc;obtain⟨e0,e1,e2,e3,e4,e5,e6⟩:=HS.out.shp.cells;have HRA:=hide (And.intro hra (And.intro hrb (And.intro hrc hL)));have hLs:L≤100000:=by have:=HNUM.out.2.2.2.1;omega
 clear hra hrb hrc hL e5
 go_upto_block 2 with fail
 go_cut [] (fun wx=>wx=w2)
 case first =>
  go_wp2_with fail
  go_loopw [107] (fun x107 Y=>∃j:Nat,j≤L∧x107=.int .i64 (j:Int)∧Y=w2) (fun x107 _=>L-(intOf x107).toNat)
  case atStart=>exact⟨0,Nat.zero_le _,rfl,rfl⟩
  case round =>
   obtain⟨j,hj,rfl,rfl⟩:=hrel;by_cases hlt:j<L
   ·obtain⟨hra,hrb,-,hL⟩:=HRA.out;obtain⟨g1,rfl,k1⟩:=own_curI hra (by omega);obtain⟨g2,rfl,k2⟩:=own_curI hrb (by omega);have h1:=lk_at HF.out.lks j (by omega);have l2:=k2 j (by rw[List.length_map];omega);have i0:(0:Int)≤(j:Int):=by omega
    have i2:(j:Int)<(L:Int):=by omega
    by_cases hl1:j+1<L
    ·have l1:=k1 (j+1) (by rw[List.length_map];omega);have e:((lvsT d t).map (·.2))[j]'(by rw[List.length_map];omega)=((lvsT d t).map (·.1))[j+1]'(by rw[List.length_map];omega):=by
      rw[List.getElem_map,List.getElem_map];exact h1.1 (by omega)
     rw[e] at l2;obtain⟨v,hv⟩:∃v,((lvsT d t).map (·.1))[j+1]'(by rw[List.length_map];omega)=v:=⟨_,rfl⟩;rw[hv] at l1 l2;have i1:(j:Int)+1<(L:Int):=by omega
     have i3:(0:Int)≤(j:Int)+1:=by omega
     have i4:((j:Int)+1).toNat=j+1:=by omega
     clear e hv k1 k2 h1 hra hrb hL hj;go_wp2_with fail
     refine⟨⟨j+1,by omega,by go_num,by first | rfl | trivial⟩,?_⟩;simp[intOf];omega
    ·have e:((lvsT d t).map (·.2))[j]'(by rw[List.length_map];omega)=0:=by
      rw[List.getElem_map];exact h1.2 (by omega)
     rw[e] at l2
     replace l2:wr.cell? ⟨g2,j,none⟩=some (.int .i64 0):=l2
     have i1:¬(j:Int)+1<(L:Int):=by omega
     have i3:(j:Int)+1=(L:Int):=by omega
     clear e k1 k2 h1 hra hrb hL hj;go_wp2_with fail
     refine⟨⟨j+1,by omega,by go_num,by first | rfl | trivial⟩,?_⟩;simp[intOf];omega
   ·have i2:¬(j:Int)<(L:Int):=by omega
    go_wp2_with fail
    go_meet
    case rel=>rfl
 subst hcut;clear e0 e1 e2 e3 e4 e6 hLs;obtain⟨Kn,hKn⟩:∃Kn,es.length=Kn:=⟨_,rfl⟩;rw[hKn] at HRA HS;have hKb:Kn≤250:=by have:=HNUM.out.2.2.1;omega
 have HKN:=hide hKn;clear hKn;have d3:=HS.out.shp.cells.2.2.2.1
 go_upto_block 4 with fail
 go_cut [] (fun wx=>Hid (FnS X wx X.heap.size Gp tb mb rt sp V' m At fl pages d t es n (.slice a1 L c1) (.slice a2 L c2) (.slice a3 Kn c3)))
 case first =>
  go_wp2_with fail
  go_loopw [152] (fun x152 Y=>∃j:Nat,j≤Kn∧x152=.int .i64 (j:Int)∧Hid (FnS X Y X.heap.size Gp tb mb rt sp V' m At fl pages d t es n (.slice a1 L c1) (.slice a2 L c2) (.slice a3 Kn c3))) (fun x152 _=>Kn-(intOf x152).toNat)
  case atStart=>exact⟨0,Nat.zero_le _,rfl,HS⟩
  case round =>
   clear HS HRA d3;obtain⟨j,hj,rfl,HY⟩:=hrel;have d3:=HY.out.shp.cells.2.2.2.1;have d6:=HY.out.shp.cells.2.2.2.2.2.2;by_cases hlt:j<Kn
   ·have hrc:=HY.out.shp.rc;rw[List.length_map,HKN.out] at hrc;obtain⟨g3,cap,cur,hva,hbg,hg,hc1,hc2,hc3,-,hc5⟩:=own_cur hrc (by omega);injection hva with hva _ hca;subst hva hca;have hcell:∀i (hi:i<Kn),wr.cell? ⟨g3,i,none⟩=some (.string ((es.map (·.1))[i]'(by rw[List.length_map,HKN.out];exact hi))):=fun i hi=>by
     have:=hc5 i hi;simp only[World.cell?,hg];rw[this,List.getElem?_eq_getElem (by rw[List.length_map,HKN.out];exact hi)];rfl
    have k1:=hcell j hlt;obtain⟨kj,hkj⟩:∃kj,(es.map (·.1))[j]'(by rw[List.length_map,HKN.out];exact hlt)=kj:=⟨_,rfl⟩;rw[hkj] at k1;have hin:kj∈es.map (·.1):=by rw[←hkj];exact List.getElem_mem _
    have hks:kj.size≤maxLen:=by
     obtain⟨q,hq,rfl⟩:=List.mem_map.1 hin;have:=(HF.out.key q hq).2;unfold maxLen;omega
    have hlook:=HY.out.mp.look kj hks hin;have i0:(0:Int)≤(j:Int):=by omega
    have i2:(j:Int)<(Kn:Int):=by omega
    have HYd:=hide (HY.out.stay (HY.out.ts.below (show Below wr.heap.size wr wr.drew from(Below.refl _ _).drew)).1 (HY.out.ts.below (show Below wr.heap.size wr wr.drew from(Below.refl _ _).drew)).2);have hlk2:=HYd.out.mp.look kj hks hin;have d3':=HYd.out.shp.cells.2.2.2.1;have k1':wr.drew.cell? ⟨g3,j,none⟩=some (.string kj):=k1;by_cases hj0:j=0
    ·subst hj0;have hlk3:(Instr.lookup 54 (.map (some mb)) (.string kj) false).run Tryz.prog wr.drew=.ok (.int .i64 1) wr.drew:=hlk2;clear hcell hc5 hg hbg hc1 hc2 hc3 hkj hin hks hrc hj hlook
     go_upto_region 39 with fail
     go_cut [186] (fun x186 wx=>x186=.bool false∧wx=wr.drew)
     case first =>
      go_region
      go_wp2_with fail
      go_meet
      case rel=>exact⟨rfl,rfl⟩
     obtain⟨rfl,rfl⟩:=hcut;go_wp2_with fail
     refine⟨⟨0+1,by omega,by go_num,HYd⟩,?_⟩;simp[intOf];omega
    ·obtain⟨jp,hjp⟩:∃jp,j=jp+1:=⟨j-1,by omega⟩;have k2:=hcell jp (by omega);obtain⟨kp,hkp⟩:∃kp,(es.map (·.1))[jp]'(by rw[List.length_map,HKN.out];omega)=kp:=⟨_,rfl⟩;rw[hkp] at k2;have k2':wr.drew.cell? ⟨g3,jp,none⟩=some (.string kp):=k2;have hsrt:klt kp kj=true:=by
      rw[←hkp,←hkj];exact List.pairwise_iff_getElem.1 HF.out.srt jp j _ _ (by omega)
     have b1:Op.bytesLess kp.toList kj.toList=true:=hsrt;have b2:Op.bytesLess kj.toList kp.toList=false:=klt_asy hsrt;have b3:(kj.toList == kp.toList)=false:=beq_ne hsrt;have hlk3:(Instr.lookup 54 (.map (some mb)) (.string kj) false).run Tryz.prog wr.drew=.ok (.int .i64 1) wr.drew:=hlk2;have i1:(0:Int)<(j:Int):=by omega
     have i3:(j:Int)-1=(jp:Int):=by omega
     have cb:decide ((0:Int)<(j:Int))=true:=decide_eq_true i1;have i4:(0:Int)≤(jp:Int):=by omega
     have i5:(jp:Int)<(Kn:Int):=by omega
     clear hcell hc5 hg hbg hc1 hc2 hc3 hkj hin hks hrc hlook hsrt hkp hjp
     go_upto_region 39 with fail
     go_cut [186] (fun x186 wx=>x186=.bool false∧wx=wr.drew)
     case first =>
      refine r39 sp g3 j jp Kn c3 mb kj kp (fun w=>w=wr.drew) rfl (by rintro _ rfl;exact d3') (by rintro _ rfl;exact k1') (by rintro _ rfl;exact k2') (by rintro _ rfl;exact hlk3) i0 i1 i2 i3 i4 i5 (by omega) b2 b3 (by simp) rfl rfl rfl rfl (by kernel_rfl) (by kernel_rfl) (by kernel_rfl) (by kernel_rfl) (by kernel_rfl) (by kernel_rfl) (by kernel_rfl) (by kernel_rfl) (by kernel_rfl) (by kernel_rfl) (by kernel_rfl) (by kernel_rfl) (by kernel_rfl) (by kernel_rfl) (by kernel_rfl) (by kernel_rfl) (by kernel_rfl) (by kernel_rfl) (by kernel_rfl) (by kernel_rfl) (by kernel_rfl) (by kernel_rfl) (by kernel_rfl) (by kernel_rfl) (by kernel_rfl) (by kernel_rfl) (by kernel_rfl) (by kernel_rfl) (by kernel_rfl) (by kernel_rfl) (by kernel_rfl) ?_;intro u155 u156 u157 u158 u159 u160 u161 u162 u163 u164 u165 u166 u167 u168 u169 u170 u171 u172 u173 u174 u175 u176 u177 u178 u179 u180 u181 u182 u183 u184 u185 X9 hX9;subst hX9;simp only[sets,List.setIfInBounds_toArray,List.set_cons_zero,List.set_cons_succ];go_wp2_with fail
      go_meet
      case rel=>exact⟨rfl,rfl⟩
     obtain⟨rfl,rfl⟩:=hcut;go_wp2_with fail
     refine⟨⟨j+1,by omega,by go_num,HYd⟩,?_⟩;simp[intOf];omega
   ·have i2:¬(j:Int)<(Kn:Int):=by omega
    go_wp2_with fail
    go_meet
    case rel=>exact HY
 have HSS:=hide (show(∃V2,FnS X wc.drew X.heap.size Gp tb mb rt sp V2 m At fl pages d t es n (.slice a1 L c1) (.slice a2 L c2) (.slice a3 Kn c3)) from⟨V',hcut.out.stay (hcut.out.ts.below (show Below wc.heap.size wc wc.drew from(Below.refl _ _).drew)).1 (hcut.out.ts.below (show Below wc.heap.size wc wc.drew from(Below.refl _ _).drew)).2⟩);have hnd:=sort_nodup HF.out.srt;have HND:=hide hnd;clear hcut hnd HRA HS d3
 go_upto_region 42 with fail
 go_cut [215] (fun x215 wx=>x215=.bool false∧Hid (∃V2,FnS X wx X.heap.size Gp tb mb rt sp V2 m At fl pages d t es n (.slice a1 L c1) (.slice a2 L c2) (.slice a3 Kn c3)))
 case first =>
  refine r42 sp Gp Kn c3 mb (nodT d t).length fl.length pages a3 (fun w=>∃V2,FnS X w X.heap.size Gp tb mb rt sp V2 m At fl pages d t es n (.slice a1 L c1) (.slice a2 L c2) (.slice a3 Kn c3)) HSS.out (by rintro w⟨V2,h⟩;exact h.shp.cells.2.2.2.2.1) (by rintro w⟨V2,h⟩;exact h.shp.cells.2.2.2.1) (by rintro w⟨V2,h⟩;exact h.shp.cells.1) (by rintro w⟨V2,h⟩ ty;have:=h.mp.len HND.out ty;rw[List.length_map,HKN.out] at this;exact this) ?hfr ?hpg ?hs1 ?hb1 ?hb2 (by simp) rfl rfl rfl rfl (by kernel_rfl) (by kernel_rfl) (by kernel_rfl) (by kernel_rfl) (by kernel_rfl) (by kernel_rfl) (by kernel_rfl) (by kernel_rfl) (by kernel_rfl) (by kernel_rfl) (by kernel_rfl) (by kernel_rfl) (by kernel_rfl) (by kernel_rfl) (by kernel_rfl) (by kernel_rfl) (by kernel_rfl) (by kernel_rfl) (by kernel_rfl) (by kernel_rfl) (by kernel_rfl) (by kernel_rfl) (by kernel_rfl) (by kernel_rfl) (by kernel_rfl) (by kernel_rfl) (by kernel_rfl) (by kernel_rfl) (by kernel_rfl) ?_
  case hfr =>
   rintro w⟨V2,h⟩;refine(cfreeS h.ts (by have:=HNUM.out.1;omega) (by have:=HF.out.cnt;omega)).mono ?_;rintro e w9⟨rfl,V9,s1,s2⟩;exact⟨rfl,V9,h.stay s1 s2⟩
  case hpg =>
   rintro w⟨V2,h⟩;refine(cpagesT h.ts).mono ?_;rintro e w9⟨rfl,rfl⟩;exact⟨rfl,V2,h⟩
  case hs1=>have:=HF.out.cnt;omega
  case hb1=>have:=HF.out.cnt;have:=HNUM.out.2.2.2.2;omega
  case hb2=>have:=HF.out.cnt;have:=HNUM.out.2.2.2.2;omega
  intro u188 u189 u190 u191 u192 u193 u194 u195 u196 u197 u198 u199 u200 u201 u202 u203 u204 u205 u206 u207 u208 u209 u210 u211 u212 u213 u214 X9 hX9;have HX9:=hide hX9;clear hX9;simp only[sets,List.setIfInBounds_toArray,List.set_cons_zero,List.set_cons_succ];go_wp2_with fail
  go_meet
  case rel=>exact⟨rfl,HX9⟩
 obtain⟨rfl,HD⟩:=hcut;obtain⟨V2,hD⟩:=HD.out;have HDr:=hide (cDrop hD.ts HNUM.out.2.1 HTR.out.1 (HTR.out.2.symm ▸ hD.tb));have HBD:=hide hD.bel;clear hD HD HSS;go_wp2_with fail
 refine HDr.out.mono ?_;rintro e w5⟨rfl,V5,A5,fl5,q1,q2,q3,q4⟩;have hl5:1+fl5.length=pages:=by
  have:=q3.length_eq;rw[List.length_cons,List.length_append,List.length_range,List.length_nil] at this;omega
 have HF5:=hide (cfreeS q1 (by have:=HNUM.out.2.1;omega) (by omega));have HB5:=hide (HBD.out.trans q2.bel.toBelow);have hpi:(fl5.length:Int)+1=(pages:Int):=by omega
 have hpl:fl5.length≤100000:=by have:=HNUM.out.2.2.2.2;omega
 have HPI:=hide hpi;clear q1 q2 q3 q4 HDr HBD hl5 hpi;go_wp2_with fail
 refine HF5.out.mono ?_;rintro e w6⟨rfl,V6,s1,s2⟩;have HP6:=hide (cpagesT s1);have HB6:=hide (HB5.out.trans s2.bel.toBelow);have hpi:=HPI.out;clear s1 s2 HF5 HB5;go_wp2_with fail
 refine HP6.out.mono ?_;rintro e w7⟨rfl,rfl⟩;go_wp2_with fail
 go_ret;exact⟨by first | rfl | simp,HB6.out⟩
open Go.ChangeShapes Go.WideShapes Go.ChangeAt Go.Deep
theorem cellsK:Tryz.prog.cellsOf 57=6:=by kernel_rfl
theorem bytesK:Tryz.prog.bytesOf 57=64:=by kernel_rfl
theorem cIntK:Tryz.prog.cellsOf 3=1:=by kernel_rfl
theorem cStrK:Tryz.prog.cellsOf 9=1:=by kernel_rfl
theorem cell_ltQ {b o:Nat}(h:W.cell? ⟨b,o,none⟩=some v):b<W.heap.size:=by
 rcases Nat.lt_or_ge b W.heap.size with h'|h'
 ·exact h'
 ·simp[World.cell?,Array.getElem?_eq_none h'] at h
theorem trod6 {enc:TypeId×Value→H}{base:Nat}{spare:Nat→Bool}{held:Bool}{t:TypeId}{f0 f1 f2 f3 f4 f5:Field}{fuel:Nat}{cs:List Value}{x:DataW H×List MemPlace}(ht:P.underlying t=some (.struct #[f0,f1,f2,f3,f4,f5]))(h:DataW.trod enc P w base spare held fuel t cs=some x):∃y0 y1 y2 y3 y4 y5 n,x.1=.agg [y0.1,y1.1,y2.1,y3.1,y4.1,y5.1]∧cs.length=P.cellsOf t∧DataW.trod enc P w base spare held n f0.type ((cs.drop f0.offset).take (P.cellsOf f0.type))=some y0∧DataW.trod enc P w base spare held n f1.type ((cs.drop f1.offset).take (P.cellsOf f1.type))=some y1∧DataW.trod enc P w base spare held n f2.type ((cs.drop f2.offset).take (P.cellsOf f2.type))=some y2∧DataW.trod enc P w base spare held n f3.type ((cs.drop f3.offset).take (P.cellsOf f3.type))=some y3∧DataW.trod enc P w base spare held n f4.type ((cs.drop f4.offset).take (P.cellsOf f4.type))=some y4∧DataW.trod enc P w base spare held n f5.type ((cs.drop f5.offset).take (P.cellsOf f5.type))=some y5:=by
 obtain⟨xs,n,_,rfl,hl,hlen,hf⟩:=DataW.trod_struct ht h
 match xs,hlen with
 | [y0,y1,y2,y3,y4,y5],_=>exact⟨y0,y1,y2,y3,y4,y5,n,by simp,hl,by simpa using hf 0 f0 rfl,by simpa using hf 1 f1 rfl,by simpa using hf 2 f2 rfl,by simpa using hf 3 f3 rfl,by simpa using hf 4 f4 rfl,by simpa using hf 5 f5 rfl⟩
theorem weights_all {e:TypeId}:∀{l:List (DataW H)} {d:DataW H},d∈l→n∈d.weights P e→n∈DataW.weightsAll P e l
 | x :: l, d, h, hn => by
  simp only[DataW.weightsAll,List.mem_append];rcases List.mem_cons.1 h with rfl | h
  ·exact .inl hn
  ·exact .inr (weights_all h hn)
def act0Q:ActQ:=⟨0,0,0,0,⟨#[]⟩,⟨#[]⟩⟩
theorem open_actsQ {enc:TypeId×Value→H}{a:Option Addr}{len cap:Nat}{d:DataW H}{p:List MemPlace}(h:DataW.Trod enc Tryz.prog W 0 (fun _=>true) true 53 (.slice a len cap) d p)(hz:∀n∈d.weights Tryz.prog 53,n≤reachBytes):(∃A,liesQ W a len A)∧len≤cap∧(a=none→len=0∧cap=0)∧len≤reachBytes:=by
 haveI:Inhabited ActQ:=⟨act0Q⟩;obtain⟨fuel,hf⟩:=h;rcases open_slice Tryz.underlying53 hf with⟨hcs,hx⟩ | ⟨ad,l,c,m,n,D,Pl,hcs,_,hl,_,hm,hx,hel⟩
 ·simp[Value.cells] at hcs;obtain⟨rfl,rfl,rfl⟩:=hcs;exact⟨⟨fun _=>act0Q,.inl rfl⟩,Nat.le_refl _,fun _=>⟨rfl,rfl⟩,Nat.zero_le _⟩
 ·simp[Value.cells] at hcs;obtain⟨rfl,rfl,rfl⟩:=hcs;simp only[if_true] at hm;simp only[Prod.mk.injEq] at hx;have hd:=hx.1;have hlen0:len≤reachBytes:=by
   have:=hz ((((List.range len).map D).length+((List.range (m-len)).map fun j=>D (len+j)).length)*Tryz.prog.bytesOf 57) (by
    rw[hd];simp only[DataW.weights,Tryz.underlying53];exact List.mem_cons_self ..)
   rw[bytesK] at this;simp only[List.length_map,List.length_range] at this;omega
  have hw:∀i,i<len→∀q∈(D i).weights Tryz.prog 57,q≤reachBytes:=fun i hi q hq=>by
   refine hz q ?_;rw[hd];simp only[DataW.weights,Tryz.underlying53];exact List.mem_cons_of_mem _ (List.mem_append.2 (.inl (weights_all (List.mem_map.2 ⟨i,List.mem_range.2 hi,rfl⟩) hq)))
  have each:∀i,i<len→∃x:ActQ,okQ x∧∀j,j<6→W.cell? (ad.add (i*6+j))=(actQ x)[j]?:=by
   intro i hi;obtain⟨cs',h1,h2⟩:=hel i (by omega);rw[cellsK] at h1;obtain⟨_,hlen,hcell⟩:=World.cells?_some h1;obtain⟨y0,y1,y2,y3,y4,y5,k,e8,_,g0,g1,g2,g3,g4,g5⟩:=trod6 Tryz.underlying57 h2;rw[cIntK] at g0 g1 g2 g3;rw[cStrK] at g4 g5;obtain⟨x0,e0,_,w0⟩:=DataW.trod_int Tryz.underlying3 g0;obtain⟨x1,e1,_,_⟩:=DataW.trod_int Tryz.underlying3 g1;obtain⟨x2,e2,_,_⟩:=DataW.trod_int Tryz.underlying3 g2;obtain⟨x3,e3,_,w3⟩:=DataW.trod_int Tryz.underlying3 g3;obtain⟨x4,e4,d4,_⟩:=DataW.trod_string Tryz.underlying9 g4;obtain⟨x5,e5,d5,_⟩:=DataW.trod_string Tryz.underlying9 g5;have q:∀j,j<6→W.cell? (ad.add (i*6+j))=cs'[j]?:=fun j hj=>by
    have:=hcell j (by omega);rw[add_add] at this;exact this
   match cs',hlen with
   | [v0, v1, v2, v3, v4, v5], _ =>
    simp at e0 e1 e2 e3 e4 e5;subst e0 e1 e2 e3 e4 e5;have s4:x4.size≤reachBytes:=hw i hi _ (by
     have e8':D i=_:=e8;rw[e8'];simp only[DataW.weights,Tryz.underlying57];refine DataW.weights_mem_each (j:=4) (t:=9) rfl rfl _ ?_;rw[d4];simp only[DataW.weights];exact List.mem_singleton.2 (by rw[Array.length_toList];rfl))
    have s5:x5.size≤reachBytes:=hw i hi _ (by
     have e8':D i=_:=e8;rw[e8'];simp only[DataW.weights,Tryz.underlying57];refine DataW.weights_mem_each (j:=5) (t:=9) rfl rfl _ ?_;rw[d5];simp only[DataW.weights];exact List.mem_singleton.2 (by rw[Array.length_toList];rfl))
    unfold reachBytes at s4 s5;exact⟨⟨x0,x1,x2,x3,x4,x5⟩,⟨bounds_i64 w0,bounds_i64 w3,by show x4.size≤_;omega,by show x5.size≤_;omega⟩,q⟩
  obtain⟨A,hA⟩:=choose_lt each;refine⟨⟨A,?_⟩,hl,(fun e=>by cases e),hlen0⟩;by_cases h0:len=0
  ·exact .inl h0
  ·right;obtain⟨b,off,spot⟩:=ad;have h1:=(hA 0 (by omega)).2 0 (by decide);have h1':W.cell? ((⟨b,off,spot⟩:Addr).add 0)=some (.int .i64 (A 0).k):=h1;have hspot:spot=none:=by simpa[Addr.add] using World.cell?_spot h1'
   subst hspot;rw[Addr.add_lit] at h1';refine⟨b,off,rfl,cell_ltQ h1',fun i hi=>⟨(hA i hi).1,fun j hj=>?_⟩⟩;have:=(hA i hi).2 j hj
   rwa [Addr.add_lit] at this
open Go.Joins
theorem ownTuRow:ownKnob Tryz.prog.godebug=none:=by kernel_rfl
theorem laidOutTuRow:laidOutB Tryz.prog=true:=by kernel_rfl
theorem liftedTuRow (os:Os)(started:os.Started)(H:Type)(enc:TypeId×Value→H):ReturnsInHanded {} Tryz.checked os 4 .any (Rows.treeShapeSpec.pre6 enc Tryz.prog Tryz.f4 Rows.treeShapeRow.domain false) (Rows.treeShapeSpec.post enc Tryz.prog Tryz.f4 false true false false):=by
 refine returnsInHanded_of_change_sized (C:=Tryz.checked) ownTuRow started (by kernel_rfl) Tryz.func4
  (ChangeSpec.witness6 (enc:=enc) (C:=Tryz.checked) false ⟨#[],#[.slice none 0 0],[]⟩ 8 (by kernel_rfl) (by kernel_rfl) (by kernel_rfl) (by kernel_rfl)) ?_
 intro W base args ds gs before hval0 hW _ hsz0 _;have hval:∀(j:Nat) t v,Tryz.f4.params[j]?=some t→args[j]?=some v→Value.okWide Tryz.prog W .any base t v:=hval0;have hW':=hW;obtain⟨p,q,hA0,hV,rfl,_,_⟩:=hW;have hA:DataW.TrodAll enc Tryz.prog W 0 (fun _=>true) true Tryz.f4.params.toList args.toList ds p:=hA0;have hsz:(DataW.weightsEach Tryz.prog (Tryz.f4.params.toList++Rows.treeShapeSpec.plain.varTypes Tryz.prog) (ds++gs)).all (·≤reachBytes)=true:=hsz0;rw[Tryz.params4] at hA hval hsz;obtain⟨v0,vs0,d0,ds0,p0,q0,hargs,rfl,rfl,h0,r0⟩:=trodAll_cons hA;obtain⟨rfl,rfl,rfl⟩:=trodAll_nil r0;obtain rfl:args=#[v0]:=by cases args;simp_all
 obtain⟨rfl,rfl⟩:=trodVars_none hV;have lt0:∀x∈p0,x.block<W.heap.size:=by obtain⟨m,hm⟩:=h0;exact DataW.trod_lt m _ _ _ hm
 obtain⟨a0,len0,cap0,rfl⟩:=okWide_slice Tryz.underlying53 (hval 0 53 v0 rfl rfl);have hz:∀n∈d0.weights Tryz.prog 53,n≤reachBytes:=fun n hn=>by
  have:=List.all_eq_true.1 hsz _ (DataW.weights_mem_each (j:=0) (t:=53) rfl rfl n hn);simpa using this
 obtain⟨⟨A,hl⟩,hc,ha,hn⟩:=open_actsQ h0 hz;clear hA0 hval0;refine(ltreeshape a0 len0 cap0 A W hl (by unfold reachBytes at hn;omega) hc ha).mono fun e W' ⟨he,bel⟩=>?_
 subst he;exact⟨_,rfl,_,_,_,[],_,[],hW',trodAll_mk1 (shut_bool Tryz.underlying4 _),(trodAll_cons_mk (Below.trod laidOutTuRow (by kernel_rfl) (of_decide_eq_true (by kernel_rfl)) h0 bel lt0) trodAll_mk0),rfl,bel.frame _,fun h=>by cases h⟩
theorem treeShape_holds:Rows.TreeShapeSaid:=
 OpenClaim.holds_of_wide 4 Tryz.f4 rfl rfl rfl rfl rfl rfl rfl ⟨rfl,rfl,rfl,rfl,rfl⟩ rfl rfl rfl rfl rfl (by kernel_rfl) Tryz.func4 (by kernel_rfl)
  (of_decide_eq_true (by kernel_rfl)) (by unfold Func.isWrapper;first | (rw[if_pos (by decide +kernel)];kernel_rfl) | (rw[if_neg (by decide +kernel)];exact⟨rfl,rfl⟩))
  (fun os started H enc _=>liftedTuRow os started H enc)
#print axioms treeShape_holds
end Go.Proofs.YtiaibgfhigdgdaaGreat
