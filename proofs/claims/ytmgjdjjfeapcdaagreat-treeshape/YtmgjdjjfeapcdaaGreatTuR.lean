/- relstorekeep.TreeShape: two regions whose order is open -/
import Derived.Test.YtmgjdjjfeapcdaaGreatTuF
import Derived.Test.YtmgjdjjfeapcdaaGreatTuM
import Derived.Test.YtmgjdjjfeapcdaaGreatMgAF
namespace Go.Proofs.YtmgjdjjfeapcdaaGreat
open Go.RowKit Go.Lib Go.Maps
section
variable {P:Program} {ops:Array Oper} {Q:Exit→Act→World→Prop}
theorem wanted_of {o oj:Oper} {a:Act} {j s:Nat} {want b:Bool} (hg:o.guard=some (j,want)) (hj:ops[j]? = some oj) (hd:oj.dst=some s) (ht:a.tmps[s]? = some (.bool b)):Region.wanted o (yielded ops a.tmps)=(b == want):=by
  have hy:yielded ops a.tmps j=some b:=by simp [yielded,hj,hd,ht]
  simp only [Region.wanted,hg,hy]
  cases b <;> cases want <;> rfl
theorem wanted_undef {o oj:Oper} {a:Act} {j s:Nat} {want:Bool} (hg:o.guard=some (j,want)) (hj:ops[j]? = some oj) (hd:oj.dst=some s) (ht:a.tmps[s]? = some undef):Region.wanted o (yielded ops a.tmps)=false:=by
  have hy:yielded ops a.tmps j=none:=by simp [yielded,hj,hd,ht,undef]
  simp only [Region.wanted,hg,hy]
  cases want <;> rfl
theorem wanted_none {o:Oper} {a:Act} (hg:o.guard=none):Region.wanted o (yielded ops a.tmps)=true:=by simp only [Region.wanted,hg]
theorem wpOp_valueG {i:Nat} {o:Oper} {K:Act→World→Prop} {a:Act} {X X':World} {v:Value} (ho:ops[i]? = some o) (hw:Region.wanted o (yielded ops a.tmps)=true) (hr:(execOp a.eval o).run P X=.ok (.value v) X') (h:K (a.put o.dst v) X'):wpOp P ops Q i K a X:=by
  unfold wpOp
  simp only [ho,hw,if_true,Oper.wp,hr,Oper.upon]
  exact .inl h
theorem wpOp_skipG {i:Nat} {o:Oper} {K:Act→World→Prop} {a:Act} {X:World} (ho:ops[i]? = some o) (hw:Region.wanted o (yielded ops a.tmps)=false) (h:K (a.put o.dst undef) X):wpOp P ops Q i K a X:=by
  unfold wpOp
  simp only [ho,hw,Bool.false_eq_true,if_false]
  exact h
theorem wpOp_callG {i:Nat} {o:Oper} {K:Act→World→Prop} {a:Act} {X X':World} {f:FuncId} {args:Array Value} {R:Value→World→Prop} (ho:ops[i]? = some o) (hw:Region.wanted o (yielded ops a.tmps)=true) (hr:(execOp a.eval o).run P X=.ok (.enter f args) X')
    (hc:Calls P f args X' fun e w'=>∃ v,e=.returned v∧R v w') (h:∀ v w',R v w'→K (a.put o.dst v) w'):wpOp P ops Q i K a X:=by
  unfold wpOp
  simp only [ho,hw,if_true,Oper.wp,hr,Oper.upon]
  refine .inl (hc.mono fun e w' he=>?_)
  obtain ⟨v,rfl,hR⟩:=he
  exact h v w' hR
end
theorem tmp_of {a:Act} {i:Nat} {v:Value} (h:a.eval (.tmp i)=v):a.tmps[i]?.getD undef=v:=by
  rw [← h]
  simp only [Act.eval,Array.getD_eq_getD_getElem?]
/- what the slots of a region hold, as a table -/
def SlT (tab:List (Nat × Value)) (L:Nat→Bool) (a:Act):Prop:=∀ i s v,tab[i]? = some (s,v)→L i=true→a.eval (.tmp s)=v
theorem SlT.put {tab:List (Nat × Value)} {L:Nat→Bool} {a:Act} {q s:Nat} {v:Value} (h:SlT tab L a) (hq:tab[q]? = some (s,v)) (hn:(tab.map (·.1)).Nodup) (hs:s<a.tmps.size):SlT tab (upd L q) (a.put (some s) v):=by
  intro i s' v' hi hL
  by_cases e:i=q
  · subst e
    rw [hq] at hi
    injection hi with hi
    injection hi with h1 h2
    subst h1 h2
    exact eval_put_same hs _
  · have hne:¬ s=s':=fun e2=>e (by
      have hl:i<(tab.map (·.1)).length:=by
        rw [List.length_map]
        exact (List.getElem?_eq_some_iff.1 hi).1
      refine (List.getElem?_inj hl hn).1 ?_
      rw [List.getElem?_map,List.getElem?_map,hi,hq,e2]
      rfl)
    rw [eval_put_ne hne]
    exact h i s' v' hi (by rw [upd_ne _ e] at hL;exact hL)
def Wr39 (sp g j jp Kn c3 mb:Nat) (kj kp:ByteArray):List (Nat × Value):=[(155,.map (some mb)),(156,(.pointer (some ⟨sp,0,none⟩))),(157,(.pointer (some ⟨sp,0,none⟩))),(158,.pointer (some ⟨sp,3,none⟩)),(159,.slice (some ⟨g,0,none⟩) Kn c3),(160,.int .i64 (j:Int)),(161,.pointer (some ⟨g,j,none⟩)),(162,.string kj),(163,.int .i64 1),(164,.bool false),(165,.bool false),(166,.int .i64 (j:Int)),(167,.bool true),(168,.bool true),(169,(.pointer (some ⟨sp,0,none⟩))),(170,(.pointer (some ⟨sp,0,none⟩))),(171,.pointer (some ⟨sp,3,none⟩)),(172,.slice (some ⟨g,0,none⟩) Kn c3),(173,.int .i64 (j:Int)),(174,.pointer (some ⟨g,j,none⟩)),(175,.string kj),(176,(.pointer (some ⟨sp,0,none⟩))),(177,(.pointer (some ⟨sp,0,none⟩))),(178,.pointer (some ⟨sp,3,none⟩)),(179,.slice (some ⟨g,0,none⟩) Kn c3),(180,.int .i64 (j:Int)),(181,.int .i64 (jp:Int)),(182,.pointer (some ⟨g,jp,none⟩)),(183,.string kp),(184,.bool false),(185,.bool false),(186,.bool false)]
theorem ndr39 (sp g j jp Kn c3 mb:Nat) (kj kp:ByteArray):((Wr39 sp g j jp Kn c3 mb kj kp).map (·.1)).Nodup:=by
  show [155,156,157,158,159,160,161,162,163,164,165,166,167,168,169,170,171,172,173,174,175,176,177,178,179,180,181,182,183,184,185,186].Nodup
  decide
def Ir39 (sp g j jp Kn c3 mb:Nat) (kj kp:ByteArray) (St:World→Prop) (a0:Act) (L:Nat→Bool) (a:Act) (X:World):Prop:=Fr [155,156,157,158,159,160,161,162,163,164,165,166,167,168,169,170,171,172,173,174,175,176,177,178,179,180,181,182,183,184,185,186] a0 a∧St X∧SlT (Wr39 sp g j jp Kn c3 mb kj kp) L a
set_option maxRecDepth 20000 in
set_option maxHeartbeats 4000000 in
theorem r39 {Q:Exit→Act→World→Prop} {ops:Array Oper} {id:Nat} {a0:Act} {wc:World} (sp g j jp Kn c3 mb:Nat) (kj kp:ByteArray) (St:World→Prop) (h0:St wc.drew)
    (h3:∀ w,St w→w.cell? ⟨sp,3,none⟩=some (.slice (some ⟨g,0,none⟩) Kn c3)) (hj:∀ w,St w→w.cell? ⟨g,j,none⟩=some (.string kj)) (hp:∀ w,St w→w.cell? ⟨g,jp,none⟩=some (.string kp)) (hlk:∀ w,St w→(Instr.lookup 54 (.map (some mb)) (.string kj) false).run Tryz.prog w=.ok (.int .i64 1) w)
    (i0:(0:Int)≤(j:Int)) (i1:(0:Int)<(j:Int)) (i2:(j:Int)<(Kn:Int)) (i3:(j:Int) - 1=(jp:Int)) (i4:(0:Int)≤(jp:Int)) (i5:(jp:Int)<(Kn:Int)) (ib:j≤1000)
    (b2:Op.bytesLess kj.toList kp.toList=false) (b3:(kj.toList == kp.toList)=false)
    (hsz:186<a0.tmps.size) (e8:a0.eval (.tmp 8)=.map (some mb)) (e12:a0.eval (.tmp 12)=(.pointer (some ⟨sp,0,none⟩))) (e15:a0.eval (.tmp 15)=.int .i64 (j:Int))
    {t0 t1 t2 t3 t4 t5 t6 t7 t8 t9 t10 t11 t12 t13 t14 t15 t16 t17 t18 t19 t20 t21 t22 t23 t24 t25 t26 t27 t28 t29 t30 t31:TypeId} {p0 p1 p2 p3 p4 p5 p6 p7 p8 p9 p10 p11 p12 p13 p14 p15 p16 p17 p18 p19 p20 p21 p22 p23 p24 p25 p26 p27 p28 p29 p30 p31:String} {f0 f1 f2 f3 f4 f5 f6 f7 f8 f9 f10 f11 f12 f13 f14 f15 f16 f17 f18 f19 f20 f21 f22 f23 f24 f25 f26 f27 f28 f29 f30 f31:Array Edge}
    (hops:ops=#[⟨some 155,.move (.tmp 8),t0,p0,f0,none⟩,⟨some 156,.move (.tmp 12),t1,p1,f1,none⟩,⟨some 157,.nilCheck (.tmp 156),t2,p2,f2,none⟩,⟨some 158,.fieldAddr 64 (.tmp 157) 3,t3,p3,f3,none⟩,⟨some 159,.load 43 (.tmp 158),t4,p4,f4,none⟩,⟨some 160,.move (.tmp 15),t5,p5,f5,none⟩,⟨some 161,.indexAddr 43 (.tmp 159) (.tmp 160),t6,p6,f6,none⟩,⟨some 162,.load 9 (.tmp 161),t7,p7,f7,none⟩,⟨some 163,.lookup 54 (.tmp 155) (.tmp 162) false,t8,p8,f8,none⟩,⟨some 164,.binOp .eql 3 (.tmp 163) (.const (.int .i64 0)) 3,t9,p9,f9,none⟩,⟨some 165,.move (.tmp 164),t10,p10,f10,none⟩,⟨some 166,.move (.tmp 15),t11,p11,f11,(some (10,false))⟩,⟨some 167,.binOp .gtr 3 (.tmp 166) (.const (.int .i64 0)) 3,t12,p12,f12,(some (10,false))⟩,⟨some 168,.move (.tmp 167),t13,p13,f13,(some (10,false))⟩,⟨some 169,.move (.tmp 12),t14,p14,f14,(some (13,true))⟩,⟨some 170,.nilCheck (.tmp 169),t15,p15,f15,(some (13,true))⟩,⟨some 171,.fieldAddr 64 (.tmp 170) 3,t16,p16,f16,(some (13,true))⟩,⟨some 172,.load 43 (.tmp 171),t17,p17,f17,(some (13,true))⟩,⟨some 173,.move (.tmp 15),t18,p18,f18,(some (13,true))⟩,⟨some 174,.indexAddr 43 (.tmp 172) (.tmp 173),t19,p19,f19,(some (13,true))⟩,⟨some 175,.load 9 (.tmp 174),t20,p20,f20,(some (13,true))⟩,⟨some 176,.move (.tmp 12),t21,p21,f21,(some (13,true))⟩,⟨some 177,.nilCheck (.tmp 176),t22,p22,f22,(some (13,true))⟩,⟨some 178,.fieldAddr 64 (.tmp 177) 3,t23,p23,f23,(some (13,true))⟩,⟨some 179,.load 43 (.tmp 178),t24,p24,f24,(some (13,true))⟩,⟨some 180,.move (.tmp 15),t25,p25,f25,(some (13,true))⟩,⟨some 181,.binOp .sub 3 (.tmp 180) (.const (.int .i64 1)) 3,t26,p26,f26,(some (13,true))⟩,⟨some 182,.indexAddr 43 (.tmp 179) (.tmp 181),t27,p27,f27,(some (13,true))⟩,⟨some 183,.load 9 (.tmp 182),t28,p28,f28,(some (13,true))⟩,⟨some 184,.binOp .leq 9 (.tmp 175) (.tmp 183) 9,t29,p29,f29,(some (13,true))⟩,⟨some 185,.pick (.tmp 168) (.tmp 184) (.const (.bool false)),t30,p30,f30,(some (10,false))⟩,⟨some 186,.pick (.tmp 165) (.const (.bool true)) (.tmp 185),t31,p31,f31,none⟩])
    (hb:backB ops=true) (d2:depB f2 [1]=true) (d3:depB f3 [2]=true) (d4:depB f4 [3]=true) (d6:depB f6 [4,5]=true) (d7:depB f7 [6]=true) (d8:depB f8 [0,7]=true) (d9:depB f9 [8]=true) (d10:depB f10 [9]=true) (d11:depB f11 [10]=true) (d12:depB f12 [11,10]=true) (d13:depB f13 [12,10]=true) (d14:depB f14 [13]=true) (d15:depB f15 [14,13]=true) (d16:depB f16 [15,13]=true) (d17:depB f17 [16,13]=true) (d18:depB f18 [13]=true) (d19:depB f19 [17,18,13]=true) (d20:depB f20 [19,13]=true) (d21:depB f21 [13]=true) (d22:depB f22 [21,13]=true) (d23:depB f23 [22,13]=true) (d24:depB f24 [23,13]=true) (d25:depB f25 [13]=true) (d26:depB f26 [25,13]=true) (d27:depB f27 [24,26,13]=true) (d28:depB f28 [27,13]=true) (d29:depB f29 [20,28,13]=true) (d30:depB f30 [13,29,10]=true) (d31:depB f31 [10,30]=true) (hm:Tryz.prog.follows .mixedOrders=true)
    (hQ:∀ (u155 u156 u157 u158 u159 u160 u161 u162 u163 u164 u165 u166 u167 u168 u169 u170 u171 u172 u173 u174 u175 u176 u177 u178 u179 u180 u181 u182 u183 u184 u185:Value) X,St X→Q .normal ⟨sets [(155,u155),(156,u156),(157,u157),(158,u158),(159,u159),(160,u160),(161,u161),(162,u162),(163,u163),(164,u164),(165,u165),(166,u166),(167,u167),(168,u168),(169,u169),(170,u170),(171,u171),(172,u172),(173,u173),(174,u174),(175,u175),(176,u176),(177,u177),(178,u178),(179,u179),(180,u180),(181,u181),(182,u182),(183,u183),(184,u184),(185,u185),(186,.bool false)] a0.tmps,a0.defers⟩ X) :
    (Code.region id ops true).wp Tryz.prog Q a0 wc:=by
  refine wp_region_inv hm (Ir39 sp g j jp Kn c3 mb kj kp St) (backB_spec hb) ?_ ?_ ?_
  · refine ⟨Fr.refl _ _,h0,?_⟩
    exact fun _ _ _ _ h=>absurd h Bool.false_ne_true
  · intro L a X hI q o ho hL hd
    obtain ⟨hF,S,hW⟩:=hI
    have hs:a.tmps.size=a0.tmps.size:=hF.2.1
    have E8:a.eval (.tmp 8)=.map (some mb):=by rw [hF.eval (by decide),e8]
    have E12:a.eval (.tmp 12)=(.pointer (some ⟨sp,0,none⟩)):=by rw [hF.eval (by decide),e12]
    have E15:a.eval (.tmp 15)=.int .i64 (j:Int):=by rw [hF.eval (by decide),e15]
    subst hops
    obtain _ | _ | _ | _ | _ | _ | _ | _ | _ | _ | _ | _ | _ | _ | _ | _ | _ | _ | _ | _ | _ | _ | _ | _ | _ | _ | _ | _ | _ | _ | _ | _ | q:=q
    · cases ho
      have hrun:(execOp a.eval ⟨some 155,.move (.tmp 8),t0,p0,f0,none⟩).run Tryz.prog X=.ok (.value (.map (some mb))) X:=by
        have q0:=tmp_of E8
        simp only [execOp,E8]
        go_simp
      refine wpOp_valueG rfl (wanted_none rfl) hrun ?_
      exact ⟨hF.put (by decide) _,S,hW.put (q:=0) rfl (ndr39 _ _ _ _ _ _ _ _ _) (by omega)⟩
    · cases ho
      have hrun:(execOp a.eval ⟨some 156,.move (.tmp 12),t1,p1,f1,none⟩).run Tryz.prog X=.ok (.value ((.pointer (some ⟨sp,0,none⟩)))) X:=by
        have q0:=tmp_of E12
        simp only [execOp,E12]
        go_simp
      refine wpOp_valueG rfl (wanted_none rfl) hrun ?_
      exact ⟨hF.put (by decide) _,S,hW.put (q:=1) rfl (ndr39 _ _ _ _ _ _ _ _ _) (by omega)⟩
    · cases ho
      have hdj:=depB_spec d2 hd
      have r1:a.eval (.tmp 156)=(.pointer (some ⟨sp,0,none⟩)):=hW 1 _ _ rfl (hdj 1 (by decide))
      have hrun:(execOp a.eval ⟨some 157,.nilCheck (.tmp 156),t2,p2,f2,none⟩).run Tryz.prog X=.ok (.value ((.pointer (some ⟨sp,0,none⟩)))) X:=by
        have q0:=tmp_of r1
        simp only [execOp,r1]
        go_simp
      refine wpOp_valueG rfl (wanted_none rfl) hrun ?_
      exact ⟨hF.put (by decide) _,S,hW.put (q:=2) rfl (ndr39 _ _ _ _ _ _ _ _ _) (by omega)⟩
    · cases ho
      have hdj:=depB_spec d3 hd
      have r2:a.eval (.tmp 157)=(.pointer (some ⟨sp,0,none⟩)):=hW 2 _ _ rfl (hdj 2 (by decide))
      have hrun:(execOp a.eval ⟨some 158,.fieldAddr 64 (.tmp 157) 3,t3,p3,f3,none⟩).run Tryz.prog X=.ok (.value (.pointer (some ⟨sp,3,none⟩))) X:=by
        have q0:=tmp_of r2
        simp only [execOp,r2]
        go_simp
      refine wpOp_valueG rfl (wanted_none rfl) hrun ?_
      exact ⟨hF.put (by decide) _,S,hW.put (q:=3) rfl (ndr39 _ _ _ _ _ _ _ _ _) (by omega)⟩
    · cases ho
      have hdj:=depB_spec d4 hd
      have r3:a.eval (.tmp 158)=.pointer (some ⟨sp,3,none⟩):=hW 3 _ _ rfl (hdj 3 (by decide))
      have hrun:(execOp a.eval ⟨some 159,.load 43 (.tmp 158),t4,p4,f4,none⟩).run Tryz.prog X=.ok (.value (.slice (some ⟨g,0,none⟩) Kn c3)) X:=by
        have x0:=h3 X S
        have q0:=tmp_of r3
        simp only [execOp,r3]
        go_simp
      refine wpOp_valueG rfl (wanted_none rfl) hrun ?_
      exact ⟨hF.put (by decide) _,S,hW.put (q:=4) rfl (ndr39 _ _ _ _ _ _ _ _ _) (by omega)⟩
    · cases ho
      have hrun:(execOp a.eval ⟨some 160,.move (.tmp 15),t5,p5,f5,none⟩).run Tryz.prog X=.ok (.value (.int .i64 (j:Int))) X:=by
        have q0:=tmp_of E15
        simp only [execOp,E15]
        go_simp
      refine wpOp_valueG rfl (wanted_none rfl) hrun ?_
      exact ⟨hF.put (by decide) _,S,hW.put (q:=5) rfl (ndr39 _ _ _ _ _ _ _ _ _) (by omega)⟩
    · cases ho
      have hdj:=depB_spec d6 hd
      have r4:a.eval (.tmp 159)=.slice (some ⟨g,0,none⟩) Kn c3:=hW 4 _ _ rfl (hdj 4 (by decide))
      have r5:a.eval (.tmp 160)=.int .i64 (j:Int):=hW 5 _ _ rfl (hdj 5 (by decide))
      have hrun:(execOp a.eval ⟨some 161,.indexAddr 43 (.tmp 159) (.tmp 160),t6,p6,f6,none⟩).run Tryz.prog X=.ok (.value (.pointer (some ⟨g,j,none⟩))) X:=by
        have q0:=tmp_of r4
        have q1:=tmp_of r5
        simp only [execOp,r4,r5]
        go_simp
      refine wpOp_valueG rfl (wanted_none rfl) hrun ?_
      exact ⟨hF.put (by decide) _,S,hW.put (q:=6) rfl (ndr39 _ _ _ _ _ _ _ _ _) (by omega)⟩
    · cases ho
      have hdj:=depB_spec d7 hd
      have r6:a.eval (.tmp 161)=.pointer (some ⟨g,j,none⟩):=hW 6 _ _ rfl (hdj 6 (by decide))
      have hrun:(execOp a.eval ⟨some 162,.load 9 (.tmp 161),t7,p7,f7,none⟩).run Tryz.prog X=.ok (.value (.string kj)) X:=by
        have x0:=hj X S
        have q0:=tmp_of r6
        simp only [execOp,r6]
        go_simp
      refine wpOp_valueG rfl (wanted_none rfl) hrun ?_
      exact ⟨hF.put (by decide) _,S,hW.put (q:=7) rfl (ndr39 _ _ _ _ _ _ _ _ _) (by omega)⟩
    · cases ho
      have hdj:=depB_spec d8 hd
      have r0:a.eval (.tmp 155)=.map (some mb):=hW 0 _ _ rfl (hdj 0 (by decide))
      have r7:a.eval (.tmp 162)=.string kj:=hW 7 _ _ rfl (hdj 7 (by decide))
      have hrun:(execOp a.eval ⟨some 163,.lookup 54 (.tmp 155) (.tmp 162) false,t8,p8,f8,none⟩).run Tryz.prog X=.ok (.value (.int .i64 1)) X:=by
        have x0:=hlk X S
        have q0:=tmp_of r0
        have q1:=tmp_of r7
        simp only [execOp,r0,r7]
        go_simp
      refine wpOp_valueG rfl (wanted_none rfl) hrun ?_
      exact ⟨hF.put (by decide) _,S,hW.put (q:=8) rfl (ndr39 _ _ _ _ _ _ _ _ _) (by omega)⟩
    · cases ho
      have hdj:=depB_spec d9 hd
      have r8:a.eval (.tmp 163)=.int .i64 1:=hW 8 _ _ rfl (hdj 8 (by decide))
      have hrun:(execOp a.eval ⟨some 164,.binOp .eql 3 (.tmp 163) (.const (.int .i64 0)) 3,t9,p9,f9,none⟩).run Tryz.prog X=.ok (.value (.bool false)) X:=by
        have q0:=tmp_of r8
        simp only [execOp,r8]
        go_simp
      refine wpOp_valueG rfl (wanted_none rfl) hrun ?_
      exact ⟨hF.put (by decide) _,S,hW.put (q:=9) rfl (ndr39 _ _ _ _ _ _ _ _ _) (by omega)⟩
    · cases ho
      have hdj:=depB_spec d10 hd
      have r9:a.eval (.tmp 164)=.bool false:=hW 9 _ _ rfl (hdj 9 (by decide))
      have hrun:(execOp a.eval ⟨some 165,.move (.tmp 164),t10,p10,f10,none⟩).run Tryz.prog X=.ok (.value (.bool false)) X:=by
        have q0:=tmp_of r9
        simp only [execOp,r9]
        go_simp
      refine wpOp_valueG rfl (wanted_none rfl) hrun ?_
      exact ⟨hF.put (by decide) _,S,hW.put (q:=10) rfl (ndr39 _ _ _ _ _ _ _ _ _) (by omega)⟩
    · cases ho
      have hdj:=depB_spec d11 hd
      have r10:a.eval (.tmp 165)=.bool false:=hW 10 _ _ rfl (hdj 10 (by decide))
      have hrun:(execOp a.eval ⟨some 166,.move (.tmp 15),t11,p11,f11,(some (10,false))⟩).run Tryz.prog X=.ok (.value (.int .i64 (j:Int))) X:=by
        have q0:=tmp_of E15
        simp only [execOp,E15]
        go_simp
      refine wpOp_valueG rfl ((wanted_of rfl rfl rfl (get_of_eval (by omega) r10)).trans rfl) hrun ?_
      exact ⟨hF.put (by decide) _,S,hW.put (q:=11) rfl (ndr39 _ _ _ _ _ _ _ _ _) (by omega)⟩
    · cases ho
      have hdj:=depB_spec d12 hd
      have r11:a.eval (.tmp 166)=.int .i64 (j:Int):=hW 11 _ _ rfl (hdj 11 (by decide))
      have r10:a.eval (.tmp 165)=.bool false:=hW 10 _ _ rfl (hdj 10 (by decide))
      have hrun:(execOp a.eval ⟨some 167,.binOp .gtr 3 (.tmp 166) (.const (.int .i64 0)) 3,t12,p12,f12,(some (10,false))⟩).run Tryz.prog X=.ok (.value (.bool true)) X:=by
        have q0:=tmp_of r11
        simp only [execOp,r11]
        go_simp
        omega
      refine wpOp_valueG rfl ((wanted_of rfl rfl rfl (get_of_eval (by omega) r10)).trans rfl) hrun ?_
      exact ⟨hF.put (by decide) _,S,hW.put (q:=12) rfl (ndr39 _ _ _ _ _ _ _ _ _) (by omega)⟩
    · cases ho
      have hdj:=depB_spec d13 hd
      have r12:a.eval (.tmp 167)=.bool true:=hW 12 _ _ rfl (hdj 12 (by decide))
      have r10:a.eval (.tmp 165)=.bool false:=hW 10 _ _ rfl (hdj 10 (by decide))
      have hrun:(execOp a.eval ⟨some 168,.move (.tmp 167),t13,p13,f13,(some (10,false))⟩).run Tryz.prog X=.ok (.value (.bool true)) X:=by
        have q0:=tmp_of r12
        simp only [execOp,r12]
        go_simp
      refine wpOp_valueG rfl ((wanted_of rfl rfl rfl (get_of_eval (by omega) r10)).trans rfl) hrun ?_
      exact ⟨hF.put (by decide) _,S,hW.put (q:=13) rfl (ndr39 _ _ _ _ _ _ _ _ _) (by omega)⟩
    · cases ho
      have hdj:=depB_spec d14 hd
      have r13:a.eval (.tmp 168)=.bool true:=hW 13 _ _ rfl (hdj 13 (by decide))
      have hrun:(execOp a.eval ⟨some 169,.move (.tmp 12),t14,p14,f14,(some (13,true))⟩).run Tryz.prog X=.ok (.value ((.pointer (some ⟨sp,0,none⟩)))) X:=by
        have q0:=tmp_of E12
        simp only [execOp,E12]
        go_simp
      refine wpOp_valueG rfl ((wanted_of rfl rfl rfl (get_of_eval (by omega) r13)).trans rfl) hrun ?_
      exact ⟨hF.put (by decide) _,S,hW.put (q:=14) rfl (ndr39 _ _ _ _ _ _ _ _ _) (by omega)⟩
    · cases ho
      have hdj:=depB_spec d15 hd
      have r14:a.eval (.tmp 169)=(.pointer (some ⟨sp,0,none⟩)):=hW 14 _ _ rfl (hdj 14 (by decide))
      have r13:a.eval (.tmp 168)=.bool true:=hW 13 _ _ rfl (hdj 13 (by decide))
      have hrun:(execOp a.eval ⟨some 170,.nilCheck (.tmp 169),t15,p15,f15,(some (13,true))⟩).run Tryz.prog X=.ok (.value ((.pointer (some ⟨sp,0,none⟩)))) X:=by
        have q0:=tmp_of r14
        simp only [execOp,r14]
        go_simp
      refine wpOp_valueG rfl ((wanted_of rfl rfl rfl (get_of_eval (by omega) r13)).trans rfl) hrun ?_
      exact ⟨hF.put (by decide) _,S,hW.put (q:=15) rfl (ndr39 _ _ _ _ _ _ _ _ _) (by omega)⟩
    · cases ho
      have hdj:=depB_spec d16 hd
      have r15:a.eval (.tmp 170)=(.pointer (some ⟨sp,0,none⟩)):=hW 15 _ _ rfl (hdj 15 (by decide))
      have r13:a.eval (.tmp 168)=.bool true:=hW 13 _ _ rfl (hdj 13 (by decide))
      have hrun:(execOp a.eval ⟨some 171,.fieldAddr 64 (.tmp 170) 3,t16,p16,f16,(some (13,true))⟩).run Tryz.prog X=.ok (.value (.pointer (some ⟨sp,3,none⟩))) X:=by
        have q0:=tmp_of r15
        simp only [execOp,r15]
        go_simp
      refine wpOp_valueG rfl ((wanted_of rfl rfl rfl (get_of_eval (by omega) r13)).trans rfl) hrun ?_
      exact ⟨hF.put (by decide) _,S,hW.put (q:=16) rfl (ndr39 _ _ _ _ _ _ _ _ _) (by omega)⟩
    · cases ho
      have hdj:=depB_spec d17 hd
      have r16:a.eval (.tmp 171)=.pointer (some ⟨sp,3,none⟩):=hW 16 _ _ rfl (hdj 16 (by decide))
      have r13:a.eval (.tmp 168)=.bool true:=hW 13 _ _ rfl (hdj 13 (by decide))
      have hrun:(execOp a.eval ⟨some 172,.load 43 (.tmp 171),t17,p17,f17,(some (13,true))⟩).run Tryz.prog X=.ok (.value (.slice (some ⟨g,0,none⟩) Kn c3)) X:=by
        have x0:=h3 X S
        have q0:=tmp_of r16
        simp only [execOp,r16]
        go_simp
      refine wpOp_valueG rfl ((wanted_of rfl rfl rfl (get_of_eval (by omega) r13)).trans rfl) hrun ?_
      exact ⟨hF.put (by decide) _,S,hW.put (q:=17) rfl (ndr39 _ _ _ _ _ _ _ _ _) (by omega)⟩
    · cases ho
      have hdj:=depB_spec d18 hd
      have r13:a.eval (.tmp 168)=.bool true:=hW 13 _ _ rfl (hdj 13 (by decide))
      have hrun:(execOp a.eval ⟨some 173,.move (.tmp 15),t18,p18,f18,(some (13,true))⟩).run Tryz.prog X=.ok (.value (.int .i64 (j:Int))) X:=by
        have q0:=tmp_of E15
        simp only [execOp,E15]
        go_simp
      refine wpOp_valueG rfl ((wanted_of rfl rfl rfl (get_of_eval (by omega) r13)).trans rfl) hrun ?_
      exact ⟨hF.put (by decide) _,S,hW.put (q:=18) rfl (ndr39 _ _ _ _ _ _ _ _ _) (by omega)⟩
    · cases ho
      have hdj:=depB_spec d19 hd
      have r17:a.eval (.tmp 172)=.slice (some ⟨g,0,none⟩) Kn c3:=hW 17 _ _ rfl (hdj 17 (by decide))
      have r18:a.eval (.tmp 173)=.int .i64 (j:Int):=hW 18 _ _ rfl (hdj 18 (by decide))
      have r13:a.eval (.tmp 168)=.bool true:=hW 13 _ _ rfl (hdj 13 (by decide))
      have hrun:(execOp a.eval ⟨some 174,.indexAddr 43 (.tmp 172) (.tmp 173),t19,p19,f19,(some (13,true))⟩).run Tryz.prog X=.ok (.value (.pointer (some ⟨g,j,none⟩))) X:=by
        have q0:=tmp_of r17
        have q1:=tmp_of r18
        simp only [execOp,r17,r18]
        go_simp
      refine wpOp_valueG rfl ((wanted_of rfl rfl rfl (get_of_eval (by omega) r13)).trans rfl) hrun ?_
      exact ⟨hF.put (by decide) _,S,hW.put (q:=19) rfl (ndr39 _ _ _ _ _ _ _ _ _) (by omega)⟩
    · cases ho
      have hdj:=depB_spec d20 hd
      have r19:a.eval (.tmp 174)=.pointer (some ⟨g,j,none⟩):=hW 19 _ _ rfl (hdj 19 (by decide))
      have r13:a.eval (.tmp 168)=.bool true:=hW 13 _ _ rfl (hdj 13 (by decide))
      have hrun:(execOp a.eval ⟨some 175,.load 9 (.tmp 174),t20,p20,f20,(some (13,true))⟩).run Tryz.prog X=.ok (.value (.string kj)) X:=by
        have x0:=hj X S
        have q0:=tmp_of r19
        simp only [execOp,r19]
        go_simp
      refine wpOp_valueG rfl ((wanted_of rfl rfl rfl (get_of_eval (by omega) r13)).trans rfl) hrun ?_
      exact ⟨hF.put (by decide) _,S,hW.put (q:=20) rfl (ndr39 _ _ _ _ _ _ _ _ _) (by omega)⟩
    · cases ho
      have hdj:=depB_spec d21 hd
      have r13:a.eval (.tmp 168)=.bool true:=hW 13 _ _ rfl (hdj 13 (by decide))
      have hrun:(execOp a.eval ⟨some 176,.move (.tmp 12),t21,p21,f21,(some (13,true))⟩).run Tryz.prog X=.ok (.value ((.pointer (some ⟨sp,0,none⟩)))) X:=by
        have q0:=tmp_of E12
        simp only [execOp,E12]
        go_simp
      refine wpOp_valueG rfl ((wanted_of rfl rfl rfl (get_of_eval (by omega) r13)).trans rfl) hrun ?_
      exact ⟨hF.put (by decide) _,S,hW.put (q:=21) rfl (ndr39 _ _ _ _ _ _ _ _ _) (by omega)⟩
    · cases ho
      have hdj:=depB_spec d22 hd
      have r21:a.eval (.tmp 176)=(.pointer (some ⟨sp,0,none⟩)):=hW 21 _ _ rfl (hdj 21 (by decide))
      have r13:a.eval (.tmp 168)=.bool true:=hW 13 _ _ rfl (hdj 13 (by decide))
      have hrun:(execOp a.eval ⟨some 177,.nilCheck (.tmp 176),t22,p22,f22,(some (13,true))⟩).run Tryz.prog X=.ok (.value ((.pointer (some ⟨sp,0,none⟩)))) X:=by
        have q0:=tmp_of r21
        simp only [execOp,r21]
        go_simp
      refine wpOp_valueG rfl ((wanted_of rfl rfl rfl (get_of_eval (by omega) r13)).trans rfl) hrun ?_
      exact ⟨hF.put (by decide) _,S,hW.put (q:=22) rfl (ndr39 _ _ _ _ _ _ _ _ _) (by omega)⟩
    · cases ho
      have hdj:=depB_spec d23 hd
      have r22:a.eval (.tmp 177)=(.pointer (some ⟨sp,0,none⟩)):=hW 22 _ _ rfl (hdj 22 (by decide))
      have r13:a.eval (.tmp 168)=.bool true:=hW 13 _ _ rfl (hdj 13 (by decide))
      have hrun:(execOp a.eval ⟨some 178,.fieldAddr 64 (.tmp 177) 3,t23,p23,f23,(some (13,true))⟩).run Tryz.prog X=.ok (.value (.pointer (some ⟨sp,3,none⟩))) X:=by
        have q0:=tmp_of r22
        simp only [execOp,r22]
        go_simp
      refine wpOp_valueG rfl ((wanted_of rfl rfl rfl (get_of_eval (by omega) r13)).trans rfl) hrun ?_
      exact ⟨hF.put (by decide) _,S,hW.put (q:=23) rfl (ndr39 _ _ _ _ _ _ _ _ _) (by omega)⟩
    · cases ho
      have hdj:=depB_spec d24 hd
      have r23:a.eval (.tmp 178)=.pointer (some ⟨sp,3,none⟩):=hW 23 _ _ rfl (hdj 23 (by decide))
      have r13:a.eval (.tmp 168)=.bool true:=hW 13 _ _ rfl (hdj 13 (by decide))
      have hrun:(execOp a.eval ⟨some 179,.load 43 (.tmp 178),t24,p24,f24,(some (13,true))⟩).run Tryz.prog X=.ok (.value (.slice (some ⟨g,0,none⟩) Kn c3)) X:=by
        have x0:=h3 X S
        have q0:=tmp_of r23
        simp only [execOp,r23]
        go_simp
      refine wpOp_valueG rfl ((wanted_of rfl rfl rfl (get_of_eval (by omega) r13)).trans rfl) hrun ?_
      exact ⟨hF.put (by decide) _,S,hW.put (q:=24) rfl (ndr39 _ _ _ _ _ _ _ _ _) (by omega)⟩
    · cases ho
      have hdj:=depB_spec d25 hd
      have r13:a.eval (.tmp 168)=.bool true:=hW 13 _ _ rfl (hdj 13 (by decide))
      have hrun:(execOp a.eval ⟨some 180,.move (.tmp 15),t25,p25,f25,(some (13,true))⟩).run Tryz.prog X=.ok (.value (.int .i64 (j:Int))) X:=by
        have q0:=tmp_of E15
        simp only [execOp,E15]
        go_simp
      refine wpOp_valueG rfl ((wanted_of rfl rfl rfl (get_of_eval (by omega) r13)).trans rfl) hrun ?_
      exact ⟨hF.put (by decide) _,S,hW.put (q:=25) rfl (ndr39 _ _ _ _ _ _ _ _ _) (by omega)⟩
    · cases ho
      have hdj:=depB_spec d26 hd
      have r25:a.eval (.tmp 180)=.int .i64 (j:Int):=hW 25 _ _ rfl (hdj 25 (by decide))
      have r13:a.eval (.tmp 168)=.bool true:=hW 13 _ _ rfl (hdj 13 (by decide))
      have hrun:(execOp a.eval ⟨some 181,.binOp .sub 3 (.tmp 180) (.const (.int .i64 1)) 3,t26,p26,f26,(some (13,true))⟩).run Tryz.prog X=.ok (.value (.int .i64 (jp:Int))) X:=by
        have q0:=tmp_of r25
        simp only [execOp,r25]
        go_simp
        rw [IntKind.wrap_i64]
        omega
      refine wpOp_valueG rfl ((wanted_of rfl rfl rfl (get_of_eval (by omega) r13)).trans rfl) hrun ?_
      exact ⟨hF.put (by decide) _,S,hW.put (q:=26) rfl (ndr39 _ _ _ _ _ _ _ _ _) (by omega)⟩
    · cases ho
      have hdj:=depB_spec d27 hd
      have r24:a.eval (.tmp 179)=.slice (some ⟨g,0,none⟩) Kn c3:=hW 24 _ _ rfl (hdj 24 (by decide))
      have r26:a.eval (.tmp 181)=.int .i64 (jp:Int):=hW 26 _ _ rfl (hdj 26 (by decide))
      have r13:a.eval (.tmp 168)=.bool true:=hW 13 _ _ rfl (hdj 13 (by decide))
      have hrun:(execOp a.eval ⟨some 182,.indexAddr 43 (.tmp 179) (.tmp 181),t27,p27,f27,(some (13,true))⟩).run Tryz.prog X=.ok (.value (.pointer (some ⟨g,jp,none⟩))) X:=by
        have q0:=tmp_of r24
        have q1:=tmp_of r26
        simp only [execOp,r24,r26]
        go_simp
      refine wpOp_valueG rfl ((wanted_of rfl rfl rfl (get_of_eval (by omega) r13)).trans rfl) hrun ?_
      exact ⟨hF.put (by decide) _,S,hW.put (q:=27) rfl (ndr39 _ _ _ _ _ _ _ _ _) (by omega)⟩
    · cases ho
      have hdj:=depB_spec d28 hd
      have r27:a.eval (.tmp 182)=.pointer (some ⟨g,jp,none⟩):=hW 27 _ _ rfl (hdj 27 (by decide))
      have r13:a.eval (.tmp 168)=.bool true:=hW 13 _ _ rfl (hdj 13 (by decide))
      have hrun:(execOp a.eval ⟨some 183,.load 9 (.tmp 182),t28,p28,f28,(some (13,true))⟩).run Tryz.prog X=.ok (.value (.string kp)) X:=by
        have x0:=hp X S
        have q0:=tmp_of r27
        simp only [execOp,r27]
        go_simp
      refine wpOp_valueG rfl ((wanted_of rfl rfl rfl (get_of_eval (by omega) r13)).trans rfl) hrun ?_
      exact ⟨hF.put (by decide) _,S,hW.put (q:=28) rfl (ndr39 _ _ _ _ _ _ _ _ _) (by omega)⟩
    · cases ho
      have hdj:=depB_spec d29 hd
      have r20:a.eval (.tmp 175)=.string kj:=hW 20 _ _ rfl (hdj 20 (by decide))
      have r28:a.eval (.tmp 183)=.string kp:=hW 28 _ _ rfl (hdj 28 (by decide))
      have r13:a.eval (.tmp 168)=.bool true:=hW 13 _ _ rfl (hdj 13 (by decide))
      have hrun:(execOp a.eval ⟨some 184,.binOp .leq 9 (.tmp 175) (.tmp 183) 9,t29,p29,f29,(some (13,true))⟩).run Tryz.prog X=.ok (.value (.bool false)) X:=by
        have q0:=tmp_of r20
        have q1:=tmp_of r28
        simp only [execOp,r20,r28]
        go_simp
      refine wpOp_valueG rfl ((wanted_of rfl rfl rfl (get_of_eval (by omega) r13)).trans rfl) hrun ?_
      exact ⟨hF.put (by decide) _,S,hW.put (q:=29) rfl (ndr39 _ _ _ _ _ _ _ _ _) (by omega)⟩
    · cases ho
      have hdj:=depB_spec d30 hd
      have r13:a.eval (.tmp 168)=.bool true:=hW 13 _ _ rfl (hdj 13 (by decide))
      have r29:a.eval (.tmp 184)=.bool false:=hW 29 _ _ rfl (hdj 29 (by decide))
      have r10:a.eval (.tmp 165)=.bool false:=hW 10 _ _ rfl (hdj 10 (by decide))
      have hrun:(execOp a.eval ⟨some 185,.pick (.tmp 168) (.tmp 184) (.const (.bool false)),t30,p30,f30,(some (10,false))⟩).run Tryz.prog X=.ok (.value (.bool false)) X:=by
        have q0:=tmp_of r13
        have q1:=tmp_of r29
        simp only [execOp,r13,r29]
        go_simp
      refine wpOp_valueG rfl ((wanted_of rfl rfl rfl (get_of_eval (by omega) r10)).trans rfl) hrun ?_
      exact ⟨hF.put (by decide) _,S,hW.put (q:=30) rfl (ndr39 _ _ _ _ _ _ _ _ _) (by omega)⟩
    · cases ho
      have hdj:=depB_spec d31 hd
      have r10:a.eval (.tmp 165)=.bool false:=hW 10 _ _ rfl (hdj 10 (by decide))
      have r30:a.eval (.tmp 185)=.bool false:=hW 30 _ _ rfl (hdj 30 (by decide))
      have hrun:(execOp a.eval ⟨some 186,.pick (.tmp 165) (.const (.bool true)) (.tmp 185),t31,p31,f31,none⟩).run Tryz.prog X=.ok (.value (.bool false)) X:=by
        have q0:=tmp_of r10
        have q1:=tmp_of r30
        simp only [execOp,r10,r30]
        go_simp
      refine wpOp_valueG rfl (wanted_none rfl) hrun ?_
      exact ⟨hF.put (by decide) _,S,hW.put (q:=31) rfl (ndr39 _ _ _ _ _ _ _ _ _) (by omega)⟩
    · cases ho
  · intro L a X hI hall
    subst hops
    obtain ⟨hF,S,hW⟩:=hI
    have hs:a.tmps.size=a0.tmps.size:=hF.2.1
    have hv:a.eval (.tmp 186)=.bool false:=hW 31 _ _ rfl (hall 31 (by simp))
    rw [hF.eq [(155,a.eval (.tmp 155)),(156,a.eval (.tmp 156)),(157,a.eval (.tmp 157)),(158,a.eval (.tmp 158)),(159,a.eval (.tmp 159)),(160,a.eval (.tmp 160)),(161,a.eval (.tmp 161)),(162,a.eval (.tmp 162)),(163,a.eval (.tmp 163)),(164,a.eval (.tmp 164)),(165,a.eval (.tmp 165)),(166,a.eval (.tmp 166)),(167,a.eval (.tmp 167)),(168,a.eval (.tmp 168)),(169,a.eval (.tmp 169)),(170,a.eval (.tmp 170)),(171,a.eval (.tmp 171)),(172,a.eval (.tmp 172)),(173,a.eval (.tmp 173)),(174,a.eval (.tmp 174)),(175,a.eval (.tmp 175)),(176,a.eval (.tmp 176)),(177,a.eval (.tmp 177)),(178,a.eval (.tmp 178)),(179,a.eval (.tmp 179)),(180,a.eval (.tmp 180)),(181,a.eval (.tmp 181)),(182,a.eval (.tmp 182)),(183,a.eval (.tmp 183)),(184,a.eval (.tmp 184)),(185,a.eval (.tmp 185)),(186,.bool false)] (by simp) (by simp [hv];omega)]
    exact hQ _ _ _ _ _ _ _ _ _ _ _ _ _ _ _ _ _ _ _ _ _ _ _ _ _ _ _ _ _ _ _ X S
def Wr42 (sp Gp Kn c3 mb cnt fr pg:Nat) (a3:Option Addr):List (Nat × Value):=[(188,(.pointer (some ⟨sp,0,none⟩))),(189,(.pointer (some ⟨sp,0,none⟩))),(190,.pointer (some ⟨sp,4,none⟩)),(191,.bool true),(192,.bool false),(193,.bool false),(194,(.pointer (some ⟨sp,0,none⟩))),(195,(.pointer (some ⟨sp,0,none⟩))),(196,.pointer (some ⟨sp,3,none⟩)),(197,.slice a3 Kn c3),(198,.int .i64 (Kn:Int)),(199,.map (some mb)),(200,.int .i64 (Kn:Int)),(201,.bool false),(202,.bool false),(203,.bool false),(204,(.pointer (some ⟨sp,0,none⟩))),(205,(.pointer (some ⟨sp,0,none⟩))),(206,.pointer (some ⟨sp,0,none⟩)),(207,.int .i64 (cnt:Int)),(208,(.pointer (some ⟨Gp,0,none⟩))),(209,.int .i64 (fr:Int)),(210,.int .i64 ((cnt:Int)+(fr:Int))),(211,.int .i64 (pg:Int)),(212,(.pointer (some ⟨Gp,0,none⟩))),(213,.int .i64 (pg:Int)),(214,.bool false),(215,.bool false)]
theorem ndr42 (sp Gp Kn c3 mb cnt fr pg:Nat) (a3:Option Addr):((Wr42 sp Gp Kn c3 mb cnt fr pg a3).map (·.1)).Nodup:=by
  show [188,189,190,191,192,193,194,195,196,197,198,199,200,201,202,203,204,205,206,207,208,209,210,211,212,213,214,215].Nodup
  decide
def Ir42 (sp Gp Kn c3 mb cnt fr pg:Nat) (a3:Option Addr) (St:World→Prop) (a0:Act) (L:Nat→Bool) (a:Act) (X:World):Prop:=Fr [188,189,190,191,192,193,194,195,196,197,198,199,200,201,202,203,204,205,206,207,208,209,210,211,212,213,214,215] a0 a∧St X∧SlT (Wr42 sp Gp Kn c3 mb cnt fr pg a3) L a
set_option maxRecDepth 20000 in
set_option maxHeartbeats 4000000 in
theorem r42 {Q:Exit→Act→World→Prop} {ops:Array Oper} {id:Nat} {a0:Act} {wc:World} (sp Gp Kn c3 mb cnt fr pg:Nat) (a3:Option Addr) (St:World→Prop) (h0:St wc.drew)
    (h4:∀ w,St w→w.cell? ⟨sp,4,none⟩=some (.bool true)) (h3:∀ w,St w→w.cell? ⟨sp,3,none⟩=some (.slice a3 Kn c3)) (hc:∀ w,St w→w.cell? ⟨sp,0,none⟩=some (.int .i64 (cnt:Int))) (hlen:∀ w,St w→∀ ty,(Builtin.len_ #[54] ty #[.map (some mb)]).run Tryz.prog w=.ok (.int .i64 (Kn:Int)) w)
    (hfr:∀ w,St w→Calls Tryz.prog 22 #[(.pointer (some ⟨Gp,0,none⟩))] w fun e w'=>e=.returned (.int .i64 (fr:Int))∧St w') (hpg:∀ w,St w→Calls Tryz.prog 23 #[(.pointer (some ⟨Gp,0,none⟩))] w fun e w'=>e=.returned (.int .i64 (pg:Int))∧St w')
    (hs1:(cnt:Int)+(fr:Int)+1=(pg:Int)) (hb1:cnt≤100000) (hb2:fr≤100000)
    (hsz:215<a0.tmps.size) (e4:a0.eval (.tmp 4)=(.pointer (some ⟨Gp,0,none⟩))) (e8:a0.eval (.tmp 8)=.map (some mb)) (e12:a0.eval (.tmp 12)=(.pointer (some ⟨sp,0,none⟩)))
    {t0 t1 t2 t3 t4 t5 t6 t7 t8 t9 t10 t11 t12 t13 t14 t15 t16 t17 t18 t19 t20 t21 t22 t23 t24 t25 t26 t27:TypeId} {p0 p1 p2 p3 p4 p5 p6 p7 p8 p9 p10 p11 p12 p13 p14 p15 p16 p17 p18 p19 p20 p21 p22 p23 p24 p25 p26 p27:String} {f0 f1 f2 f3 f4 f5 f6 f7 f8 f9 f10 f11 f12 f13 f14 f15 f16 f17 f18 f19 f20 f21 f22 f23 f24 f25 f26 f27:Array Edge}
    (hops:ops=#[⟨some 188,.move (.tmp 12),t0,p0,f0,none⟩,⟨some 189,.nilCheck (.tmp 188),t1,p1,f1,none⟩,⟨some 190,.fieldAddr 64 (.tmp 189) 4,t2,p2,f2,none⟩,⟨some 191,.load 4 (.tmp 190),t3,p3,f3,none⟩,⟨some 192,.unOp .not 4 (.tmp 191),t4,p4,f4,none⟩,⟨some 193,.move (.tmp 192),t5,p5,f5,none⟩,⟨some 194,.move (.tmp 12),t6,p6,f6,(some (5,false))⟩,⟨some 195,.nilCheck (.tmp 194),t7,p7,f7,(some (5,false))⟩,⟨some 196,.fieldAddr 64 (.tmp 195) 3,t8,p8,f8,(some (5,false))⟩,⟨some 197,.load 43 (.tmp 196),t9,p9,f9,(some (5,false))⟩,⟨some 198,.call { callee:=.builtin .len,args:=#[.tmp 197],argTypes:=#[43] },t10,p10,f10,(some (5,false))⟩,⟨some 199,.move (.tmp 8),t11,p11,f11,(some (5,false))⟩,⟨some 200,.call { callee:=.builtin .len,args:=#[.tmp 199],argTypes:=#[54] },t12,p12,f12,(some (5,false))⟩,⟨some 201,.binOp .neq 3 (.tmp 198) (.tmp 200) 3,t13,p13,f13,(some (5,false))⟩,⟨some 202,.pick (.tmp 193) (.const (.bool true)) (.tmp 201),t14,p14,f14,none⟩,⟨some 203,.move (.tmp 202),t15,p15,f15,none⟩,⟨some 204,.move (.tmp 12),t16,p16,f16,(some (15,false))⟩,⟨some 205,.nilCheck (.tmp 204),t17,p17,f17,(some (15,false))⟩,⟨some 206,.fieldAddr 64 (.tmp 205) 0,t18,p18,f18,(some (15,false))⟩,⟨some 207,.load 3 (.tmp 206),t19,p19,f19,(some (15,false))⟩,⟨some 208,.move (.tmp 4),t20,p20,f20,(some (15,false))⟩,⟨some 209,.call { callee:=.value (.func 22),args:=#[.tmp 208],argTypes:=#[25] },t21,p21,f21,(some (15,false))⟩,⟨some 210,.binOp .add 3 (.tmp 207) (.tmp 209) 3,t22,p22,f22,(some (15,false))⟩,⟨some 211,.binOp .add 3 (.tmp 210) (.const (.int .i64 1)) 3,t23,p23,f23,(some (15,false))⟩,⟨some 212,.move (.tmp 4),t24,p24,f24,(some (15,false))⟩,⟨some 213,.call { callee:=.value (.func 23),args:=#[.tmp 212],argTypes:=#[25] },t25,p25,f25,(some (15,false))⟩,⟨some 214,.binOp .neq 3 (.tmp 211) (.tmp 213) 3,t26,p26,f26,(some (15,false))⟩,⟨some 215,.pick (.tmp 203) (.const (.bool true)) (.tmp 214),t27,p27,f27,none⟩])
    (hb:backB ops=true) (d1:depB f1 [0]=true) (d2:depB f2 [1]=true) (d3:depB f3 [2]=true) (d4:depB f4 [3]=true) (d5:depB f5 [4]=true) (d6:depB f6 [5]=true) (d7:depB f7 [6,5]=true) (d8:depB f8 [7,5]=true) (d9:depB f9 [8,5]=true) (d10:depB f10 [9,5]=true) (d11:depB f11 [5]=true) (d12:depB f12 [11,5]=true) (d13:depB f13 [10,12,5]=true) (d14:depB f14 [5,13]=true) (d15:depB f15 [14]=true) (d16:depB f16 [15]=true) (d17:depB f17 [16,15]=true) (d18:depB f18 [17,15]=true) (d19:depB f19 [18,15]=true) (d20:depB f20 [15]=true) (d21:depB f21 [20,15]=true) (d22:depB f22 [19,21,15]=true) (d23:depB f23 [22,15]=true) (d24:depB f24 [15]=true) (d25:depB f25 [24,15]=true) (d26:depB f26 [23,25,15]=true) (d27:depB f27 [15,26]=true) (hm:Tryz.prog.follows .mixedOrders=true)
    (hQ:∀ (u188 u189 u190 u191 u192 u193 u194 u195 u196 u197 u198 u199 u200 u201 u202 u203 u204 u205 u206 u207 u208 u209 u210 u211 u212 u213 u214:Value) X,St X→Q .normal ⟨sets [(188,u188),(189,u189),(190,u190),(191,u191),(192,u192),(193,u193),(194,u194),(195,u195),(196,u196),(197,u197),(198,u198),(199,u199),(200,u200),(201,u201),(202,u202),(203,u203),(204,u204),(205,u205),(206,u206),(207,u207),(208,u208),(209,u209),(210,u210),(211,u211),(212,u212),(213,u213),(214,u214),(215,.bool false)] a0.tmps,a0.defers⟩ X) :
    (Code.region id ops true).wp Tryz.prog Q a0 wc:=by
  refine wp_region_inv hm (Ir42 sp Gp Kn c3 mb cnt fr pg a3 St) (backB_spec hb) ?_ ?_ ?_
  · refine ⟨Fr.refl _ _,h0,?_⟩
    exact fun _ _ _ _ h=>absurd h Bool.false_ne_true
  · intro L a X hI q o ho hL hd
    obtain ⟨hF,S,hW⟩:=hI
    have hs:a.tmps.size=a0.tmps.size:=hF.2.1
    have E4:a.eval (.tmp 4)=(.pointer (some ⟨Gp,0,none⟩)):=by rw [hF.eval (by decide),e4]
    have E8:a.eval (.tmp 8)=.map (some mb):=by rw [hF.eval (by decide),e8]
    have E12:a.eval (.tmp 12)=(.pointer (some ⟨sp,0,none⟩)):=by rw [hF.eval (by decide),e12]
    subst hops
    obtain _ | _ | _ | _ | _ | _ | _ | _ | _ | _ | _ | _ | _ | _ | _ | _ | _ | _ | _ | _ | _ | _ | _ | _ | _ | _ | _ | _ | q:=q
    · cases ho
      have hrun:(execOp a.eval ⟨some 188,.move (.tmp 12),t0,p0,f0,none⟩).run Tryz.prog X=.ok (.value ((.pointer (some ⟨sp,0,none⟩)))) X:=by
        have q0:=tmp_of E12
        simp only [execOp,E12]
        go_simp
      refine wpOp_valueG rfl (wanted_none rfl) hrun ?_
      exact ⟨hF.put (by decide) _,S,hW.put (q:=0) rfl (ndr42 _ _ _ _ _ _ _ _ _) (by omega)⟩
    · cases ho
      have hdj:=depB_spec d1 hd
      have r0:a.eval (.tmp 188)=(.pointer (some ⟨sp,0,none⟩)):=hW 0 _ _ rfl (hdj 0 (by decide))
      have hrun:(execOp a.eval ⟨some 189,.nilCheck (.tmp 188),t1,p1,f1,none⟩).run Tryz.prog X=.ok (.value ((.pointer (some ⟨sp,0,none⟩)))) X:=by
        have q0:=tmp_of r0
        simp only [execOp,r0]
        go_simp
      refine wpOp_valueG rfl (wanted_none rfl) hrun ?_
      exact ⟨hF.put (by decide) _,S,hW.put (q:=1) rfl (ndr42 _ _ _ _ _ _ _ _ _) (by omega)⟩
    · cases ho
      have hdj:=depB_spec d2 hd
      have r1:a.eval (.tmp 189)=(.pointer (some ⟨sp,0,none⟩)):=hW 1 _ _ rfl (hdj 1 (by decide))
      have hrun:(execOp a.eval ⟨some 190,.fieldAddr 64 (.tmp 189) 4,t2,p2,f2,none⟩).run Tryz.prog X=.ok (.value (.pointer (some ⟨sp,4,none⟩))) X:=by
        have q0:=tmp_of r1
        simp only [execOp,r1]
        go_simp
      refine wpOp_valueG rfl (wanted_none rfl) hrun ?_
      exact ⟨hF.put (by decide) _,S,hW.put (q:=2) rfl (ndr42 _ _ _ _ _ _ _ _ _) (by omega)⟩
    · cases ho
      have hdj:=depB_spec d3 hd
      have r2:a.eval (.tmp 190)=.pointer (some ⟨sp,4,none⟩):=hW 2 _ _ rfl (hdj 2 (by decide))
      have hrun:(execOp a.eval ⟨some 191,.load 4 (.tmp 190),t3,p3,f3,none⟩).run Tryz.prog X=.ok (.value (.bool true)) X:=by
        have x0:=h4 X S
        have q0:=tmp_of r2
        simp only [execOp,r2]
        go_simp
      refine wpOp_valueG rfl (wanted_none rfl) hrun ?_
      exact ⟨hF.put (by decide) _,S,hW.put (q:=3) rfl (ndr42 _ _ _ _ _ _ _ _ _) (by omega)⟩
    · cases ho
      have hdj:=depB_spec d4 hd
      have r3:a.eval (.tmp 191)=.bool true:=hW 3 _ _ rfl (hdj 3 (by decide))
      have hrun:(execOp a.eval ⟨some 192,.unOp .not 4 (.tmp 191),t4,p4,f4,none⟩).run Tryz.prog X=.ok (.value (.bool false)) X:=by
        have q0:=tmp_of r3
        simp only [execOp,r3]
        go_simp
      refine wpOp_valueG rfl (wanted_none rfl) hrun ?_
      exact ⟨hF.put (by decide) _,S,hW.put (q:=4) rfl (ndr42 _ _ _ _ _ _ _ _ _) (by omega)⟩
    · cases ho
      have hdj:=depB_spec d5 hd
      have r4:a.eval (.tmp 192)=.bool false:=hW 4 _ _ rfl (hdj 4 (by decide))
      have hrun:(execOp a.eval ⟨some 193,.move (.tmp 192),t5,p5,f5,none⟩).run Tryz.prog X=.ok (.value (.bool false)) X:=by
        have q0:=tmp_of r4
        simp only [execOp,r4]
        go_simp
      refine wpOp_valueG rfl (wanted_none rfl) hrun ?_
      exact ⟨hF.put (by decide) _,S,hW.put (q:=5) rfl (ndr42 _ _ _ _ _ _ _ _ _) (by omega)⟩
    · cases ho
      have hdj:=depB_spec d6 hd
      have r5:a.eval (.tmp 193)=.bool false:=hW 5 _ _ rfl (hdj 5 (by decide))
      have hrun:(execOp a.eval ⟨some 194,.move (.tmp 12),t6,p6,f6,(some (5,false))⟩).run Tryz.prog X=.ok (.value ((.pointer (some ⟨sp,0,none⟩)))) X:=by
        have q0:=tmp_of E12
        simp only [execOp,E12]
        go_simp
      refine wpOp_valueG rfl ((wanted_of rfl rfl rfl (get_of_eval (by omega) r5)).trans rfl) hrun ?_
      exact ⟨hF.put (by decide) _,S,hW.put (q:=6) rfl (ndr42 _ _ _ _ _ _ _ _ _) (by omega)⟩
    · cases ho
      have hdj:=depB_spec d7 hd
      have r6:a.eval (.tmp 194)=(.pointer (some ⟨sp,0,none⟩)):=hW 6 _ _ rfl (hdj 6 (by decide))
      have r5:a.eval (.tmp 193)=.bool false:=hW 5 _ _ rfl (hdj 5 (by decide))
      have hrun:(execOp a.eval ⟨some 195,.nilCheck (.tmp 194),t7,p7,f7,(some (5,false))⟩).run Tryz.prog X=.ok (.value ((.pointer (some ⟨sp,0,none⟩)))) X:=by
        have q0:=tmp_of r6
        simp only [execOp,r6]
        go_simp
      refine wpOp_valueG rfl ((wanted_of rfl rfl rfl (get_of_eval (by omega) r5)).trans rfl) hrun ?_
      exact ⟨hF.put (by decide) _,S,hW.put (q:=7) rfl (ndr42 _ _ _ _ _ _ _ _ _) (by omega)⟩
    · cases ho
      have hdj:=depB_spec d8 hd
      have r7:a.eval (.tmp 195)=(.pointer (some ⟨sp,0,none⟩)):=hW 7 _ _ rfl (hdj 7 (by decide))
      have r5:a.eval (.tmp 193)=.bool false:=hW 5 _ _ rfl (hdj 5 (by decide))
      have hrun:(execOp a.eval ⟨some 196,.fieldAddr 64 (.tmp 195) 3,t8,p8,f8,(some (5,false))⟩).run Tryz.prog X=.ok (.value (.pointer (some ⟨sp,3,none⟩))) X:=by
        have q0:=tmp_of r7
        simp only [execOp,r7]
        go_simp
      refine wpOp_valueG rfl ((wanted_of rfl rfl rfl (get_of_eval (by omega) r5)).trans rfl) hrun ?_
      exact ⟨hF.put (by decide) _,S,hW.put (q:=8) rfl (ndr42 _ _ _ _ _ _ _ _ _) (by omega)⟩
    · cases ho
      have hdj:=depB_spec d9 hd
      have r8:a.eval (.tmp 196)=.pointer (some ⟨sp,3,none⟩):=hW 8 _ _ rfl (hdj 8 (by decide))
      have r5:a.eval (.tmp 193)=.bool false:=hW 5 _ _ rfl (hdj 5 (by decide))
      have hrun:(execOp a.eval ⟨some 197,.load 43 (.tmp 196),t9,p9,f9,(some (5,false))⟩).run Tryz.prog X=.ok (.value (.slice a3 Kn c3)) X:=by
        have x0:=h3 X S
        have q0:=tmp_of r8
        simp only [execOp,r8]
        go_simp
      refine wpOp_valueG rfl ((wanted_of rfl rfl rfl (get_of_eval (by omega) r5)).trans rfl) hrun ?_
      exact ⟨hF.put (by decide) _,S,hW.put (q:=9) rfl (ndr42 _ _ _ _ _ _ _ _ _) (by omega)⟩
    · cases ho
      have hdj:=depB_spec d10 hd
      have r9:a.eval (.tmp 197)=.slice a3 Kn c3:=hW 9 _ _ rfl (hdj 9 (by decide))
      have r5:a.eval (.tmp 193)=.bool false:=hW 5 _ _ rfl (hdj 5 (by decide))
      have hrun:(execOp a.eval ⟨some 198,.call { callee:=.builtin .len,args:=#[.tmp 197],argTypes:=#[43] },t10,p10,f10,(some (5,false))⟩).run Tryz.prog X=.ok (.value (.int .i64 (Kn:Int))) X:=by
        have q0:=tmp_of r9
        simp only [execOp]
        go_simp
      refine wpOp_valueG rfl ((wanted_of rfl rfl rfl (get_of_eval (by omega) r5)).trans rfl) hrun ?_
      exact ⟨hF.put (by decide) _,S,hW.put (q:=10) rfl (ndr42 _ _ _ _ _ _ _ _ _) (by omega)⟩
    · cases ho
      have hdj:=depB_spec d11 hd
      have r5:a.eval (.tmp 193)=.bool false:=hW 5 _ _ rfl (hdj 5 (by decide))
      have hrun:(execOp a.eval ⟨some 199,.move (.tmp 8),t11,p11,f11,(some (5,false))⟩).run Tryz.prog X=.ok (.value (.map (some mb))) X:=by
        have q0:=tmp_of E8
        simp only [execOp,E8]
        go_simp
      refine wpOp_valueG rfl ((wanted_of rfl rfl rfl (get_of_eval (by omega) r5)).trans rfl) hrun ?_
      exact ⟨hF.put (by decide) _,S,hW.put (q:=11) rfl (ndr42 _ _ _ _ _ _ _ _ _) (by omega)⟩
    · cases ho
      have hdj:=depB_spec d12 hd
      have r11:a.eval (.tmp 199)=.map (some mb):=hW 11 _ _ rfl (hdj 11 (by decide))
      have r5:a.eval (.tmp 193)=.bool false:=hW 5 _ _ rfl (hdj 5 (by decide))
      have hrun:(execOp a.eval ⟨some 200,.call { callee:=.builtin .len,args:=#[.tmp 199],argTypes:=#[54] },t12,p12,f12,(some (5,false))⟩).run Tryz.prog X=.ok (.value (.int .i64 (Kn:Int))) X:=by
        have x0:=hlen X S
        have q0:=tmp_of r11
        simp only [execOp]
        go_simp
      refine wpOp_valueG rfl ((wanted_of rfl rfl rfl (get_of_eval (by omega) r5)).trans rfl) hrun ?_
      exact ⟨hF.put (by decide) _,S,hW.put (q:=12) rfl (ndr42 _ _ _ _ _ _ _ _ _) (by omega)⟩
    · cases ho
      have hdj:=depB_spec d13 hd
      have r10:a.eval (.tmp 198)=.int .i64 (Kn:Int):=hW 10 _ _ rfl (hdj 10 (by decide))
      have r12:a.eval (.tmp 200)=.int .i64 (Kn:Int):=hW 12 _ _ rfl (hdj 12 (by decide))
      have r5:a.eval (.tmp 193)=.bool false:=hW 5 _ _ rfl (hdj 5 (by decide))
      have hrun:(execOp a.eval ⟨some 201,.binOp .neq 3 (.tmp 198) (.tmp 200) 3,t13,p13,f13,(some (5,false))⟩).run Tryz.prog X=.ok (.value (.bool false)) X:=by
        have q0:=tmp_of r10
        have q1:=tmp_of r12
        simp only [execOp,r10,r12]
        go_simp
      refine wpOp_valueG rfl ((wanted_of rfl rfl rfl (get_of_eval (by omega) r5)).trans rfl) hrun ?_
      exact ⟨hF.put (by decide) _,S,hW.put (q:=13) rfl (ndr42 _ _ _ _ _ _ _ _ _) (by omega)⟩
    · cases ho
      have hdj:=depB_spec d14 hd
      have r5:a.eval (.tmp 193)=.bool false:=hW 5 _ _ rfl (hdj 5 (by decide))
      have r13:a.eval (.tmp 201)=.bool false:=hW 13 _ _ rfl (hdj 13 (by decide))
      have hrun:(execOp a.eval ⟨some 202,.pick (.tmp 193) (.const (.bool true)) (.tmp 201),t14,p14,f14,none⟩).run Tryz.prog X=.ok (.value (.bool false)) X:=by
        have q0:=tmp_of r5
        have q1:=tmp_of r13
        simp only [execOp,r5,r13]
        go_simp
      refine wpOp_valueG rfl (wanted_none rfl) hrun ?_
      exact ⟨hF.put (by decide) _,S,hW.put (q:=14) rfl (ndr42 _ _ _ _ _ _ _ _ _) (by omega)⟩
    · cases ho
      have hdj:=depB_spec d15 hd
      have r14:a.eval (.tmp 202)=.bool false:=hW 14 _ _ rfl (hdj 14 (by decide))
      have hrun:(execOp a.eval ⟨some 203,.move (.tmp 202),t15,p15,f15,none⟩).run Tryz.prog X=.ok (.value (.bool false)) X:=by
        have q0:=tmp_of r14
        simp only [execOp,r14]
        go_simp
      refine wpOp_valueG rfl (wanted_none rfl) hrun ?_
      exact ⟨hF.put (by decide) _,S,hW.put (q:=15) rfl (ndr42 _ _ _ _ _ _ _ _ _) (by omega)⟩
    · cases ho
      have hdj:=depB_spec d16 hd
      have r15:a.eval (.tmp 203)=.bool false:=hW 15 _ _ rfl (hdj 15 (by decide))
      have hrun:(execOp a.eval ⟨some 204,.move (.tmp 12),t16,p16,f16,(some (15,false))⟩).run Tryz.prog X=.ok (.value ((.pointer (some ⟨sp,0,none⟩)))) X:=by
        have q0:=tmp_of E12
        simp only [execOp,E12]
        go_simp
      refine wpOp_valueG rfl ((wanted_of rfl rfl rfl (get_of_eval (by omega) r15)).trans rfl) hrun ?_
      exact ⟨hF.put (by decide) _,S,hW.put (q:=16) rfl (ndr42 _ _ _ _ _ _ _ _ _) (by omega)⟩
    · cases ho
      have hdj:=depB_spec d17 hd
      have r16:a.eval (.tmp 204)=(.pointer (some ⟨sp,0,none⟩)):=hW 16 _ _ rfl (hdj 16 (by decide))
      have r15:a.eval (.tmp 203)=.bool false:=hW 15 _ _ rfl (hdj 15 (by decide))
      have hrun:(execOp a.eval ⟨some 205,.nilCheck (.tmp 204),t17,p17,f17,(some (15,false))⟩).run Tryz.prog X=.ok (.value ((.pointer (some ⟨sp,0,none⟩)))) X:=by
        have q0:=tmp_of r16
        simp only [execOp,r16]
        go_simp
      refine wpOp_valueG rfl ((wanted_of rfl rfl rfl (get_of_eval (by omega) r15)).trans rfl) hrun ?_
      exact ⟨hF.put (by decide) _,S,hW.put (q:=17) rfl (ndr42 _ _ _ _ _ _ _ _ _) (by omega)⟩
    · cases ho
      have hdj:=depB_spec d18 hd
      have r17:a.eval (.tmp 205)=(.pointer (some ⟨sp,0,none⟩)):=hW 17 _ _ rfl (hdj 17 (by decide))
      have r15:a.eval (.tmp 203)=.bool false:=hW 15 _ _ rfl (hdj 15 (by decide))
      have hrun:(execOp a.eval ⟨some 206,.fieldAddr 64 (.tmp 205) 0,t18,p18,f18,(some (15,false))⟩).run Tryz.prog X=.ok (.value (.pointer (some ⟨sp,0,none⟩))) X:=by
        have q0:=tmp_of r17
        simp only [execOp,r17]
        go_simp
      refine wpOp_valueG rfl ((wanted_of rfl rfl rfl (get_of_eval (by omega) r15)).trans rfl) hrun ?_
      exact ⟨hF.put (by decide) _,S,hW.put (q:=18) rfl (ndr42 _ _ _ _ _ _ _ _ _) (by omega)⟩
    · cases ho
      have hdj:=depB_spec d19 hd
      have r18:a.eval (.tmp 206)=.pointer (some ⟨sp,0,none⟩):=hW 18 _ _ rfl (hdj 18 (by decide))
      have r15:a.eval (.tmp 203)=.bool false:=hW 15 _ _ rfl (hdj 15 (by decide))
      have hrun:(execOp a.eval ⟨some 207,.load 3 (.tmp 206),t19,p19,f19,(some (15,false))⟩).run Tryz.prog X=.ok (.value (.int .i64 (cnt:Int))) X:=by
        have x0:=hc X S
        have q0:=tmp_of r18
        simp only [execOp,r18]
        go_simp
      refine wpOp_valueG rfl ((wanted_of rfl rfl rfl (get_of_eval (by omega) r15)).trans rfl) hrun ?_
      exact ⟨hF.put (by decide) _,S,hW.put (q:=19) rfl (ndr42 _ _ _ _ _ _ _ _ _) (by omega)⟩
    · cases ho
      have hdj:=depB_spec d20 hd
      have r15:a.eval (.tmp 203)=.bool false:=hW 15 _ _ rfl (hdj 15 (by decide))
      have hrun:(execOp a.eval ⟨some 208,.move (.tmp 4),t20,p20,f20,(some (15,false))⟩).run Tryz.prog X=.ok (.value ((.pointer (some ⟨Gp,0,none⟩)))) X:=by
        have q0:=tmp_of E4
        simp only [execOp,E4]
        go_simp
      refine wpOp_valueG rfl ((wanted_of rfl rfl rfl (get_of_eval (by omega) r15)).trans rfl) hrun ?_
      exact ⟨hF.put (by decide) _,S,hW.put (q:=20) rfl (ndr42 _ _ _ _ _ _ _ _ _) (by omega)⟩
    · cases ho
      have hdj:=depB_spec d21 hd
      have r20:a.eval (.tmp 208)=(.pointer (some ⟨Gp,0,none⟩)):=hW 20 _ _ rfl (hdj 20 (by decide))
      have r15:a.eval (.tmp 203)=.bool false:=hW 15 _ _ rfl (hdj 15 (by decide))
      have hrun:(execOp a.eval ⟨some 209,.call { callee:=.value (.func 22),args:=#[.tmp 208],argTypes:=#[25] },t21,p21,f21,(some (15,false))⟩).run Tryz.prog X=.ok (.enter 22 #[(.pointer (some ⟨Gp,0,none⟩))]) X:=by
        have q0:=tmp_of r20
        simp only [execOp]
        go_simp
      refine wpOp_callG (R:=fun u X'=>u=.int .i64 (fr:Int)∧St X') rfl ((wanted_of rfl rfl rfl (get_of_eval (by omega) r15)).trans rfl) hrun ((hfr X S).mono fun e X' h=>⟨_,h.1,rfl,h.2⟩) ?_
      rintro u X' ⟨rfl,hS'⟩
      exact ⟨hF.put (by decide) _,hS',hW.put (q:=21) rfl (ndr42 _ _ _ _ _ _ _ _ _) (by omega)⟩
    · cases ho
      have hdj:=depB_spec d22 hd
      have r19:a.eval (.tmp 207)=.int .i64 (cnt:Int):=hW 19 _ _ rfl (hdj 19 (by decide))
      have r21:a.eval (.tmp 209)=.int .i64 (fr:Int):=hW 21 _ _ rfl (hdj 21 (by decide))
      have r15:a.eval (.tmp 203)=.bool false:=hW 15 _ _ rfl (hdj 15 (by decide))
      have hrun:(execOp a.eval ⟨some 210,.binOp .add 3 (.tmp 207) (.tmp 209) 3,t22,p22,f22,(some (15,false))⟩).run Tryz.prog X=.ok (.value (.int .i64 ((cnt:Int)+(fr:Int)))) X:=by
        have q0:=tmp_of r19
        have q1:=tmp_of r21
        simp only [execOp,r19,r21]
        go_simp
        rw [IntKind.wrap_i64]
        omega
      refine wpOp_valueG rfl ((wanted_of rfl rfl rfl (get_of_eval (by omega) r15)).trans rfl) hrun ?_
      exact ⟨hF.put (by decide) _,S,hW.put (q:=22) rfl (ndr42 _ _ _ _ _ _ _ _ _) (by omega)⟩
    · cases ho
      have hdj:=depB_spec d23 hd
      have r22:a.eval (.tmp 210)=.int .i64 ((cnt:Int)+(fr:Int)):=hW 22 _ _ rfl (hdj 22 (by decide))
      have r15:a.eval (.tmp 203)=.bool false:=hW 15 _ _ rfl (hdj 15 (by decide))
      have hrun:(execOp a.eval ⟨some 211,.binOp .add 3 (.tmp 210) (.const (.int .i64 1)) 3,t23,p23,f23,(some (15,false))⟩).run Tryz.prog X=.ok (.value (.int .i64 (pg:Int))) X:=by
        have q0:=tmp_of r22
        simp only [execOp,r22]
        go_simp
        rw [IntKind.wrap_i64]
        omega
      refine wpOp_valueG rfl ((wanted_of rfl rfl rfl (get_of_eval (by omega) r15)).trans rfl) hrun ?_
      exact ⟨hF.put (by decide) _,S,hW.put (q:=23) rfl (ndr42 _ _ _ _ _ _ _ _ _) (by omega)⟩
    · cases ho
      have hdj:=depB_spec d24 hd
      have r15:a.eval (.tmp 203)=.bool false:=hW 15 _ _ rfl (hdj 15 (by decide))
      have hrun:(execOp a.eval ⟨some 212,.move (.tmp 4),t24,p24,f24,(some (15,false))⟩).run Tryz.prog X=.ok (.value ((.pointer (some ⟨Gp,0,none⟩)))) X:=by
        have q0:=tmp_of E4
        simp only [execOp,E4]
        go_simp
      refine wpOp_valueG rfl ((wanted_of rfl rfl rfl (get_of_eval (by omega) r15)).trans rfl) hrun ?_
      exact ⟨hF.put (by decide) _,S,hW.put (q:=24) rfl (ndr42 _ _ _ _ _ _ _ _ _) (by omega)⟩
    · cases ho
      have hdj:=depB_spec d25 hd
      have r24:a.eval (.tmp 212)=(.pointer (some ⟨Gp,0,none⟩)):=hW 24 _ _ rfl (hdj 24 (by decide))
      have r15:a.eval (.tmp 203)=.bool false:=hW 15 _ _ rfl (hdj 15 (by decide))
      have hrun:(execOp a.eval ⟨some 213,.call { callee:=.value (.func 23),args:=#[.tmp 212],argTypes:=#[25] },t25,p25,f25,(some (15,false))⟩).run Tryz.prog X=.ok (.enter 23 #[(.pointer (some ⟨Gp,0,none⟩))]) X:=by
        have q0:=tmp_of r24
        simp only [execOp]
        go_simp
      refine wpOp_callG (R:=fun u X'=>u=.int .i64 (pg:Int)∧St X') rfl ((wanted_of rfl rfl rfl (get_of_eval (by omega) r15)).trans rfl) hrun ((hpg X S).mono fun e X' h=>⟨_,h.1,rfl,h.2⟩) ?_
      rintro u X' ⟨rfl,hS'⟩
      exact ⟨hF.put (by decide) _,hS',hW.put (q:=25) rfl (ndr42 _ _ _ _ _ _ _ _ _) (by omega)⟩
    · cases ho
      have hdj:=depB_spec d26 hd
      have r23:a.eval (.tmp 211)=.int .i64 (pg:Int):=hW 23 _ _ rfl (hdj 23 (by decide))
      have r25:a.eval (.tmp 213)=.int .i64 (pg:Int):=hW 25 _ _ rfl (hdj 25 (by decide))
      have r15:a.eval (.tmp 203)=.bool false:=hW 15 _ _ rfl (hdj 15 (by decide))
      have hrun:(execOp a.eval ⟨some 214,.binOp .neq 3 (.tmp 211) (.tmp 213) 3,t26,p26,f26,(some (15,false))⟩).run Tryz.prog X=.ok (.value (.bool false)) X:=by
        have q0:=tmp_of r23
        have q1:=tmp_of r25
        simp only [execOp,r23,r25]
        go_simp
      refine wpOp_valueG rfl ((wanted_of rfl rfl rfl (get_of_eval (by omega) r15)).trans rfl) hrun ?_
      exact ⟨hF.put (by decide) _,S,hW.put (q:=26) rfl (ndr42 _ _ _ _ _ _ _ _ _) (by omega)⟩
    · cases ho
      have hdj:=depB_spec d27 hd
      have r15:a.eval (.tmp 203)=.bool false:=hW 15 _ _ rfl (hdj 15 (by decide))
      have r26:a.eval (.tmp 214)=.bool false:=hW 26 _ _ rfl (hdj 26 (by decide))
      have hrun:(execOp a.eval ⟨some 215,.pick (.tmp 203) (.const (.bool true)) (.tmp 214),t27,p27,f27,none⟩).run Tryz.prog X=.ok (.value (.bool false)) X:=by
        have q0:=tmp_of r15
        have q1:=tmp_of r26
        simp only [execOp,r15,r26]
        go_simp
      refine wpOp_valueG rfl (wanted_none rfl) hrun ?_
      exact ⟨hF.put (by decide) _,S,hW.put (q:=27) rfl (ndr42 _ _ _ _ _ _ _ _ _) (by omega)⟩
    · cases ho
  · intro L a X hI hall
    subst hops
    obtain ⟨hF,S,hW⟩:=hI
    have hs:a.tmps.size=a0.tmps.size:=hF.2.1
    have hv:a.eval (.tmp 215)=.bool false:=hW 27 _ _ rfl (hall 27 (by simp))
    rw [hF.eq [(188,a.eval (.tmp 188)),(189,a.eval (.tmp 189)),(190,a.eval (.tmp 190)),(191,a.eval (.tmp 191)),(192,a.eval (.tmp 192)),(193,a.eval (.tmp 193)),(194,a.eval (.tmp 194)),(195,a.eval (.tmp 195)),(196,a.eval (.tmp 196)),(197,a.eval (.tmp 197)),(198,a.eval (.tmp 198)),(199,a.eval (.tmp 199)),(200,a.eval (.tmp 200)),(201,a.eval (.tmp 201)),(202,a.eval (.tmp 202)),(203,a.eval (.tmp 203)),(204,a.eval (.tmp 204)),(205,a.eval (.tmp 205)),(206,a.eval (.tmp 206)),(207,a.eval (.tmp 207)),(208,a.eval (.tmp 208)),(209,a.eval (.tmp 209)),(210,a.eval (.tmp 210)),(211,a.eval (.tmp 211)),(212,a.eval (.tmp 212)),(213,a.eval (.tmp 213)),(214,a.eval (.tmp 214)),(215,.bool false)] (by simp) (by simp [hv];omega)]
    exact hQ _ _ _ _ _ _ _ _ _ _ _ _ _ _ _ _ _ _ _ _ _ _ _ _ _ _ _ X S
end Go.Proofs.YtmgjdjjfeapcdaaGreat
