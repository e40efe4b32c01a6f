/- Boxes of three cells that hold a page; the statement of page.Open that makes one, whatever its order is. -/
import Derived.Test.YtmgjdjjfeapcdaaGreatMgAE
namespace Go.Proofs.YtmgjdjjfeapcdaaGreat
open Go.RowKit
def Bx3 (W:World) (B:Nat) (x y z:Value):Prop:=W.heap[B]?=some (.cells #[x,y,z] 82 (0,0))
theorem Bx3.lt {W:World} {B:Nat} {x y z:Value} (h:Bx3 W B x y z):B<W.heap.size:=(Array.getElem?_eq_some_iff.1 h).1
theorem Bx3.c0 {W:World} {B:Nat} {x y z:Value} (h:Bx3 W B x y z):W.cell? ⟨B,0,none⟩=some x:=by simp [World.cell?,show W.heap[B]?=_ from h]
theorem Bx3.c1 {W:World} {B:Nat} {x y z:Value} (h:Bx3 W B x y z):W.cell? ⟨B,1,none⟩=some y:=by simp [World.cell?,show W.heap[B]?=_ from h]
theorem Bx3.c2 {W:World} {B:Nat} {x y z:Value} (h:Bx3 W B x y z):W.cell? ⟨B,2,none⟩=some z:=by simp [World.cell?,show W.heap[B]?=_ from h]
theorem Bx3.fz {W:World} {B:Nat} {x y z:Value} (h:Bx3 W B x y z) (o:Nat):W.frozen? ⟨B,o,none⟩=false:=by simp [World.frozen?,show W.heap[B]?=_ from h]
theorem Bx3.new (W:World) (x y z:Value):Bx3 (W.alloc (.cells #[x,y,z] 82)) W.heap.size x y z:=World.alloc_heap_new W _
theorem Bx3.below {W W':World} {B:Nat} {x y z:Value} (h:Bx3 W B x y z) (hb:Below W.heap.size W W'):Bx3 W' B x y z:=(hb.block B h.lt).trans h
theorem Bx3.put {W:World} {B:Nat} {x y z:Value} (h:Bx3 W B x y z) (x' y' z':Value):Bx3 (((W.setCell ⟨B,0,none⟩ x').setCell ⟨B,1,none⟩ y').setCell ⟨B,2,none⟩ z') B x' y' z':=by
  have s0:∀ (W:World) (a:Array Value) (i:Nat) (v:Value),W.heap[B]?=some (.cells a 82 (0,0))→(W.setCell ⟨B,i,none⟩ v).heap[B]?=some (.cells (a.setIfInBounds i v) 82 (0,0)):=by
    intro W a i v hk
    exact heap_setCell_same W B i a 82 v hk
  exact s0 _ _ 2 z' (s0 _ _ 1 y' (s0 _ _ 0 x' h))
theorem grown_put (W:World) (B:Nat) (x y z:Value):W.grownBy (((W.setCell ⟨B,0,none⟩ x).setCell ⟨B,1,none⟩ y).setCell ⟨B,2,none⟩ z) (some B):=by
  refine ⟨rfl,rfl,rfl,by simp,fun k _ hk=>?_⟩
  have hne:¬ k=B:=fun e=>hk (by rw [e])
  have f:∀ (W:World) (i:Nat) (v:Value),(W.setCell ⟨B,i,none⟩ v).heap[k]?=W.heap[k]?:=fun W i v=>Below.heap_setCell _ _ _ k (fun e=>hne (by rw [e]))
  rw [f,f,f]
/- a row of texts is no page -/
theorem own_ne {W:World} {B base k:Nat} {x y z v:Value} {xs:List Value} (h:Bx3 W B x y z) (ho:W.ownsRow base 9 1 v k xs):v.ownBlock ≠ some B:=by
  intro e
  rcases ho.2 with ⟨rfl,_⟩ | ⟨g,cap,cur,rfl,_,hg,_⟩
  · simp [Value.ownBlock] at e
  · simp only [Value.ownBlock,Option.some.injEq] at e
    subst e
    rw [show W.heap[g]?=_ from h] at hg
    simp at hg
theorem own_put {W:World} {B base k:Nat} {x y z v:Value} {xs:List Value} (h:Bx3 W B x y z) (ho:W.ownsRow base 9 1 v k xs) (x' y' z':Value):(((W.setCell ⟨B,0,none⟩ x').setCell ⟨B,1,none⟩ y').setCell ⟨B,2,none⟩ z').ownsRow base 9 1 v k xs:=
  ho.kept (grown_put W B x' y' z') (.inr (own_ne h ho))
theorem own_below {W W':World} {base k:Nat} {v:Value} {xs:List Value} (ho:W.ownsRow base 9 1 v k xs) (hb:Below W.heap.size W W'):W'.ownsRow base 9 1 v k xs:=by
  refine ⟨ho.1,?_⟩
  rcases ho.2 with h | ⟨g,cap,cur,rfl,h1,h2,h3⟩
  · exact .inl h
  · exact .inr ⟨g,cap,cur,rfl,h1,(hb.block g (Array.getElem?_eq_some_iff.1 h2).1).trans h2,h3⟩
def tx (L:List ByteArray) (i:Nat):ByteArray:=L.getD i ⟨#[]⟩
theorem sta_own {W:World} {base k:Nat} {v:Value} {L:List ByteArray} (ho:W.ownsRow base 9 1 v k (valsS L)):∃ a cap,v=.slice a k cap∧StA W a k (tx L):=by
  have hl:L.length=k:=by simpa [valsS] using ho.1
  rcases ho.2 with ⟨rfl,rfl⟩ | ⟨g,cap,cur,rfl,h1,hg,h3⟩
  · exact ⟨none,0,rfl,.inl rfl⟩
  · refine ⟨_,cap,rfl,.inr ⟨g,0,rfl,(Array.getElem?_eq_some_iff.1 hg).1,fun i hi=>?_⟩⟩
    rw [Nat.zero_add,ho.cellAt i (by omega)]
    have hi':i<L.length:=by omega
    simp [valsS,tx,List.getD,List.getElem?_eq_getElem hi']
theorem run_mvP (X:World) (a:Act) (i d:Nat) (t:TypeId) (p:String) (f:Array Edge) {v:Value} (he:a.eval (.tmp i)=v) :
    (execOp a.eval { dst:=some d,op:=.move (.tmp i),type:=t,pos:=p,after:=f,guard:=none }).run Tryz.prog X=.ok (.value v) X:=by
  subst he
  simp only [execOp]
  go_simp
theorem run_ix (X:World) (a:Act) (s:ByteArray) (i d:Nat) (t:TypeId) (p:String) (f:Array Edge) (hs:s.size=1024) (he:a.eval (.tmp i)=.string s) :
    (execOp a.eval { dst:=some d,op:=.index 9 (.tmp i) (.const (.int .i64 4)),type:=t,pos:=p,after:=f,guard:=none }).run Tryz.prog X=.ok (.value (.int .u8 (byt s 4))) X:=by
  have g0:=byt_get (show 4<s.size by omega)
  have h1:(4:Int)<(s.size:Int):=by omega
  simp only [execOp,he]
  go_simp
theorem run_cv (X:World) (a:Act) (s:ByteArray) (i d:Nat) (t:TypeId) (p:String) (f:Array Edge) (he:a.eval (.tmp i)=.int .u8 (byt s 4)) :
    (execOp a.eval { dst:=some d,op:=.convert 5 3 (.tmp i),type:=t,pos:=p,after:=f,guard:=none }).run Tryz.prog X=.ok (.value (.int .i64 (byt s 4))) X:=by
  have g0:=byt_lt s 4
  have e1:IntKind.i64.wrap ((byt s 4:Nat):Int)=((byt s 4:Nat):Int):=wrap_i64n _ (by omega)
  simp only [execOp,he]
  go_simp
theorem run_f4 (X:World) (a:Act) (i d:Nat) (t:TypeId) (p:String) (f:Array Edge) {u:Value} (hu:a.eval (.tmp i)=u) :
    (execOp a.eval { dst:=some d,op:=.call { callee:=.value (.func 69),args:=#[.tmp i,.const (.int .i64 8)],argTypes:=#[9,3] },type:=t,pos:=p,after:=f,guard:=none }).run Tryz.prog X=.ok (.enter 69 #[u,.int .i64 8]) X:=by
  subst hu
  simp only [execOp]
  go_simp
theorem run_cl (X:World) (a:Act) (i d:Nat) (t:TypeId) (p:String) (f:Array Edge) {u:Value} (hu:a.eval (.tmp i)=u) :
    (execOp a.eval { dst:=some d,op:=.call { callee:=.value (.func 70),args:=#[.tmp i],argTypes:=#[9] },type:=t,pos:=p,after:=f,guard:=none }).run Tryz.prog X=.ok (.enter 70 #[u]) X:=by
  subst hu
  simp only [execOp]
  go_simp
theorem run_bd (X:World) (a:Act) (i j k d:Nat) (t:TypeId) (p:String) (f:Array Edge) {x y:Int} {g:Option Addr} {n c:Nat} (hi:a.eval (.tmp i)=.int .i64 x) (hj:a.eval (.tmp j)=.int .i64 y) (hk:a.eval (.tmp k)=.slice g n c) :
    (execOp a.eval { dst:=some d,op:=.build 82 #[(0,.tmp i),(1,.tmp j),(2,.tmp k)],type:=t,pos:=p,after:=f,guard:=none }).run Tryz.prog X=.ok (.value (.agg #[.int .i64 x,.int .i64 y,.slice g n c])) X:=by
  have hi':a.tmps[i]?.getD undef=.int .i64 x:=by simpa [Act.eval] using hi
  have hj':a.tmps[j]?.getD undef=.int .i64 y:=by simpa [Act.eval] using hj
  have hk':a.tmps[k]?.getD undef=.slice g n c:=by simpa [Act.eval] using hk
  clear hi hj hk
  simp only [execOp]
  go_simp
theorem run_alP (X:World) (a:Act) (d:Nat) (t:TypeId) (p:String) (f:Array Edge) :
    (execOp a.eval { dst:=some d,op:=.alloc 82,type:=t,pos:=p,after:=f,guard:=none }).run Tryz.prog X=.ok (.value (.pointer (some ⟨X.heap.size,0,none⟩))) (X.alloc (.cells #[.int .i64 0,.int .i64 0,.slice none 0 0] 82)):=by
  simp only [execOp]
  go_simp
theorem run_stP (X:World) (a:Act) (b i j:Nat) (t:TypeId) (p:String) (f:Array Edge) {x y x' y':Int} {g g':Option Addr} {k c k' c':Nat} (hb:Bx3 X b (.int .i64 x) (.int .i64 y) (.slice g k c)) (he:a.eval (.tmp i)=.pointer (some ⟨b,0,none⟩)) (hv:a.eval (.tmp j)=.agg #[.int .i64 x',.int .i64 y',.slice g' k' c']) :
    (execOp a.eval { dst:=none,op:=.store 82 (.tmp i) (.tmp j),type:=t,pos:=p,after:=f,guard:=none }).run Tryz.prog X=.ok .skip (((X.setCell ⟨b,0,none⟩ (.int .i64 x')).setCell ⟨b,1,none⟩ (.int .i64 y')).setCell ⟨b,2,none⟩ (.slice g' k' c')):=by
  have x0:=hb.c0
  have x1:=hb.c1
  have x2:=hb.c2
  have z0:=hb.fz 0
  have z1:=hb.fz 1
  have z2:=hb.fz 2
  simp only [execOp,he,hv]
  go_simp
def Wo (wc:World) (s:ByteArray) (L:Nat→Bool) (a:Act) (X:World):Prop:=
  Below wc.heap.size wc X ∧
  (L 0=true→a.eval (.tmp 11)=.string s)∧(L 1=true→a.eval (.tmp 12)=.int .u8 (byt s 4))∧(L 2=true→a.eval (.tmp 13)=.int .i64 (byt s 4)) ∧
  (L 3=true→a.eval (.tmp 14)=.string s)∧(L 4=true→a.eval (.tmp 15)=.int .i64 (four s 8))∧(L 5=true→a.eval (.tmp 16)=.string s) ∧
  (L 6=true→∃ v,a.eval (.tmp 17)=v∧X.ownsRow wc.heap.size 9 1 v (rd s (many s) 0 1024).length (valsS (rd s (many s) 0 1024))) ∧
  (L 7=true→∃ v,a.eval (.tmp 18)=.agg #[.int .i64 (byt s 4),.int .i64 (four s 8),v]∧X.ownsRow wc.heap.size 9 1 v (rd s (many s) 0 1024).length (valsS (rd s (many s) 0 1024))) ∧
  (L 8=true→∃ b,a.eval (.tmp 4)=.pointer (some ⟨b,0,none⟩)∧wc.heap.size≤b∧Bx3 X b (.int .i64 0) (.int .i64 0) (.slice none 0 0))
def Io (wc:World) (s:ByteArray) (a0:Act) (L:Nat→Bool) (a:Act) (X:World):Prop:=
  Fr [11,12,13,14,15,16,17,18,4] a0 a∧(L 9=true→∀ q,q<9→L q=true) ∧
  (L 9=true→∃ b v,a.eval (.tmp 4)=.pointer (some ⟨b,0,none⟩)∧wc.heap.size≤b∧Bx3 X b (.int .i64 (byt s 4)) (.int .i64 (four s 8)) v∧Below wc.heap.size wc X∧X.ownsRow wc.heap.size 9 1 v (rd s (many s) 0 1024).length (valsS (rd s (many s) 0 1024))) ∧
  (L 9=false→Wo wc s L a X)
set_option maxHeartbeats 2000000 in
theorem regO {Q:Exit→Act→World→Prop} {ops:Array Oper} {id:Nat} {a0:Act} {wc:World} (s:ByteArray) (hs1:s.size=1024)
    (hsz:18<a0.tmps.size) (e0:a0.eval (.tmp 0)=.string s)
    {t0 t1 t2 t3 t4 t5 t6 t7 t8 t9:TypeId} {p0 p1 p2 p3 p4 p5 p6 p7 p8 p9:String} {f0 f1 f2 f3 f4 f5 f6 f7 f8 f9:Array Edge}
    (hops:ops=#[⟨some 11,.move (.tmp 0),t0,p0,f0,none⟩,⟨some 12,.index 9 (.tmp 11) (.const (.int .i64 4)),t1,p1,f1,none⟩,⟨some 13,.convert 5 3 (.tmp 12),t2,p2,f2,none⟩,
      ⟨some 14,.move (.tmp 0),t3,p3,f3,none⟩,⟨some 15,.call { callee:=.value (.func 69),args:=#[.tmp 14,.const (.int .i64 8)],argTypes:=#[9,3] },t4,p4,f4,none⟩,
      ⟨some 16,.move (.tmp 0),t5,p5,f5,none⟩,⟨some 17,.call { callee:=.value (.func 70),args:=#[.tmp 16],argTypes:=#[9] },t6,p6,f6,none⟩,
      ⟨some 18,.build 82 #[(0,.tmp 13),(1,.tmp 15),(2,.tmp 17)],t7,p7,f7,none⟩,⟨some 4,.alloc 82,t8,p8,f8,none⟩,⟨none,.store 82 (.tmp 4) (.tmp 18),t9,p9,f9,none⟩])
    (hb:backB ops=true) (d1:depB f1 [0]=true) (d2:depB f2 [1]=true) (d4:depB f4 [3]=true) (d6:depB f6 [5]=true) (d7:depB f7 [2,4,6]=true) (d9:depB f9 [0,1,2,3,4,5,6,7,8]=true) (hm:Tryz.prog.follows .mixedOrders=true)
    (hQ:∀ (u11 u12 u13 u14 u15 u16 u17 u18:Value) b v X,wc.heap.size≤b→Bx3 X b (.int .i64 (byt s 4)) (.int .i64 (four s 8)) v→Below wc.heap.size wc X→X.ownsRow wc.heap.size 9 1 v (rd s (many s) 0 1024).length (valsS (rd s (many s) 0 1024)) →
      Q .normal ⟨sets [(11,u11),(12,u12),(13,u13),(14,u14),(15,u15),(16,u16),(17,u17),(18,u18),(4,.pointer (some ⟨b,0,none⟩))] a0.tmps,a0.defers⟩ X) :
    (Code.region id ops true).wp Tryz.prog Q a0 wc:=by
  refine wp_region_inv hm (Io wc s) (backB_spec hb) ?_ ?_ ?_
  · refine ⟨Fr.refl _ _,fun h=>absurd h (by decide),fun h=>absurd h (by decide),fun _=>⟨(Below.refl _ _).drew,?_⟩⟩
    refine ⟨?_,?_,?_,?_,?_,?_,?_,?_,?_⟩ <;> intro h <;> exact absurd h (by decide)
  · intro L a X hI q o ho hL hd
    obtain ⟨hF,hA,-,hW⟩:=hI
    have hs:a.tmps.size=a0.tmps.size:=hF.2.1
    have E0:a.eval (.tmp 0)=.string s:=by rw [hF.eval (by decide),e0]
    have h9:L 9=false:=by
      cases h:L 9 with
      | false=>rfl
      | true =>
        by_cases e:q=9
        · rw [e,h] at hL;cases hL
        · subst hops
          have hq:q<10:=(Array.getElem?_eq_some_iff.1 ho).1
          rw [hA h q (by omega)] at hL;cases hL
    have hno:L 9=true→False:=fun h=>by rw [h9] at h;cases h
    obtain ⟨hB,g0,g1,g2,g3,g4,g5,g6,g7,g8⟩:=hW h9
    clear hW hA
    subst hops
    obtain _ | _ | _ | _ | _ | _ | _ | _ | _ | _ | q:=q
    · cases ho
      refine wpOp_value rfl rfl (run_mvP X a 0 11 _ _ _ E0) ?_
      show Io _ _ a0 (upd L 0) (a.put (some 11) _) _
      exact ⟨hF.put (by decide) _,fun h=>(hno h).elim,fun h=>(hno h).elim,fun _=>⟨hB,(fun _=>eval_put_same (by omega) _),(fun h=>by rw [eval_put_ne (by decide)];exact g1 h),(fun h=>by rw [eval_put_ne (by decide)];exact g2 h),(fun h=>by rw [eval_put_ne (by decide)];exact g3 h),(fun h=>by rw [eval_put_ne (by decide)];exact g4 h),(fun h=>by rw [eval_put_ne (by decide)];exact g5 h),(fun h=>by obtain ⟨v,e,r⟩:=g6 h;exact ⟨v,by rw [eval_put_ne (by decide)];exact e,r⟩),(fun h=>by obtain ⟨v,e,r⟩:=g7 h;exact ⟨v,by rw [eval_put_ne (by decide)];exact e,r⟩),(fun h=>by obtain ⟨b,e,z,r⟩:=g8 h;exact ⟨b,by rw [eval_put_ne (by decide)];exact e,z,r⟩)⟩⟩
    · cases ho
      have hdj:=depB_spec d1 hd
      refine wpOp_value rfl rfl (run_ix X a s 11 12 _ _ _ hs1 (g0 (hdj 0 (by decide)))) ?_
      show Io _ _ a0 (upd L 1) (a.put (some 12) _) _
      exact ⟨hF.put (by decide) _,fun h=>(hno h).elim,fun h=>(hno h).elim,fun _=>⟨hB,(fun h=>by rw [eval_put_ne (by decide)];exact g0 h),(fun _=>eval_put_same (by omega) _),(fun h=>by rw [eval_put_ne (by decide)];exact g2 h),(fun h=>by rw [eval_put_ne (by decide)];exact g3 h),(fun h=>by rw [eval_put_ne (by decide)];exact g4 h),(fun h=>by rw [eval_put_ne (by decide)];exact g5 h),(fun h=>by obtain ⟨v,e,r⟩:=g6 h;exact ⟨v,by rw [eval_put_ne (by decide)];exact e,r⟩),(fun h=>by obtain ⟨v,e,r⟩:=g7 h;exact ⟨v,by rw [eval_put_ne (by decide)];exact e,r⟩),(fun h=>by obtain ⟨b,e,z,r⟩:=g8 h;exact ⟨b,by rw [eval_put_ne (by decide)];exact e,z,r⟩)⟩⟩
    · cases ho
      have hdj:=depB_spec d2 hd
      refine wpOp_value rfl rfl (run_cv X a s 12 13 _ _ _ (g1 (hdj 1 (by decide)))) ?_
      show Io _ _ a0 (upd L 2) (a.put (some 13) _) _
      exact ⟨hF.put (by decide) _,fun h=>(hno h).elim,fun h=>(hno h).elim,fun _=>⟨hB,(fun h=>by rw [eval_put_ne (by decide)];exact g0 h),(fun h=>by rw [eval_put_ne (by decide)];exact g1 h),(fun _=>eval_put_same (by omega) _),(fun h=>by rw [eval_put_ne (by decide)];exact g3 h),(fun h=>by rw [eval_put_ne (by decide)];exact g4 h),(fun h=>by rw [eval_put_ne (by decide)];exact g5 h),(fun h=>by obtain ⟨v,e,r⟩:=g6 h;exact ⟨v,by rw [eval_put_ne (by decide)];exact e,r⟩),(fun h=>by obtain ⟨v,e,r⟩:=g7 h;exact ⟨v,by rw [eval_put_ne (by decide)];exact e,r⟩),(fun h=>by obtain ⟨b,e,z,r⟩:=g8 h;exact ⟨b,by rw [eval_put_ne (by decide)];exact e,z,r⟩)⟩⟩
    · cases ho
      refine wpOp_value rfl rfl (run_mvP X a 0 14 _ _ _ E0) ?_
      show Io _ _ a0 (upd L 3) (a.put (some 14) _) _
      exact ⟨hF.put (by decide) _,fun h=>(hno h).elim,fun h=>(hno h).elim,fun _=>⟨hB,(fun h=>by rw [eval_put_ne (by decide)];exact g0 h),(fun h=>by rw [eval_put_ne (by decide)];exact g1 h),(fun h=>by rw [eval_put_ne (by decide)];exact g2 h),(fun _=>eval_put_same (by omega) _),(fun h=>by rw [eval_put_ne (by decide)];exact g4 h),(fun h=>by rw [eval_put_ne (by decide)];exact g5 h),(fun h=>by obtain ⟨v,e,r⟩:=g6 h;exact ⟨v,by rw [eval_put_ne (by decide)];exact e,r⟩),(fun h=>by obtain ⟨v,e,r⟩:=g7 h;exact ⟨v,by rw [eval_put_ne (by decide)];exact e,r⟩),(fun h=>by obtain ⟨b,e,z,r⟩:=g8 h;exact ⟨b,by rw [eval_put_ne (by decide)];exact e,z,r⟩)⟩⟩
    · cases ho
      have hdj:=depB_spec d4 hd
      refine wpOp_call (R:=fun u X'=>u=.int .i64 (four s 8)∧Below X.heap.size X X') rfl rfl (run_f4 X a 14 15 _ _ _ (g3 (hdj 3 (by decide)))) ((cfourq s 8 X (by omega) (by omega)).mono fun e X' h=>?_) ?_
      · obtain ⟨h1,nq,h2⟩:=h
        exact ⟨_,h1,rfl,by rw [h2];exact below_drewN (Below.refl _ _) nq⟩
      rintro u X' ⟨rfl,hb'⟩
      show Io _ _ a0 (upd L 4) (a.put (some 15) _) _
      exact ⟨hF.put (by decide) _,fun h=>(hno h).elim,fun h=>(hno h).elim,fun _=>⟨(hB.trans (hb'.mono hB.size)),(fun h=>by rw [eval_put_ne (by decide)];exact g0 h),(fun h=>by rw [eval_put_ne (by decide)];exact g1 h),(fun h=>by rw [eval_put_ne (by decide)];exact g2 h),(fun h=>by rw [eval_put_ne (by decide)];exact g3 h),(fun _=>eval_put_same (by omega) _),(fun h=>by rw [eval_put_ne (by decide)];exact g5 h),(fun h=>by obtain ⟨v,e,r⟩:=g6 h;exact ⟨v,by rw [eval_put_ne (by decide)];exact e,own_below r hb'⟩),(fun h=>by obtain ⟨v,e,r⟩:=g7 h;exact ⟨v,by rw [eval_put_ne (by decide)];exact e,own_below r hb'⟩),(fun h=>by obtain ⟨b,e,z,r⟩:=g8 h;exact ⟨b,by rw [eval_put_ne (by decide)];exact e,z,r.below hb'⟩)⟩⟩
    · cases ho
      refine wpOp_value rfl rfl (run_mvP X a 0 16 _ _ _ E0) ?_
      show Io _ _ a0 (upd L 5) (a.put (some 16) _) _
      exact ⟨hF.put (by decide) _,fun h=>(hno h).elim,fun h=>(hno h).elim,fun _=>⟨hB,(fun h=>by rw [eval_put_ne (by decide)];exact g0 h),(fun h=>by rw [eval_put_ne (by decide)];exact g1 h),(fun h=>by rw [eval_put_ne (by decide)];exact g2 h),(fun h=>by rw [eval_put_ne (by decide)];exact g3 h),(fun h=>by rw [eval_put_ne (by decide)];exact g4 h),(fun _=>eval_put_same (by omega) _),(fun h=>by obtain ⟨v,e,r⟩:=g6 h;exact ⟨v,by rw [eval_put_ne (by decide)];exact e,r⟩),(fun h=>by obtain ⟨v,e,r⟩:=g7 h;exact ⟨v,by rw [eval_put_ne (by decide)];exact e,r⟩),(fun h=>by obtain ⟨b,e,z,r⟩:=g8 h;exact ⟨b,by rw [eval_put_ne (by decide)];exact e,z,r⟩)⟩⟩
    · cases ho
      have hdj:=depB_spec d6 hd
      refine wpOp_call (R:=fun u X'=>X'.ownsRow X.heap.size 9 1 u (rd s (many s) 0 1024).length (valsS (rd s (many s) 0 1024))∧Below X.heap.size X X') rfl rfl (run_cl X a 16 17 _ _ _ (g5 (hdj 5 (by decide)))) ((ccells s X hs1).mono fun e X' h=>?_) ?_
      · obtain ⟨v,h1,h2,h3⟩:=h
        exact ⟨v,h1,h2,h3⟩
      rintro u X' ⟨ho',hb'⟩
      have ho2:X'.ownsRow wc.heap.size 9 1 u (rd s (many s) 0 1024).length (valsS (rd s (many s) 0 1024)):=by
        refine ⟨ho'.1,?_⟩
        rcases ho'.2 with h | ⟨g,cap,cur,h1,h2,h3⟩
        · exact .inl h
        · exact .inr ⟨g,cap,cur,h1,Nat.le_trans hB.size h2,h3⟩
      show Io _ _ a0 (upd L 6) (a.put (some 17) _) _
      exact ⟨hF.put (by decide) _,fun h=>(hno h).elim,fun h=>(hno h).elim,fun _=>⟨(hB.trans (hb'.mono hB.size)),(fun h=>by rw [eval_put_ne (by decide)];exact g0 h),(fun h=>by rw [eval_put_ne (by decide)];exact g1 h),(fun h=>by rw [eval_put_ne (by decide)];exact g2 h),(fun h=>by rw [eval_put_ne (by decide)];exact g3 h),(fun h=>by rw [eval_put_ne (by decide)];exact g4 h),(fun h=>by rw [eval_put_ne (by decide)];exact g5 h),(fun _=>⟨u,eval_put_same (by omega) _,ho2⟩),(fun h=>by obtain ⟨v,e,r⟩:=g7 h;exact ⟨v,by rw [eval_put_ne (by decide)];exact e,own_below r hb'⟩),(fun h=>by obtain ⟨b,e,z,r⟩:=g8 h;exact ⟨b,by rw [eval_put_ne (by decide)];exact e,z,r.below hb'⟩)⟩⟩
    · cases ho
      have hdj:=depB_spec d7 hd
      obtain ⟨v,x17,ho'⟩:=g6 (hdj 6 (by decide))
      obtain ⟨ga,gc,rfl,-⟩:=sta_own ho'
      refine wpOp_value rfl rfl (run_bd X a 13 15 17 18 _ _ _ (g2 (hdj 2 (by decide))) (g4 (hdj 4 (by decide))) x17) ?_
      show Io _ _ a0 (upd L 7) (a.put (some 18) _) _
      exact ⟨hF.put (by decide) _,fun h=>(hno h).elim,fun h=>(hno h).elim,fun _=>⟨hB,(fun h=>by rw [eval_put_ne (by decide)];exact g0 h),(fun h=>by rw [eval_put_ne (by decide)];exact g1 h),(fun h=>by rw [eval_put_ne (by decide)];exact g2 h),(fun h=>by rw [eval_put_ne (by decide)];exact g3 h),(fun h=>by rw [eval_put_ne (by decide)];exact g4 h),(fun h=>by rw [eval_put_ne (by decide)];exact g5 h),(fun h=>by obtain ⟨v,e,r⟩:=g6 h;exact ⟨v,by rw [eval_put_ne (by decide)];exact e,r⟩),(fun _=>⟨_,eval_put_same (by omega) _,ho'⟩),(fun h=>by obtain ⟨b,e,z,r⟩:=g8 h;exact ⟨b,by rw [eval_put_ne (by decide)];exact e,z,r⟩)⟩⟩
    · cases ho
      have hb':Below X.heap.size X (X.alloc (.cells #[.int .i64 0,.int .i64 0,.slice none 0 0] 82)):=(Below.refl _ _).alloc (Nat.le_refl _) _
      refine wpOp_value rfl rfl (run_alP X a 4 _ _ _) ?_
      show Io _ _ a0 (upd L 8) (a.put (some 4) _) _
      exact ⟨hF.put (by decide) _,fun h=>(hno h).elim,fun h=>(hno h).elim,fun _=>⟨(hB.trans (hb'.mono hB.size)),(fun h=>by rw [eval_put_ne (by decide)];exact g0 h),(fun h=>by rw [eval_put_ne (by decide)];exact g1 h),(fun h=>by rw [eval_put_ne (by decide)];exact g2 h),(fun h=>by rw [eval_put_ne (by decide)];exact g3 h),(fun h=>by rw [eval_put_ne (by decide)];exact g4 h),(fun h=>by rw [eval_put_ne (by decide)];exact g5 h),(fun h=>by obtain ⟨v,e,r⟩:=g6 h;exact ⟨v,by rw [eval_put_ne (by decide)];exact e,own_below r hb'⟩),(fun h=>by obtain ⟨v,e,r⟩:=g7 h;exact ⟨v,by rw [eval_put_ne (by decide)];exact e,own_below r hb'⟩),(fun _=>⟨X.heap.size,eval_put_same (by omega) _,hB.size,Bx3.new _ _ _ _⟩)⟩⟩
    · cases ho
      have hdj:=depB_spec d9 hd
      obtain ⟨v,x18,ho'⟩:=g7 (hdj 7 (by decide))
      obtain ⟨b,x4,zb,hbx⟩:=g8 (hdj 8 (by decide))
      obtain ⟨ga,gc,rfl,-⟩:=sta_own ho'
      refine wpOp_skip rfl rfl (run_stP X a b 4 18 _ _ _ hbx x4 x18) ?_
      show Io _ _ a0 (upd L 9) a _
      refine ⟨hF,fun _ q hq=>?_,fun _=>⟨b,_,x4,zb,hbx.put _ _ _,((hB.setCell zb _).setCell zb _).setCell zb _,own_put hbx ho' _ _ _⟩,fun h=>by rw [upd_same] at h;cases h⟩
      rw [upd_ne _ (by omega)]
      exact hdj q (by simp;omega)
    · cases ho
  · intro L a X hI hall
    subst hops
    obtain ⟨hF,-,hfin,-⟩:=hI
    obtain ⟨b,v,x4,l1,l2,l3,l4⟩:=hfin (hall 9 (by simp))
    have hs:a.tmps.size=a0.tmps.size:=hF.2.1
    rw [hF.eq [(11,a.eval (.tmp 11)),(12,a.eval (.tmp 12)),(13,a.eval (.tmp 13)),(14,a.eval (.tmp 14)),(15,a.eval (.tmp 15)),(16,a.eval (.tmp 16)),(17,a.eval (.tmp 17)),(18,a.eval (.tmp 18)),(4,.pointer (some ⟨b,0,none⟩))] (by simp) (by simp [x4];omega)]
    exact hQ _ _ _ _ _ _ _ _ b v X l1 l2 l3 l4
end Go.Proofs.YtmgjdjjfeapcdaaGreat
namespace Go.Proofs.YtmgjdjjfeapcdaaGreat
open Go.RowKit
attribute [local go_sem ↓] Go.wp_at_zero Go.wp_at_succ
def cls (s:ByteArray):List ByteArray:=rd s (many s) 0 1024
theorem extract_le (s:ByteArray) (a b:Nat) (h:s.size=1024):(s.extract a b).size≤1024:=by
  rw [ByteArray.size_extract];omega
theorem rd_size {s:ByteArray} (hs:s.size=1024):∀ f i e,∀ x ∈ rd s f i e,x.size≤1024
  | 0,_,_,x,h=>by cases h
  | f+1,i,e,x,h=>by
    unfold rd at h
    split at h
    · cases h
    · rcases List.mem_cons.1 h with rfl | h
      · exact extract_le s _ _ hs
      · exact rd_size hs f _ _ x h
theorem len_le {S:Nat→ByteArray} (h:∀ i,(S i).size≤1024):∀ n,len S n≤1024 * n
  | 0=>Nat.le_refl _
  | n+1=>by
    have:=len_le h n
    have:=h n
    show len S n+(S n).size≤_
    omega
theorem cls_used {s:ByteArray} (hs:s.size=1024):4 * (cls s).length+len (tx (cls s)) (cls s).length≤1099511627776:=by
  have h1:(cls s).length≤253:=Nat.le_trans (rd_len s _ _ _) (Nat.min_le_right _ _)
  have h2:=len_le (S:=tx (cls s)) (fun i=>by
    unfold tx
    rw [List.getD_eq_getElem?_getD]
    cases h:(cls s)[i]? with
    | none=>exact Nat.zero_le _
    | some x=>exact rd_size hs _ _ _ x (List.mem_of_getElem? h)) (cls s).length
  omega
theorem str_neq {a b:ByteArray} (h:¬ a=b):(a.toList == b.toList)=false:=by
  rw [beq_eq_false_iff_ne,ByteArray.toList_eq,ByteArray.toList_eq]
  intro e
  apply h
  cases a
  cases b
  congr 1
  exact Array.ext' e
theorem own_mono {W:World} {base base' k:Nat} {v:Value} {xs:List Value} (ho:W.ownsRow base 9 1 v k xs) (h:base'≤base):W.ownsRow base' 9 1 v k xs:=by
  refine ⟨ho.1,?_⟩
  rcases ho.2 with h' | ⟨g,cap,cur,h1,h2,h3⟩
  · exact .inl h'
  · exact .inr ⟨g,cap,cur,h1,Nat.le_trans h h2,h3⟩
/- is it a page? -/
def good (s:ByteArray):Prop:=(1≤byt s 4∧byt s 4≤5∧four s 8≤2147483647)∧4 * (cls s).length+len (tx (cls s)) (cls s).length≤1012∧(⟨(sealed (byt s 4) (four s 8) (cls s).length (tx (cls s))).toArray⟩:ByteArray)=s
set_option maxRecDepth 20000 in
set_option maxHeartbeats 1000000 in
theorem copenq (s:ByteArray) (w:World) (hs:s.size=1024) :
    Calls Tryz.prog 28 #[.string s] w fun e w'=>((good s∧∃ v,e=.returned (.tuple #[.agg #[.int .i64 (byt s 4),.int .i64 (four s 8),v],.int .i64 0])∧w'.ownsRow w.heap.size 9 1 v (cls s).length (valsS (cls s)))∨(¬ good s∧e=.returned (.tuple #[.agg #[.int .i64 0,.int .i64 0,.slice none 0 0],.int .i64 4])))∧Below w.heap.size w w':=by
  go_enter Tryz.func28,Tryz.ntmps28
  go_upto_region 3 with fail
  have hw0:Below w.heap.size w (w.alloc (.cells #[.int .i64 0,.int .i64 0,.slice none 0 0] 82)):=((Below.refl _ _).alloc (Nat.le_refl _) _)
  refine regO s hs ?_ rfl rfl (by kernel_rfl) (by kernel_rfl) (by kernel_rfl) (by kernel_rfl) (by kernel_rfl) (by kernel_rfl) (by kernel_rfl) (by kernel_rfl) ?_
  · simp
  intro u11 u12 u13 u14 u15 u16 u17 u18 b v X zb hbx hB ho
  obtain ⟨ga,gc,rfl,hst⟩:=sta_own ho
  have HO:Hid _:=ho
  have HX:Hid _:=hbx
  have HB:Hid (Below w.heap.size w X):=hw0.trans (hB.mono hw0.size)
  have hR:Bx3 X w.heap.size (.int .i64 0) (.int .i64 0) (.slice none 0 0):=(Bx3.new w _ _ _).below hB
  have HR:Hid _:=hR
  have b0:=hbx.c0
  have b1:=hbx.c1
  have b2:=hbx.c2
  have HS:Hid (StA X ga (cls s).length (tx (cls s))):=hst
  clear ho hbx hB hw0 hR hst
  simp only [sets,List.setIfInBounds_toArray,List.set_cons_zero,List.set_cons_succ]
  go_wp2_with fail
  refine (cseal (byt s 4) (four s 8) ga (cls s).length gc (tx (cls s)) X HS.out (cls_used hs)).mono ?_
  rintro e W1 ⟨h,hb1⟩
  rcases h with ⟨rfl,hbad⟩ | ⟨rfl,hk,hbig⟩ | ⟨rfl,hk,hsm⟩
  · skip
    have HG:Hid (¬ good s):=fun h=>hbad (by have:=h.1;omega)
    have HB1:Hid (Below w.heap.size w W1):=HB.out.trans (hb1.mono HB.out.size)
    have hR1:Bx3 W1 w.heap.size (.int .i64 0) (.int .i64 0) (.slice none 0 0):=Bx3.below HR.out hb1
    have r0:=hR1.c0
    have r1:=hR1.c1
    have r2:=hR1.c2
    have z0:=hR1.fz 0
    have z1:=hR1.fz 1
    have z2:=hR1.fz 2
    clear hR1 hb1
    go_wp2
    refine bodyPost_ret (v:=.tuple #[.agg #[.int .i64 0,.int .i64 0,.slice none 0 0],.int .i64 4]) (by simp [results,Tryz.results28,go_sem, *]) rfl ⟨.inr ⟨HG.out,rfl⟩,?_⟩
    exact ((HB1.out.setCell (Nat.le_refl _) _).setCell (Nat.le_refl _) _).setCell (Nat.le_refl _) _
  · skip
    have HG:Hid (¬ good s):=fun h=>by have:=h.2.1;omega
    have HB1:Hid (Below w.heap.size w W1):=HB.out.trans (hb1.mono HB.out.size)
    have hR1:Bx3 W1 w.heap.size (.int .i64 0) (.int .i64 0) (.slice none 0 0):=Bx3.below HR.out hb1
    have r0:=hR1.c0
    have r1:=hR1.c1
    have r2:=hR1.c2
    have z0:=hR1.fz 0
    have z1:=hR1.fz 1
    have z2:=hR1.fz 2
    clear hR1 hb1
    go_wp2
    refine bodyPost_ret (v:=.tuple #[.agg #[.int .i64 0,.int .i64 0,.slice none 0 0],.int .i64 4]) (by simp [results,Tryz.results28,go_sem, *]) rfl ⟨.inr ⟨HG.out,rfl⟩,?_⟩
    exact ((HB1.out.setCell (Nat.le_refl _) _).setCell (Nat.le_refl _) _).setCell (Nat.le_refl _) _
  · by_cases hE:(⟨(sealed (byt s 4) (four s 8) (cls s).length (tx (cls s))).toArray⟩:ByteArray)=s
    · have HG:Hid (good s):=⟨by omega,hsm,hE⟩
      have HE:Hid ((⟨(sealed (byt s 4) (four s 8) (cls s).length (tx (cls s))).toArray⟩:ByteArray)=s):=hE
      have HB1:Hid (Below w.heap.size w W1):=HB.out.trans (hb1.mono HB.out.size)
      have hR1:Bx3 W1 w.heap.size (.int .i64 0) (.int .i64 0) (.slice none 0 0):=Bx3.below HR.out hb1
      have r0:=hR1.c0
      have r1:=hR1.c1
      have r2:=hR1.c2
      have z0:=hR1.fz 0
      have z1:=hR1.fz 1
      have z2:=hR1.fz 2
      have hX1:Bx3 W1 b (.int .i64 (byt s 4)) (.int .i64 (four s 8)) (.slice ga (cls s).length gc):=Bx3.below HX.out hb1
      have b0':=hX1.c0
      have b1':=hX1.c1
      have b2':=hX1.c2
      have HO1:Hid _:=own_put hR1 (own_below HO.out hb1) (.int .i64 (byt s 4)) (.int .i64 (four s 8)) (.slice ga (cls s).length gc)
      simp only [Int.toNat_natCast]
      rw [HE.out]
      clear hR1 hb1 hX1 b0 b1 b2 hE
      go_wp2
      refine bodyPost_ret (v:=.tuple #[.agg #[.int .i64 (byt s 4),.int .i64 (four s 8),.slice ga (cls s).length gc],.int .i64 0]) (by simp [results,Tryz.results28,go_sem, *]) rfl ⟨.inl ⟨HG.out,_,rfl,own_mono HO1.out (by simp)⟩,?_⟩
      exact ((HB1.out.setCell (Nat.le_refl _) _).setCell (Nat.le_refl _) _).setCell (Nat.le_refl _) _
    · have hE':=str_neq hE
      have HG:Hid (¬ good s):=fun h=>hE h.2.2
      have HB1:Hid (Below w.heap.size w W1):=HB.out.trans (hb1.mono HB.out.size)
      have hR1:Bx3 W1 w.heap.size (.int .i64 0) (.int .i64 0) (.slice none 0 0):=Bx3.below HR.out hb1
      have r0:=hR1.c0
      have r1:=hR1.c1
      have r2:=hR1.c2
      have z0:=hR1.fz 0
      have z1:=hR1.fz 1
      have z2:=hR1.fz 2
      clear hR1 hb1
      simp only [Int.toNat_natCast]
      generalize (⟨(sealed (byt s 4) (four s 8) (cls s).length (tx (cls s))).toArray⟩:ByteArray)=T at *
      go_wp2
      refine bodyPost_ret (v:=.tuple #[.agg #[.int .i64 0,.int .i64 0,.slice none 0 0],.int .i64 4]) (by simp [results,Tryz.results28,go_sem, *]) rfl ⟨.inr ⟨HG.out,rfl⟩,?_⟩
      exact ((HB1.out.setCell (Nat.le_refl _) _).setCell (Nat.le_refl _) _).setCell (Nat.le_refl _) _
end Go.Proofs.YtmgjdjjfeapcdaaGreat
namespace Go.Proofs.YtmgjdjjfeapcdaaGreat
open Go.RowKit
/- the i-th byte of a list -/
def vw (l:List UInt8) (i:Nat):Nat:=(l.getD i 0).toNat
theorem get_mk (l:List UInt8) (i:Nat):(⟨l.toArray⟩:ByteArray)[i]!=l.getD i 0:=by
  by_cases h:i<l.length
  · rw [getElem!_pos _ i (show i<(⟨l.toArray⟩:ByteArray).size from by simpa [ByteArray.size] using h)]
    rw [List.getD_eq_getElem?_getD,List.getElem?_eq_getElem h]
    rfl
  · rw [getElem!_neg _ i (show ¬ i<(⟨l.toArray⟩:ByteArray).size from by simpa [ByteArray.size] using h)]
    rw [List.getD_eq_getElem?_getD,List.getElem?_eq_none (by omega)]
    rfl
theorem byt_mk (l:List UInt8) (i:Nat):byt ⟨l.toArray⟩ i=vw l i:=by
  unfold byt vw
  rw [get_mk]
theorem vw_set {l:List UInt8} {a:Nat} (ha:a<l.length) (x:UInt8) (i:Nat):vw (l.set a x) i=if i=a then x.toNat else vw l i:=by
  unfold vw
  rw [List.getD_eq_getElem?_getD,List.getD_eq_getElem?_getD]
  by_cases h:i=a
  · subst h;rw [if_pos rfl,List.getElem?_set_self ha];rfl
  · rw [if_neg h,List.getElem?_set_ne (Ne.symm h)]
theorem vw_put2 {l:List UInt8} {a:Nat} (ha:a+1<l.length) (n i:Nat):vw (put2 l a n) i=if i=a+1 then n % 256 else if i=a then n / 256 % 256 else vw l i:=by
  unfold put2
  rw [vw_set (by rw [List.length_set];exact ha),vw_set (by omega)]
  simp
theorem vw_spl {l:List UInt8} {o:Nat} {t:ByteArray} (h:o+t.size≤l.length) (i:Nat):vw (spl l o t) i=if o≤i∧i<o+t.size then byt t (i - o) else vw l i:=by
  have ht:t.data.toList.length=t.size:=rfl
  have e:t=⟨t.data.toList.toArray⟩:=by cases t;simp
  unfold spl
  by_cases h1:i<o
  · rw [if_neg (by omega)]
    unfold vw
    rw [List.getD_eq_getElem?_getD,List.getD_eq_getElem?_getD,List.append_assoc,List.getElem?_append_left (by simp;omega),List.getElem?_take_of_lt h1]
  · by_cases h2:i<o+t.size
    · rw [if_pos (by omega)]
      have hb:byt t (i - o)=vw t.data.toList (i - o):=by
        rw [← byt_mk]
      rw [hb]
      unfold vw
      rw [List.getD_eq_getElem?_getD,List.getD_eq_getElem?_getD,List.getElem?_append_left (by simp;omega),List.getElem?_append_right (by simp;omega)]
      congr 3
      simp
      omega
    · rw [if_neg (by omega)]
      unfold vw
      rw [List.getD_eq_getElem?_getD,List.getD_eq_getElem?_getD,List.getElem?_append_right (by simp;omega),List.getElem?_drop]
      congr 3
      simp
      omega
theorem two_mk (l:List UInt8) (i:Nat):two ⟨l.toArray⟩ i=vw l i * 256+vw l (i+1):=by unfold two;rw [byt_mk,byt_mk]
theorem lay_len {S:Nat→ByteArray} {l:List UInt8} {n:Nat} (hl:l.length=1024) (hn:4 * n+len S n≤1012):∀ k,k≤n→(lay S l k).length=1024
  | 0,_=>hl
  | k+1,hk=>by
    have ih:=lay_len hl hn k (by omega)
    have h1:=len_mono S hk
    have h2:len S (k+1)=len S k+(S k).size:=rfl
    have e:(put2 (put2 (lay S l k) (12+2 * k) (at' S (k+1))) (at' S (k+1)) (S k).size).length=1024:=by rw [put2_len,put2_len,ih]
    show (spl _ _ _).length=1024
    rw [spl_len _ _ _ (by rw [e];unfold at';omega),e]
/- one step of Seal, byte by byte -/
theorem lay_step {S:Nat→ByteArray} {l:List UInt8} {n:Nat} (hl:l.length=1024) (hn:4 * n+len S n≤1012) {k:Nat} (hk:k+1≤n) (i:Nat) :
    vw (lay S l (k+1)) i=if at' S (k+1)+2≤i∧i<at' S (k+1)+2+(S k).size then byt (S k) (i - (at' S (k+1)+2))
      else if i=at' S (k+1)+1 then (S k).size % 256 else if i=at' S (k+1) then (S k).size / 256 % 256
      else if i=12+2 * k+1 then at' S (k+1) % 256 else if i=12+2 * k then at' S (k+1) / 256 % 256 else vw (lay S l k) i:=by
  have ih:=lay_len (S:=S) hl hn k (by omega)
  have h1:=len_mono S hk
  have h2:len S (k+1)=len S k+(S k).size:=rfl
  show vw (spl _ _ _) i=_
  rw [vw_spl (by rw [put2_len,put2_len,ih];unfold at';omega),vw_put2 (by rw [put2_len,ih];unfold at';omega),vw_put2 (by rw [ih];omega)]
theorem at_s {S:Nat→ByteArray} {n:Nat} (hn:4 * n+len S n≤1012) {k:Nat} (hk:k+1≤n):at' S (k+1)+2+(S k).size=at' S k∧12+2 * n≤at' S (k+1)∧at' S k≤1024:=by
  have h1:=len_mono S hk
  have h2:len S (k+1)=len S k+(S k).size:=rfl
  unfold at'
  omega
theorem lay_same {S:Nat→ByteArray} {l:List UInt8} {n:Nat} (hl:l.length=1024) (hn:4 * n+len S n≤1012) {k:Nat} (hk:k+1≤n) {i:Nat} (h1:i<12+2 * k∨12+2 * k+2≤i) (h2:i<at' S (k+1)∨at' S k≤i):vw (lay S l (k+1)) i=vw (lay S l k) i:=by
  obtain ⟨a1,a2,a3⟩:=at_s hn hk
  rw [lay_step hl hn hk,if_neg (by omega),if_neg (by omega),if_neg (by omega),if_neg (by omega),if_neg (by omega)]
theorem at_mono {S:Nat→ByteArray} {j k:Nat} (hjk:j≤k):at' S k≤at' S j:=by
  have:=len_mono S hjk
  unfold at'
  omega
/- what was laid stays -/
theorem lay_keep {S:Nat→ByteArray} {l:List UInt8} {n:Nat} (hl:l.length=1024) (hn:4 * n+len S n≤1012) {j:Nat} {i:Nat} (h:i<12+2 * j∨at' S j≤i):∀ {k:Nat},j≤k→k≤n→vw (lay S l k) i=vw (lay S l j) i:=by
  intro k hjk hk
  induction k with
  | zero=>have:j=0:=by omega
            subst this;rfl
  | succ k ih =>
    by_cases e:j=k+1
    · subst e;rfl
    · obtain ⟨a1,a2,a3⟩:=at_s hn hk
      have a4:=at_mono (S:=S) (show j≤k by omega)
      rw [lay_same hl hn hk (by omega) (by omega),ih (by omega) (by omega)]
/- the bytes of a page, one by one -/
section
variable {K Lk n:Nat} {S:Nat→ByteArray}
theorem body_len (hn:4 * n+len S n≤1012):(body K Lk n S).length=1024:=lay_len (head_lenq _ _ _) hn n (Nat.le_refl _)
theorem sealed_len (hn:4 * n+len S n≤1012):(sealed K Lk n S).length=1024:=by unfold sealed;rw [put4_len,body_len hn]
theorem vw_put4 {l:List UInt8} {a:Nat} (ha:a+3<l.length) (m i:Nat):vw (put4 l a m) i=if i=a+3 then m % 256 else if i=a+2 then m / 256 % 256 else if i=a+1 then m / 65536 % 256 else if i=a then m / 65536 / 256 % 256 else vw l i:=by
  unfold put4
  rw [vw_put2 (by rw [put2_len];omega),vw_put2 (by omega)]
theorem vw_head (i:Nat):vw (head K Lk n) i=if i=11 then Lk % 256 else if i=10 then Lk / 256 % 256 else if i=9 then Lk / 65536 % 256 else if i=8 then Lk / 65536 / 256 % 256 else if i=7 then n % 256 else if i=6 then n / 256 % 256 else if i=4 then K % 256 else vw blankq i:=by
  unfold head
  rw [vw_put4 (by rw [put2_len,List.length_set,blank_lenq];omega),vw_put2 (by rw [List.length_set,blank_lenq];omega),vw_set (by rw [blank_lenq];omega)]
  simp
theorem vw_sealed (hn:4 * n+len S n≤1012) {i:Nat} (hi:4≤i):vw (sealed K Lk n S) i=vw (body K Lk n S) i:=by
  unfold sealed
  rw [vw_put4 (by rw [body_len hn];omega),if_neg (by omega),if_neg (by omega),if_neg (by omega),if_neg (by omega)]
theorem vw_low (hn:4 * n+len S n≤1012) {i:Nat} (h4:4≤i) (hi:i<12):vw (sealed K Lk n S) i=vw (head K Lk n) i:=by
  rw [vw_sealed hn h4]
  exact lay_keep (head_lenq _ _ _) hn (j:=0) (by omega) (Nat.zero_le _) (Nat.le_refl _)
theorem sealed_kind (hn:4 * n+len S n≤1012) (hK:K≤5):byt ⟨(sealed K Lk n S).toArray⟩ 4=K:=by
  rw [byt_mk,vw_low hn (by omega) (by omega),vw_head]
  simp
  omega
theorem sealed_many (hn:4 * n+len S n≤1012):two ⟨(sealed K Lk n S).toArray⟩ 6=n:=by
  rw [two_mk,vw_low hn (by omega) (by omega),vw_low hn (by omega) (by omega),vw_head,vw_head]
  simp
  omega
theorem sealed_link (hn:4 * n+len S n≤1012) (hL:Lk≤2147483647):four ⟨(sealed K Lk n S).toArray⟩ 8=Lk:=by
  unfold four
  rw [two_mk,two_mk,vw_low hn (by omega) (by omega),vw_low hn (by omega) (by omega),vw_low hn (by omega) (by omega),vw_low hn (by omega) (by omega),vw_head,vw_head,vw_head,vw_head]
  simp
  omega
theorem sealed_at (hn:4 * n+len S n≤1012) {k:Nat} (hk:k+1≤n):two ⟨(sealed K Lk n S).toArray⟩ (12+2 * k)=at' S (k+1):=by
  obtain ⟨a1,a2,a3⟩:=at_s hn hk
  rw [two_mk,vw_sealed hn (by omega),vw_sealed hn (by omega)]
  have e1:vw (body K Lk n S) (12+2 * k)=at' S (k+1) / 256 % 256:=by
    refine (lay_keep (head_lenq _ _ _) hn (j:=k+1) (by omega) hk (Nat.le_refl _)).trans ?_
    rw [lay_step (head_lenq _ _ _) hn hk,if_neg (by omega),if_neg (by omega),if_neg (by omega),if_neg (by omega),if_pos rfl]
  have e2:vw (body K Lk n S) (12+2 * k+1)=at' S (k+1) % 256:=by
    refine (lay_keep (head_lenq _ _ _) hn (j:=k+1) (by omega) hk (Nat.le_refl _)).trans ?_
    rw [lay_step (head_lenq _ _ _) hn hk,if_neg (by omega),if_neg (by omega),if_neg (by omega),if_pos rfl]
  rw [e1,e2]
  omega
theorem sealed_size (hn:4 * n+len S n≤1012) {k:Nat} (hk:k+1≤n):two ⟨(sealed K Lk n S).toArray⟩ (at' S (k+1))=(S k).size:=by
  obtain ⟨a1,a2,a3⟩:=at_s hn hk
  rw [two_mk,vw_sealed hn (by omega),vw_sealed hn (by omega)]
  have e1:vw (body K Lk n S) (at' S (k+1))=(S k).size / 256 % 256:=by
    refine (lay_keep (head_lenq _ _ _) hn (j:=k+1) (by omega) hk (Nat.le_refl _)).trans ?_
    rw [lay_step (head_lenq _ _ _) hn hk,if_neg (by omega),if_neg (by omega),if_pos rfl]
  have e2:vw (body K Lk n S) (at' S (k+1)+1)=(S k).size % 256:=by
    refine (lay_keep (head_lenq _ _ _) hn (j:=k+1) (by omega) hk (Nat.le_refl _)).trans ?_
    rw [lay_step (head_lenq _ _ _) hn hk,if_neg (by omega),if_pos rfl]
  rw [e1,e2]
  omega
theorem sealed_cell (hn:4 * n+len S n≤1012) {k:Nat} (hk:k+1≤n) {i:Nat} (hi:i<(S k).size):vw (sealed K Lk n S) (at' S (k+1)+2+i)=byt (S k) i:=by
  obtain ⟨a1,a2,a3⟩:=at_s hn hk
  rw [vw_sealed hn (by omega)]
  refine (lay_keep (head_lenq _ _ _) hn (j:=k+1) (by omega) hk (Nat.le_refl _)).trans ?_
  rw [lay_step (head_lenq _ _ _) hn hk,if_pos (by omega)]
  congr 1
  omega
end
end Go.Proofs.YtmgjdjjfeapcdaaGreat
namespace Go.Proofs.YtmgjdjjfeapcdaaGreat
open Go.RowKit
theorem byt_ext {a b:ByteArray} (hs:a.size=b.size) (h:∀ i,i<a.size→byt a i=byt b i):a=b:=by
  cases a with | mk a =>
  cases b with | mk b =>
  congr 1
  apply Array.ext hs
  intro i h1 h2
  have e:=h i h1
  unfold byt at e
  rw [getElem!_pos _ i (show i<(⟨a⟩:ByteArray).size from h1),getElem!_pos _ i (show i<(⟨b⟩:ByteArray).size from h2)] at e
  exact UInt8.toNat_inj.1 e
theorem byt_extract {s:ByteArray} {a b i:Nat} (hb:b≤s.size) (hi:i<b - a):byt (s.extract a b) i=byt s (a+i):=by
  have hz:(s.extract a b).size=b - a:=by rw [ByteArray.size_extract];omega
  have h1:i<(s.extract a b).size:=by omega
  have h2:a+i<s.size:=by omega
  unfold byt
  rw [getElem!_pos _ i h1,getElem!_pos _ (a+i) h2,ByteArray.getElem_extract]
theorem size_mk (l:List UInt8):(⟨l.toArray⟩:ByteArray).size=l.length:=by simp [ByteArray.size]
section
variable {K Lk n:Nat} {S:Nat→ByteArray}
theorem sealed_extract (hn:4 * n+len S n≤1012) {k:Nat} (hk:k+1≤n):(⟨(sealed K Lk n S).toArray⟩:ByteArray).extract (at' S (k+1)+2) (at' S k)=S k:=by
  obtain ⟨a1,a2,a3⟩:=at_s hn hk
  have hz:(⟨(sealed K Lk n S).toArray⟩:ByteArray).size=1024:=by rw [size_mk,sealed_len hn]
  have hs:((⟨(sealed K Lk n S).toArray⟩:ByteArray).extract (at' S (k+1)+2) (at' S k)).size=(S k).size:=by
    rw [ByteArray.size_extract];omega
  refine byt_ext hs fun i hi=>?_
  rw [hs] at hi
  rw [byt_extract (by omega) (by omega),byt_mk,sealed_cell hn hk hi]
theorem sealed_rd (hn:4 * n+len S n≤1012):∀ f k,k+f=n→rd ⟨(sealed K Lk n S).toArray⟩ f k (at' S k)=(List.range' k f).map S
  | 0,k,_=>rfl
  | f+1,k,hk=>by
    obtain ⟨a1,a2,a3⟩:=at_s hn (show k+1≤n by omega)
    have e1:=sealed_at (K:=K) (Lk:=Lk) hn (show k+1≤n by omega)
    have e2:=sealed_size (K:=K) (Lk:=Lk) hn (show k+1≤n by omega)
    rw [rd_go (by rw [e1,e2];omega),e1,sealed_extract hn (show k+1≤n by omega),sealed_rd hn f (k+1) (by omega)]
    rfl
theorem sealed_cls (hn:4 * n+len S n≤1012):cls ⟨(sealed K Lk n S).toArray⟩=(List.range n).map S:=by
  unfold cls many
  rw [sealed_many hn,Nat.min_eq_left (by omega)]
  have:=sealed_rd (K:=K) (Lk:=Lk) hn n 0 (by omega)
  rw [show at' S 0=1024 from rfl] at this
  rw [this,List.range_eq_range']
end
theorem len_congr {S T:Nat→ByteArray}:∀ {k:Nat},(∀ i,i<k→S i=T i)→len S k=len T k
  | 0,_=>rfl
  | k+1,h=>by
    show len S k+(S k).size=len T k+(T k).size
    rw [len_congr (fun i hi=>h i (by omega)),h k (by omega)]
theorem at_congr {S T:Nat→ByteArray} {k:Nat} (h:∀ i,i<k→S i=T i):at' S k=at' T k:=by
  unfold at'
  rw [len_congr h]
theorem lay_congr {S T:Nat→ByteArray} (l:List UInt8):∀ {k:Nat},(∀ i,i<k→S i=T i)→lay S l k=lay T l k
  | 0,_=>rfl
  | k+1,h=>by
    show spl _ _ (S k)=spl _ _ (T k)
    rw [lay_congr l (fun i hi=>h i (by omega)),at_congr h,h k (by omega)]
theorem sealed_congr {S T:Nat→ByteArray} {K Lk n:Nat} (h:∀ i,i<n→S i=T i):sealed K Lk n S=sealed K Lk n T:=by
  unfold sealed body
  rw [lay_congr _ h]
theorem tx_range {n:Nat} (S:Nat→ByteArray) {i:Nat} (hi:i<n):tx ((List.range n).map S) i=S i:=by
  unfold tx
  rw [List.getD_eq_getElem?_getD,List.getElem?_map,List.getElem?_range hi]
  rfl
theorem sealed_good {K Lk n:Nat} {S:Nat→ByteArray} (hK:1≤K∧K≤5) (hL:Lk≤2147483647) (hn:4 * n+len S n≤1012):good ⟨(sealed K Lk n S).toArray⟩:=by
  have e1:=sealed_kind (K:=K) (Lk:=Lk) hn hK.2
  have e2:=sealed_link (K:=K) (Lk:=Lk) hn hL
  have e3:=sealed_cls (K:=K) (Lk:=Lk) hn
  have hl:((List.range n).map S).length=n:=by simp
  have hc:∀ i,i<n→tx ((List.range n).map S) i=S i:=fun i hi=>tx_range S hi
  unfold good
  rw [e1,e2,e3,hl,len_congr hc,sealed_congr hc]
  exact ⟨⟨hK.1,hK.2,hL⟩,hn,rfl⟩
end Go.Proofs.YtmgjdjjfeapcdaaGreat
