/- package pool: begin; Open of a new disk, and of what a crash left -/
import Derived.Test.YtmgjdjjfeapcdaaGreatPoQ
import Derived.Test.YtmgjdjjfeapcdaaGreatMgTP
import Derived.Test.YtmgjdjjfeapcdaaGreatMgAF
namespace Go.Proofs.YtmgjdjjfeapcdaaGreat
open Go.RowKit Go.Lib Go.Maps Go.Sort Go.Shelf
attribute [local go_sem ↓] Go.wp_at_zero Go.wp_at_succ
def L00:LS:=⟨⟨0,1,0,0⟩,0,fun _=>none,fun _=>none⟩
def K00:Pgs:=wth noP 0 (pgB 4 0)
theorem new_cm:∃ L1 S1,cmL L00 newS ((0:Nat):Int) (pgB 4 0) ((1:Nat):Int)=(0,L1,S1)∧L1.last.pages=1∧Inv L1 S1 K00 K00 1∧NoF S1∧okS S1 8:=by
  have hn:NoF newS:=⟨rfl,rfl⟩
  have hnf:=cmL_nf (L:=L00) hn ((0:Nat):Int) (pgB 4 0) ((1:Nat):Int)
  have hok:=cmL_ok (L:=L00) (S:=newS) (k:=4) ⟨⟨by decide,by decide⟩,by decide,by decide,by decide⟩ ((0:Nat):Int) (pgB 4 0) ((1:Nat):Int)
  rcases cm_out (n:=0) (pg:=1) inv_new (by omega) (by omega) (pgB_size 4 0) (by omega) (by omega) with ⟨L1,S1,e1,d1,-⟩ | ⟨L1,S1,e1,d1,p1,I1⟩
  · exfalso
    have e1:cmL L00 newS ((0:Nat):Int) (pgB 4 0) ((1:Nat):Int)=(2,L1,S1):=e1
    rw [e1] at hnf
    have:=hnf.2
    rw [d1] at this
    cases this
  · have e1:cmL L00 newS ((0:Nat):Int) (pgB 4 0) ((1:Nat):Int)=(0,L1,S1):=e1
    rw [e1] at hnf hok
    exact ⟨L1,S1,e1,p1,I1,hnf,hok⟩
set_option maxRecDepth 20000 in
set_option maxHeartbeats 1000000 in
theorem cbegin_new {W:World} {B D G bp bf:Nat} (h:PL W B D G bp bf 60000 L00 newS) (hB:B≤W.heap.size) {L1:LS} {S1:DS} (hc:cmL L00 newS ((0:Nat):Int) (pgB 4 0) ((1:Nat):Int)=(0,L1,S1)) (hI:Inv L1 S1 K00 K00 1) :
    Calls Tryz.prog 26 #[(.pointer (some ⟨G,0,none⟩))] W fun e w'=>e=.returned (.int .i64 0)∧PL w' B D G bp bf 60000 L1 S1∧Below B W w':=by
  have HC:=hide (cpages W B D G bp bf 60000 L00 newS h)
  have HP:=hide (h)
  have HB:=hide (hB)
  have HM:=hide (hc)
  have HI:=hide (hI)
  clear h hB hc hI
  go_enter Tryz.func26,Tryz.ntmps26
  go_wp2_with fail
  refine HC.out.mono ?_
  rintro e w1 ⟨rfl,hw⟩;rw [hw];clear hw
  have e0:((L00.last.pages:Nat):Int)=0:=rfl
  rw [e0]
  go_wp2_with fail
  refine (csealB (K:=4) (Lk:=0) ⟨by decide,by decide⟩ (by decide) none 0 _).mono ?_
  rintro e w2 ⟨rfl,b2⟩
  have HP2:=hide (HP.out.below b2)
  have HB2:=hide (show B≤w2.heap.size from Nat.le_trans HB.out b2.size)
  have HBW:=hide (show Below B W w2 from b2.mono HB.out)
  have HCM:=hide (ccommit ((0:Nat):Int) (pgB 4 0) ((1:Nat):Int) w2 B D G bp bf 60000 4 L00 newS HP2.out HB2.out (by decide) ⟨⟨by decide,by decide⟩,by decide,by decide,by decide⟩ (by decide) (by decide) inv_new.pre.tp.ok)
  rw [HM.out] at HCM
  clear b2
  go_wp2_with fail
  refine HCM.out.mono ?_
  rintro e w3 ⟨rfl,p3,b3⟩
  have HP3:=hide (p3.small HI.out.pos HI.out.posF)
  have HB3:=hide (HBW.out.trans b3.toBelow)
  clear p3 b3 HCM
  go_wp2
  go_ret
  exact ⟨rfl,HP3.out,HB3.out⟩
/- a pool over a new disk -/
theorem copen_first {X:World} {B D:Nat} (h:PDs X B D newD) (hB:B≤X.heap.size) :
    Calls Tryz.prog 6 #[(.pointer (some ⟨D,0,none⟩)),.int .i64 8] X fun e w'=>∃ Gp V,e=.returned (.tuple #[(.pointer (some ⟨Gp,0,none⟩)),.int .i64 0])∧PO w' B D Gp V K00 K00 1 1∧NoF V.S∧V.P.pages=1∧V.P.free=0∧Below B X w':=by
  obtain ⟨L1,S1,hc,p1,hI,hnf,hok⟩:=new_cm
  obtain ⟨T1,T2,T3,hS⟩:=beg_new
  have:=copenP (X:=X) (B:=B) (D:=D) (Z:=B) (L0:=L00) (L:=L1) (S0:=newS) (S:=S1) (F:=K00) (j:=1) (k:=8) (m:=1) (fr:=0) 8 ⟨by decide,by decide⟩
    ((copen_new X B D 0 newD T1 T2 T3 newS h hB ⟨⟨by decide,by decide⟩,by decide,by decide,by decide⟩ (by decide) rfl new_last 0 rfl hS).mono (by
      rintro e w' ⟨G,bp,bf,rfl,hL,hb⟩
      exact ⟨G,bp,bf,rfl,hL.mono (by omega),hb.toBelow⟩))
    (fun G bp bf W hW hBW=>(cbegin_new hW hBW hc hI).mono (by
      rintro e w' ⟨rfl,hL,hb⟩
      exact ⟨rfl,hL,hb,hb.mono (by omega)⟩))
    hB hB hI (Nat.le_refl _) (by decide) hok (by decide) ⟨by omega,by omega⟩ (fun n n0 n1=>⟨pgB 4 0,by
      have:n=0:=by omega
      subst this
      exact wth_at _ _ _,pgB_size _ _⟩) (by decide) (wth_at _ _ _) hnf.2
  refine this.mono ?_
  rintro e w' ⟨Gp,V,rfl,q1,q2,q3,q4,q5⟩
  rw [p1] at q1 q3
  exact ⟨Gp,V,rfl,q1,by rw [q2];exact hnf,q3,q4,q5⟩
end Go.Proofs.YtmgjdjjfeapcdaaGreat
namespace Go.Proofs.YtmgjdjjfeapcdaaGreat
open Go.RowKit Go.Lib
attribute [local go_sem ↓] Go.wp_at_zero Go.wp_at_succ
theorem ex_aux (a b:ByteArray):a.data.extract a.size (a.size+b.size) ++ b.data.extract 0 b.size=b.data:=by
  have h1:a.data.extract a.size (a.size+b.size)=#[]:=by
    apply Array.eq_empty_of_size_eq_zero
    rw [Array.size_extract]
    show min (a.size+b.size) a.size - a.size=0
    omega
  have h2:b.data.extract 0 b.size=b.data:=Array.extract_size
  rw [h1,h2,Array.empty_append]
theorem ex_mid (a b c:ByteArray):(a ++ b ++ c).extract a.size (a.size+b.size)=b:=by
  apply ByteArray.ext
  simp [ByteArray.data_extract,ByteArray.data_append,Array.extract_append]
  exact ex_aux a b
theorem ex_end (a b:ByteArray):(a ++ b).extract a.size (a ++ b).size=b:=by
  apply ByteArray.ext
  simp [ByteArray.data_extract,ByteArray.data_append,Array.extract_append]
  exact ex_aux a b
theorem bytS_one (x:UInt8) (r:ByteArray):bytS (⟨#[x]⟩ ++ r) 0=x.toNat:=by
  rw [byt_left (by show 0<1;decide)]
  rfl
theorem app_assoc (a b c:ByteArray):a ++ b ++ c=a ++ (b ++ c):=by
  apply ByteArray.ext
  simp [ByteArray.data_append]
theorem kS_keyed {k:ByteArray} (hk:k.size≤200) (r:ByteArray):kS (keyedB k ++ r)=1+k.size:=by
  unfold kS keyedB
  rw [app_assoc,bytS_one]
  have:(k.size.toUInt8).toNat=k.size % 256:=rfl
  rw [this]
  omega
theorem keyB_keyed {k:ByteArray} (hk:k.size≤200) (r:ByteArray):keyB (keyedB k ++ r)=k:=by
  unfold keyB
  rw [kS_keyed hk]
  exact ex_mid ⟨#[k.size.toUInt8]⟩ k r
theorem restB_keyed {k:ByteArray} (hk:k.size≤200) (r:ByteArray):restB (keyedB k ++ r)=r:=by
  unfold restB
  rw [kS_keyed hk,← keyedB_sz]
  exact ex_end (keyedB k) r
theorem keyedB_kS {k:ByteArray} (hk:okK k) (r:ByteArray):kS (keyedB k ++ r)≤(keyedB k ++ r).size∧isKeyedB (keyedB k ++ r)=true:=by
  have h1:=kS_keyed hk.2 r
  have h2:(keyedB k ++ r).size=1+k.size+r.size:=by rw [ByteArray.size_append,keyedB_sz]
  refine ⟨by omega,?_⟩
  unfold isKeyedB
  have h3:bytS (keyedB k ++ r) 0=k.size:=by unfold kS at h1;omega
  have:=hk.1
  have:=hk.2
  rw [h3,h1,h2]
  simp
  omega
/- what stands behind the key -/
def restI (i:It):ByteArray:=match i.pgs with
  | []=>⟨#[0]⟩ ++ i.val
  | p :: _=>⟨#[1,(i.val.size / 256).toUInt8,i.val.size.toUInt8]⟩ ++ fourB p
theorem cellI_eq (i:It):cellI i=keyedB i.key ++ restI i:=by
  unfold cellI restI
  cases i.pgs with
  | nil=>exact app_assoc _ _ _
  | cons p r=>exact app_assoc _ _ _
theorem cellI_key {i:It} (h:okI i):keyB (cellI i)=i.key∧kS (cellI i)≤(cellI i).size∧isKeyedB (cellI i)=true∧restB (cellI i)=restI i:=by
  rw [cellI_eq]
  exact ⟨keyB_keyed h.key.2 _,(keyedB_kS h.key _).1,(keyedB_kS h.key _).2,restB_keyed h.key.2 _⟩
theorem childB_key {k:ByteArray} (h:okK k) (n:Nat):keyB (childB k n)=k∧kS (childB k n)≤(childB k n).size∧isKeyedB (childB k n)=true∧restB (childB k n)=fourB n:=
  ⟨keyB_keyed h.2 _,(keyedB_kS h _).1,(keyedB_kS h _).2,restB_keyed h.2 _⟩
theorem num_four {n:Nat} (h:n<4294967296):numB (fourB n) 0=n:=by
  have b0:bytS (fourB n) 0=n / 16777216 % 256:=rfl
  have b1:bytS (fourB n) 1=n / 65536 % 256:=rfl
  have b2:bytS (fourB n) 2=n / 256 % 256:=rfl
  have b3:bytS (fourB n) 3=n % 256:=rfl
  show ((((0 * 256+bytS (fourB n) (0+0)) * 256+bytS (fourB n) (0+1)) * 256+bytS (fourB n) (0+2)) * 256+bytS (fourB n) (0+3))=n
  rw [b0,b1,b2,b3]
  omega
theorem num_end (a:ByteArray) {n:Nat} (h:n<4294967296):numB (a ++ fourB n) ((a ++ fourB n).size - 4)=n:=by
  have hs:(a ++ fourB n).size - 4=a.size:=by rw [ByteArray.size_append,fourB_sz];omega
  rw [hs]
  refine Eq.trans ?_ (num_four h)
  exact num_same fun i hi=>by rw [Nat.zero_add];exact byt_right
theorem num_child (k:ByteArray) {n:Nat} (h:n<4294967296):numB (childB k n) ((childB k n).size - 4)=n:=num_end _ h
theorem num_long (k:ByteArray) (s:Nat) {n:Nat} (h:n<4294967296):numB (longB k s n) ((longB k s n).size - 4)=n:=num_end _ h
def cellsU (l:List UInt8):Array Value:=(l.map fun b=>Value.int .u8 (b.toNat:Int)).toArray
theorem text_of (X:World) (l:List UInt8) (n:Nat) (hn:l.length=n) (cs:Array Value) (h:cs=cellsU l):(convert 59 9 (.slice (some ⟨X.heap.size,0,none⟩) n n)).run Tryz.prog (X.alloc (.cells cs 5))=.ok (.string ⟨l.toArray⟩) (X.alloc (.cells cs 5)):=by
  subst h hn
  have:=run_convert_bytes_back (P:=Tryz.prog) (X.alloc (.cells (cellsU l) 5)) 59 9 5 ⟨X.heap.size,0,none⟩ l.length l Tryz.underlying59 Tryz.underlying5 Tryz.underlying9 (fun j hj=>by
    rw [Addr.add_lit]
    have hc:(X.alloc (.cells (cellsU l) 5)).cell? ⟨X.heap.size,0+j,none⟩=(cellsU l)[j]?:=by simp only [World.cell?,World.alloc_heap_new];simp
    rw [hc]
    simp [cellsU,hj])
  exact this
theorem text_in {Y w1:World} (l:List UInt8) (n:Nat) (hn:l.length=n) (g:Nat) (hg:Y.heap[g]? = some (.cells (cellsU l) 5 (0,0))) (hb:Below Y.heap.size Y w1):(convert 59 9 (.slice (some ⟨g,0,none⟩) n n)).run Tryz.prog w1=.ok (.string ⟨l.toArray⟩) w1:=by
  subst hn
  refine run_convert_bytes_back (P:=Tryz.prog) w1 59 9 5 ⟨g,0,none⟩ l.length l Tryz.underlying59 Tryz.underlying5 Tryz.underlying9 (fun j hj=>?_)
  rw [Addr.add_lit]
  have hc:w1.cell? ⟨g,0+j,none⟩=(cellsU l)[j]?:=by
    have:=hb.block g (Array.getElem?_eq_some_iff.1 hg).1
    simp only [World.cell?,this,hg]
    simp
  rw [hc]
  simp [cellsU,hj]
theorem u8_of {n:Nat} (h:n<256):((n.toUInt8).toNat:Int)=(n:Int):=by
  have:(n.toUInt8).toNat=n % 256:=rfl
  rw [this]
  omega
set_option maxRecDepth 20000 in
theorem ckeyed (k:ByteArray) (w:World) (hk:k.size≤200):Calls Tryz.prog 182 #[.string k] w fun e w'=>e=.returned (.string (keyedB k))∧Below w.heap.size w w':=by
  have ht:=text_of w [k.size.toUInt8] 1 rfl #[.int .u8 (k.size:Int)] (by unfold cellsU;simp only [List.map_cons,List.map_nil];rw [u8_of (by omega)])
  go_enter Tryz.func182,Tryz.ntmps182
  go_wp2
  go_ret
  exact ⟨rfl,(Below.refl _ _).alloc (Nat.le_refl _) _⟩
set_option maxRecDepth 20000 in
set_option maxHeartbeats 1000000 in
theorem cchild (k:ByteArray) (p:Nat) (w:World) (hk:k.size≤200):Calls Tryz.prog 185 #[.string k,.int .i64 (p:Int)] w fun e w'=>e=.returned (.string (childB k p))∧Below w.heap.size w w':=by
  have sk:=keyedB_sz k
  have sf:=fourB_sz p
  go_enter Tryz.func185,Tryz.ntmps185
  go_wp2_with fail
  refine (ckeyed k _ hk).mono ?_
  rintro e w1 ⟨rfl,hb1⟩
  go_wp2_with fail
  refine (cfourT p _).mono ?_
  rintro e w2 ⟨rfl,hb2⟩
  go_wp2_with fail
  go_ret
  exact ⟨rfl,hb1.trans (hb2.mono hb1.size)⟩
set_option maxRecDepth 20000 in
theorem cisInPages (c:ByteArray) (w:World) (hc:kS c≤c.size) (hs:c.size≤1099511627776) (hr:0<(restB c).size):Calls Tryz.prog 159 #[.string c] w fun e w'=>e=.returned (.bool (bytS (restB c) 0 == 1))∧w'=w:=by
  have HC:=hide (crestOf c w hc hs)
  generalize restB c=r at *
  go_enter Tryz.func159,Tryz.ntmps159
  go_wp2_with fail
  refine HC.out.mono ?_
  rintro e w1 ⟨rfl,hw⟩;rw [hw];clear hw
  go_wp2_with fail
  go_ret
  exact ⟨by rw [bytS_get hr];cases hq:((bytS r 0:Int) == 1) <;> simp at hq ⊢ <;> omega,rfl⟩
set_option maxRecDepth 20000 in
theorem clongSize (c:ByteArray) (w:World) (hc:kS c≤c.size) (hs:c.size≤1099511627776) (hr:3≤(restB c).size):Calls Tryz.prog 188 #[.string c] w fun e w'=>e=.returned (.int .i64 ((bytS (restB c) 1 * 256+bytS (restB c) 2:Nat):Int))∧∃ q,w'=w.drewN q:=by
  have HC:=hide (crestOf c w hc hs)
  generalize restB c=r at *
  have b1:=bytS_lt r 1
  have b2:=bytS_lt r 2
  have g1:=bytS_get (show 1<r.size by omega)
  have g2:=bytS_get (show 2<r.size by omega)
  have hj:=join_i64 (bytS r 1) (bytS r 2) b2 (by omega)
  go_enter Tryz.func188,Tryz.ntmps188
  go_wp2_with fail
  refine HC.out.mono ?_
  rintro e w1 ⟨rfl,hw⟩;rw [hw];clear hw
  go_wp2_with fail
  go_quiet (fail)
  go_wp2_with fail
  go_ret
  exact ⟨by rw [Int.natCast_add,Int.natCast_mul];rfl,⟨_,rfl⟩⟩
end Go.Proofs.YtmgjdjjfeapcdaaGreat
namespace Go.Proofs.YtmgjdjjfeapcdaaGreat
open Go.RowKit Go.Lib
attribute [local go_sem ↓] Go.wp_at_zero Go.wp_at_succ
theorem rt_mv (X:World) (a:Act) (d:Nat) (t:TypeId) (p:String) (f:Array Edge) (i:Nat) {v:Value} (he:a.eval (.tmp i)=v):(execOp a.eval { dst:=some d,op:=.move (.tmp i),type:=t,pos:=p,after:=f,guard:=none }).run Tryz.prog X=.ok (.value v) X:=by
  subst he
  simp only [execOp]
  go_simp
theorem rt_as (X:World) (a:Act) (d:Nat) (t:TypeId) (p:String) (f:Array Edge) (i:Nat) {v:Value} (he:a.eval (.tmp i)=v):(execOp a.eval { dst:=some d,op:=.assign (.tmp i),type:=t,pos:=p,after:=f,guard:=none }).run Tryz.prog X=.ok (.value v) X:=by
  subst he
  simp only [execOp]
  go_simp
theorem rt_add (X:World) (a:Act) (d:Nat) (t:TypeId) (p:String) (f:Array Edge) (i j:Nat) (x y:ByteArray) (hz:x.size+y.size≤1000000) (hi:a.eval (.tmp i)=.string x) (hj:a.eval (.tmp j)=.string y):(execOp a.eval { dst:=some d,op:=.binOp .add 9 (.tmp i) (.tmp j) 9,type:=t,pos:=p,after:=f,guard:=none }).run Tryz.prog X=.ok (.value (.string (x ++ y))) X:=by
  have h1:(x.size:Int)+(y.size:Int)≤9223372036854775807:=by omega
  have h2:x.size+y.size≤9223372036854775807:=by omega
  simp only [execOp,hi,hj]
  go_simp
theorem rt_cK (X:World) (a:Act) (d:Nat) (t:TypeId) (p:String) (f:Array Edge) (i:Nat) {v:Value} (he:a.eval (.tmp i)=v):(execOp a.eval { dst:=some d,op:=.call { callee:=.value (.func 182),args:=#[.tmp i],argTypes:=#[9] },type:=t,pos:=p,after:=f,guard:=none }).run Tryz.prog X=.ok (.enter 182 #[v]) X:=by
  subst he
  simp only [execOp]
  go_simp
theorem rt_cF (X:World) (a:Act) (d:Nat) (t:TypeId) (p:String) (f:Array Edge) (i:Nat) {v:Value} (he:a.eval (.tmp i)=v):(execOp a.eval { dst:=some d,op:=.call { callee:=.value (.func 183),args:=#[.tmp i],argTypes:=#[3] },type:=t,pos:=p,after:=f,guard:=none }).run Tryz.prog X=.ok (.enter 183 #[v]) X:=by
  subst he
  simp only [execOp]
  go_simp
theorem rt_cv (X:World) (a:Act) (d:Nat) (t:TypeId) (p:String) (f:Array Edge) (i g n:Nat) (l:List UInt8) (hn:l.length=n) (hc:X.heap[g]? = some (.cells (cellsU l) 5 (0,0))) (he:a.eval (.tmp i)=.slice (some ⟨g,0,none⟩) n n):(execOp a.eval { dst:=some d,op:=.convert 59 9 (.tmp i),type:=t,pos:=p,after:=f,guard:=none }).run Tryz.prog X=.ok (.value (.string ⟨l.toArray⟩)) X:=by
  have h:=text_in l n hn g hc (Below.refl X.heap.size X)
  simp only [execOp,he,Sem.run_bind,h,Result.andThen_ok,Sem.run_pure]
theorem rt_b1 (X:World) (a:Act) (d:Nat) (t:TypeId) (p:String) (f:Array Edge):(execOp a.eval { dst:=some d,op:=.buildSlice 59 1 #[(0,.const (.int .u8 0))],type:=t,pos:=p,after:=f,guard:=none }).run Tryz.prog X=.ok (.value (.slice (some ⟨X.heap.size,0,none⟩) 1 1)) (X.alloc (.cells (cellsU [0]) 5)):=by
  simp only [execOp]
  go_simp
  rfl
theorem rt_b3 (X:World) (a:Act) (d:Nat) (t:TypeId) (p:String) (f:Array Edge) (i j x y:Nat) (hi:a.eval (.tmp i)=.int .u8 (x.toUInt8.toNat:Int)) (hj:a.eval (.tmp j)=.int .u8 (y.toUInt8.toNat:Int)):(execOp a.eval { dst:=some d,op:=.buildSlice 59 3 #[(0,.const (.int .u8 1)),(1,.tmp i),(2,.tmp j)],type:=t,pos:=p,after:=f,guard:=none }).run Tryz.prog X=.ok (.value (.slice (some ⟨X.heap.size,0,none⟩) 3 3)) (X.alloc (.cells (cellsU [1,x.toUInt8,y.toUInt8]) 5)):=by
  have hi':a.tmps[i]?.getD undef=.int .u8 (x.toUInt8.toNat:Int):=by simpa [Act.eval] using hi
  have hj':a.tmps[j]?.getD undef=.int .u8 (y.toUInt8.toNat:Int):=by simpa [Act.eval] using hj
  clear hi hj
  generalize x.toUInt8=x8 at *
  generalize y.toUInt8=y8 at *
  simp only [execOp]
  go_simp
  rfl
theorem rt_sh (X:World) (a:Act) (d:Nat) (t:TypeId) (p:String) (f:Array Edge) (i n:Nat) (he:a.eval (.tmp i)=.int .i64 (n:Int)):(execOp a.eval { dst:=some d,op:=.binOp .shr 3 (.tmp i) (.const (.int .u64 8)) 158,type:=t,pos:=p,after:=f,guard:=none }).run Tryz.prog X=.ok (.value (.int .i64 ((n / 256:Nat):Int))) X:=by
  simp only [execOp,he]
  go_simp
theorem rt_c8 (X:World) (a:Act) (d:Nat) (t:TypeId) (p:String) (f:Array Edge) (i n:Nat) (he:a.eval (.tmp i)=.int .i64 (n:Int)):(execOp a.eval { dst:=some d,op:=.convert 3 5 (.tmp i),type:=t,pos:=p,after:=f,guard:=none }).run Tryz.prog X=.ok (.value (.int .u8 (n.toUInt8.toNat:Int))) X:=by
  have e1:IntKind.u8.wrap ((n:Nat):Int)=(n.toUInt8.toNat:Int):=by
    have:n.toUInt8.toNat=n % 256:=rfl
    rw [IntKind.wrap_u8',this];omega
  simp only [execOp,he]
  go_simp
def WregI (wc:World) (k v:ByteArray) (L:Nat→Bool) (a:Act) (X:World):Prop:=
  Below wc.heap.size wc X ∧
  (L 0=true→a.eval (.tmp 5)=.string k) ∧
  (L 1=true→a.eval (.tmp 6)=.string (keyedB k)) ∧
  (L 2=true→∃ g,a.eval (.tmp 7)=.slice (some ⟨g,0,none⟩) 1 1∧g<X.heap.size∧X.heap[g]? = some (.cells (cellsU [0]) 5 (0,0))) ∧
  (L 3=true→a.eval (.tmp 8)=.string ⟨#[0]⟩) ∧
  (L 4=true→a.eval (.tmp 9)=.string (keyedB k ++ ⟨#[0]⟩)) ∧
  (L 5=true→a.eval (.tmp 10)=.string v) ∧
  (L 6=true→a.eval (.tmp 11)=.string (keyedB k ++ ⟨#[0]⟩ ++ v)) ∧
  (L 7=true→a.eval (.tmp 4)=.string (keyedB k ++ ⟨#[0]⟩ ++ v))
def IregI (wc:World) (k v:ByteArray) (a0:Act) (L:Nat→Bool) (a:Act) (X:World):Prop:=Fr [5,6,7,8,9,10,11,4] a0 a∧WregI wc k v L a X
set_option maxHeartbeats 4000000 in
theorem regI {Q:Exit→Act→World→Prop} {ops:Array Oper} {id:Nat} {a0:Act} {wc:World} (k v:ByteArray) (hk:k.size≤200) (hv:v.size≤3000)
    (hsz:11<a0.tmps.size) (e0:a0.eval (.tmp 0)=.string k) (e1:a0.eval (.tmp 1)=.string v)
    {t0 t1 t2 t3 t4 t5 t6 t7:TypeId} {p0 p1 p2 p3 p4 p5 p6 p7:String} {f0 f1 f2 f3 f4 f5 f6 f7:Array Edge}
    (hops:ops=#[⟨some 5,.move (.tmp 0),t0,p0,f0,none⟩,⟨some 6,.call { callee:=.value (.func 182),args:=#[.tmp 5],argTypes:=#[9] },t1,p1,f1,none⟩,⟨some 7,.buildSlice 59 1 #[(0,.const (.int .u8 0))],t2,p2,f2,none⟩,⟨some 8,.convert 59 9 (.tmp 7),t3,p3,f3,none⟩,⟨some 9,.binOp .add 9 (.tmp 6) (.tmp 8) 9,t4,p4,f4,none⟩,⟨some 10,.move (.tmp 1),t5,p5,f5,none⟩,⟨some 11,.binOp .add 9 (.tmp 9) (.tmp 10) 9,t6,p6,f6,none⟩,⟨some 4,.assign (.tmp 11),t7,p7,f7,none⟩])
    (hb:backB ops=true) (d1:depB f1 [0]=true) (d3:depB f3 [2]=true) (d4:depB f4 [1,3]=true) (d6:depB f6 [4,5]=true) (d7:depB f7 [6]=true) (hm:Tryz.prog.follows .mixedOrders=true)
    (hQ:∀ (u5 u6 u7 u8 u9 u10 u11:Value) X,Below wc.heap.size wc X→Q .normal ⟨sets [(5,u5),(6,u6),(7,u7),(8,u8),(9,u9),(10,u10),(11,u11),(4,.string (keyedB k ++ ⟨#[0]⟩ ++ v))] a0.tmps,a0.defers⟩ X) :
    (Code.region id ops true).wp Tryz.prog Q a0 wc:=by
  refine wp_region_inv hm (IregI wc k v) (backB_spec hb) ?_ ?_ ?_
  · refine ⟨Fr.refl _ _,(Below.refl _ _).drew,?_⟩
    refine ⟨?_,?_,?_,?_,?_,?_,?_,?_⟩ <;> intro h <;> exact absurd h (by decide)
  · intro L a X hI q o ho hL hd
    obtain ⟨hF,hB,g0,g1,g2,g3,g4,g5,g6,g7⟩:=hI
    have hs:a.tmps.size=a0.tmps.size:=hF.2.1
    have E0:a.eval (.tmp 0)=.string k:=by rw [hF.eval (by decide),e0]
    have E1:a.eval (.tmp 1)=.string v:=by rw [hF.eval (by decide),e1]
    subst hops
    obtain _ | _ | _ | _ | _ | _ | _ | _ | q:=q
    · cases ho
      refine wpOp_value rfl rfl (rt_mv X a 5 _ _ _ 0 E0) ?_
      show IregI _ _ _ a0 (upd L 0) (a.put (some 5) _) _
      exact ⟨hF.put (by decide) _,hB,(fun _=>eval_put_same (by omega) _),(fun h=>by rw [eval_put_ne (by decide)];exact g1 h),(fun h=>by obtain ⟨g,e,z,r⟩:=g2 h;exact ⟨g,by rw [eval_put_ne (by decide)];exact e,z,r⟩),(fun h=>by rw [eval_put_ne (by decide)];exact g3 h),(fun h=>by rw [eval_put_ne (by decide)];exact g4 h),(fun h=>by rw [eval_put_ne (by decide)];exact g5 h),(fun h=>by rw [eval_put_ne (by decide)];exact g6 h),(fun h=>by rw [eval_put_ne (by decide)];exact g7 h)⟩
    · cases ho
      have hdj:=depB_spec d1 hd
      refine wpOp_call (R:=fun u X'=>u=.string (keyedB k)∧Below X.heap.size X X') rfl rfl (rt_cK X a 6 _ _ _ 5 (g0 (hdj 0 (by decide)))) ((ckeyed k X hk).mono fun e X' h=>⟨_,h.1,rfl,h.2⟩) ?_
      rintro u X' ⟨rfl,hb'⟩
      show IregI _ _ _ a0 (upd L 1) (a.put (some 6) _) _
      exact ⟨hF.put (by decide) _,keepBelow hB hb',(fun h=>by rw [eval_put_ne (by decide)];exact g0 h),(fun _=>eval_put_same (by omega) _),(fun h=>by obtain ⟨g,e,z,r⟩:=g2 h;exact ⟨g,by rw [eval_put_ne (by decide)];exact e,keepSize hb' z,(hb'.block g z).trans r⟩),(fun h=>by rw [eval_put_ne (by decide)];exact g3 h),(fun h=>by rw [eval_put_ne (by decide)];exact g4 h),(fun h=>by rw [eval_put_ne (by decide)];exact g5 h),(fun h=>by rw [eval_put_ne (by decide)];exact g6 h),(fun h=>by rw [eval_put_ne (by decide)];exact g7 h)⟩
    · cases ho
      have hb':Below X.heap.size X (X.alloc (.cells (cellsU [0]) 5)):=(Below.refl _ _).alloc (Nat.le_refl _) _
      refine wpOp_value rfl rfl (rt_b1 X a 7 _ _ _) ?_
      show IregI _ _ _ a0 (upd L 2) (a.put (some 7) _) _
      exact ⟨hF.put (by decide) _,keepBelow hB hb',(fun h=>by rw [eval_put_ne (by decide)];exact g0 h),(fun h=>by rw [eval_put_ne (by decide)];exact g1 h),(fun _=>⟨X.heap.size,eval_put_same (by omega) _,by simp,World.alloc_heap_new X _⟩),(fun h=>by rw [eval_put_ne (by decide)];exact g3 h),(fun h=>by rw [eval_put_ne (by decide)];exact g4 h),(fun h=>by rw [eval_put_ne (by decide)];exact g5 h),(fun h=>by rw [eval_put_ne (by decide)];exact g6 h),(fun h=>by rw [eval_put_ne (by decide)];exact g7 h)⟩
    · cases ho
      have hdj:=depB_spec d3 hd
      obtain ⟨g,xg,zg,r0⟩:=g2 (hdj 2 (by decide))
      refine wpOp_value rfl rfl (rt_cv X a 8 _ _ _ 7 g 1 [0] rfl r0 xg) ?_
      show IregI _ _ _ a0 (upd L 3) (a.put (some 8) _) _
      exact ⟨hF.put (by decide) _,hB,(fun h=>by rw [eval_put_ne (by decide)];exact g0 h),(fun h=>by rw [eval_put_ne (by decide)];exact g1 h),(fun h=>by obtain ⟨g,e,z,r⟩:=g2 h;exact ⟨g,by rw [eval_put_ne (by decide)];exact e,z,r⟩),(fun _=>eval_put_same (by omega) _),(fun h=>by rw [eval_put_ne (by decide)];exact g4 h),(fun h=>by rw [eval_put_ne (by decide)];exact g5 h),(fun h=>by rw [eval_put_ne (by decide)];exact g6 h),(fun h=>by rw [eval_put_ne (by decide)];exact g7 h)⟩
    · cases ho
      have hdj:=depB_spec d4 hd
      refine wpOp_value rfl rfl (rt_add X a 9 _ _ _ 6 8 _ _ (by rw [keyedB_sz];show _+1≤_;omega) (g1 (hdj 1 (by decide))) (g3 (hdj 3 (by decide)))) ?_
      show IregI _ _ _ a0 (upd L 4) (a.put (some 9) _) _
      exact ⟨hF.put (by decide) _,hB,(fun h=>by rw [eval_put_ne (by decide)];exact g0 h),(fun h=>by rw [eval_put_ne (by decide)];exact g1 h),(fun h=>by obtain ⟨g,e,z,r⟩:=g2 h;exact ⟨g,by rw [eval_put_ne (by decide)];exact e,z,r⟩),(fun h=>by rw [eval_put_ne (by decide)];exact g3 h),(fun _=>eval_put_same (by omega) _),(fun h=>by rw [eval_put_ne (by decide)];exact g5 h),(fun h=>by rw [eval_put_ne (by decide)];exact g6 h),(fun h=>by rw [eval_put_ne (by decide)];exact g7 h)⟩
    · cases ho
      refine wpOp_value rfl rfl (rt_mv X a 10 _ _ _ 1 E1) ?_
      show IregI _ _ _ a0 (upd L 5) (a.put (some 10) _) _
      exact ⟨hF.put (by decide) _,hB,(fun h=>by rw [eval_put_ne (by decide)];exact g0 h),(fun h=>by rw [eval_put_ne (by decide)];exact g1 h),(fun h=>by obtain ⟨g,e,z,r⟩:=g2 h;exact ⟨g,by rw [eval_put_ne (by decide)];exact e,z,r⟩),(fun h=>by rw [eval_put_ne (by decide)];exact g3 h),(fun h=>by rw [eval_put_ne (by decide)];exact g4 h),(fun _=>eval_put_same (by omega) _),(fun h=>by rw [eval_put_ne (by decide)];exact g6 h),(fun h=>by rw [eval_put_ne (by decide)];exact g7 h)⟩
    · cases ho
      have hdj:=depB_spec d6 hd
      refine wpOp_value rfl rfl (rt_add X a 11 _ _ _ 9 10 _ _ (by rw [ByteArray.size_append,keyedB_sz];show _+1+_≤_;omega) (g4 (hdj 4 (by decide))) (g5 (hdj 5 (by decide)))) ?_
      show IregI _ _ _ a0 (upd L 6) (a.put (some 11) _) _
      exact ⟨hF.put (by decide) _,hB,(fun h=>by rw [eval_put_ne (by decide)];exact g0 h),(fun h=>by rw [eval_put_ne (by decide)];exact g1 h),(fun h=>by obtain ⟨g,e,z,r⟩:=g2 h;exact ⟨g,by rw [eval_put_ne (by decide)];exact e,z,r⟩),(fun h=>by rw [eval_put_ne (by decide)];exact g3 h),(fun h=>by rw [eval_put_ne (by decide)];exact g4 h),(fun h=>by rw [eval_put_ne (by decide)];exact g5 h),(fun _=>eval_put_same (by omega) _),(fun h=>by rw [eval_put_ne (by decide)];exact g7 h)⟩
    · cases ho
      have hdj:=depB_spec d7 hd
      refine wpOp_value rfl rfl (rt_as X a 4 _ _ _ 11 (g6 (hdj 6 (by decide)))) ?_
      show IregI _ _ _ a0 (upd L 7) (a.put (some 4) _) _
      exact ⟨hF.put (by decide) _,hB,(fun h=>by rw [eval_put_ne (by decide)];exact g0 h),(fun h=>by rw [eval_put_ne (by decide)];exact g1 h),(fun h=>by obtain ⟨g,e,z,r⟩:=g2 h;exact ⟨g,by rw [eval_put_ne (by decide)];exact e,z,r⟩),(fun h=>by rw [eval_put_ne (by decide)];exact g3 h),(fun h=>by rw [eval_put_ne (by decide)];exact g4 h),(fun h=>by rw [eval_put_ne (by decide)];exact g5 h),(fun h=>by rw [eval_put_ne (by decide)];exact g6 h),(fun _=>eval_put_same (by omega) _)⟩
    · cases ho
  · intro L a X hI hall
    subst hops
    obtain ⟨hF,hB,g0,g1,g2,g3,g4,g5,g6,g7⟩:=hI
    have hs:a.tmps.size=a0.tmps.size:=hF.2.1
    have hv:=g7 (hall 7 (by simp))
    rw [hF.eq [(5,a.eval (.tmp 5)),(6,a.eval (.tmp 6)),(7,a.eval (.tmp 7)),(8,a.eval (.tmp 8)),(9,a.eval (.tmp 9)),(10,a.eval (.tmp 10)),(11,a.eval (.tmp 11)),(4,.string (keyedB k ++ ⟨#[0]⟩ ++ v))] (by simp) (by simp [hv];omega)]
    exact hQ _ _ _ _ _ _ _ X hB
set_option maxRecDepth 20000 in
set_option maxHeartbeats 1000000 in
theorem cinline (k v:ByteArray) (w:World) (hk:k.size≤200) (hv:v.size≤3000):Calls Tryz.prog 153 #[.string k,.string v] w fun e w'=>e=.returned (.string (inlineB k v))∧Below w.heap.size w w':=by
  go_enter Tryz.func153,Tryz.ntmps153
  go_wp2_with fail
  refine regI k v hk hv (by simp) rfl rfl rfl (by kernel_rfl) (by kernel_rfl) (by kernel_rfl) (by kernel_rfl) (by kernel_rfl) (by kernel_rfl) (by kernel_rfl) ?_
  intro u5 u6 u7 u8 u9 u10 u11 X hX
  have HX:=hide (hX)
  have HI:=hide (show keyedB k ++ ⟨#[0]⟩ ++ v=inlineB k v from rfl)
  rw [HI.out]
  clear hX
  simp only [sets,List.setIfInBounds_toArray,List.set_cons_zero,List.set_cons_succ]
  go_wp2
  go_ret
  exact ⟨rfl,HX.out⟩
def WregL (wc:World) (k:ByteArray) (n pg:Nat) (L:Nat→Bool) (a:Act) (X:World):Prop:=
  Below wc.heap.size wc X ∧
  (L 0=true→a.eval (.tmp 7)=.string k) ∧
  (L 1=true→a.eval (.tmp 8)=.string (keyedB k)) ∧
  (L 2=true→a.eval (.tmp 9)=.int .i64 (n:Int)) ∧
  (L 3=true→a.eval (.tmp 10)=.int .i64 ((n / 256:Nat):Int)) ∧
  (L 4=true→a.eval (.tmp 11)=.int .u8 ((n / 256).toUInt8.toNat:Int)) ∧
  (L 5=true→a.eval (.tmp 12)=.int .i64 (n:Int)) ∧
  (L 6=true→a.eval (.tmp 13)=.int .u8 (n.toUInt8.toNat:Int)) ∧
  (L 7=true→∃ g,a.eval (.tmp 14)=.slice (some ⟨g,0,none⟩) 3 3∧g<X.heap.size∧X.heap[g]? = some (.cells (cellsU [1,(n / 256).toUInt8,n.toUInt8]) 5 (0,0))) ∧
  (L 8=true→a.eval (.tmp 15)=.string ⟨#[1,(n / 256).toUInt8,n.toUInt8]⟩) ∧
  (L 9=true→a.eval (.tmp 16)=.string (keyedB k ++ ⟨#[1,(n / 256).toUInt8,n.toUInt8]⟩)) ∧
  (L 10=true→a.eval (.tmp 17)=.int .i64 (pg:Int)) ∧
  (L 11=true→a.eval (.tmp 18)=.string (fourB pg)) ∧
  (L 12=true→a.eval (.tmp 19)=.string (keyedB k ++ ⟨#[1,(n / 256).toUInt8,n.toUInt8]⟩ ++ fourB pg)) ∧
  (L 13=true→a.eval (.tmp 6)=.string (keyedB k ++ ⟨#[1,(n / 256).toUInt8,n.toUInt8]⟩ ++ fourB pg))
def IregL (wc:World) (k:ByteArray) (n pg:Nat) (a0:Act) (L:Nat→Bool) (a:Act) (X:World):Prop:=Fr [7,8,9,10,11,12,13,14,15,16,17,18,19,6] a0 a∧WregL wc k n pg L a X
set_option maxHeartbeats 4000000 in
theorem regL {Q:Exit→Act→World→Prop} {ops:Array Oper} {id:Nat} {a0:Act} {wc:World} (k:ByteArray) (n pg:Nat) (hk:k.size≤200)
    (hsz:19<a0.tmps.size) (e0:a0.eval (.tmp 0)=.string k) (e1:a0.eval (.tmp 1)=.int .i64 (n:Int)) (e2:a0.eval (.tmp 2)=.int .i64 (pg:Int))
    {t0 t1 t2 t3 t4 t5 t6 t7 t8 t9 t10 t11 t12 t13:TypeId} {p0 p1 p2 p3 p4 p5 p6 p7 p8 p9 p10 p11 p12 p13:String} {f0 f1 f2 f3 f4 f5 f6 f7 f8 f9 f10 f11 f12 f13:Array Edge}
    (hops:ops=#[⟨some 7,.move (.tmp 0),t0,p0,f0,none⟩,⟨some 8,.call { callee:=.value (.func 182),args:=#[.tmp 7],argTypes:=#[9] },t1,p1,f1,none⟩,⟨some 9,.move (.tmp 1),t2,p2,f2,none⟩,⟨some 10,.binOp .shr 3 (.tmp 9) (.const (.int .u64 8)) 158,t3,p3,f3,none⟩,⟨some 11,.convert 3 5 (.tmp 10),t4,p4,f4,none⟩,⟨some 12,.move (.tmp 1),t5,p5,f5,none⟩,⟨some 13,.convert 3 5 (.tmp 12),t6,p6,f6,none⟩,⟨some 14,.buildSlice 59 3 #[(0,.const (.int .u8 1)),(1,.tmp 11),(2,.tmp 13)],t7,p7,f7,none⟩,⟨some 15,.convert 59 9 (.tmp 14),t8,p8,f8,none⟩,⟨some 16,.binOp .add 9 (.tmp 8) (.tmp 15) 9,t9,p9,f9,none⟩,⟨some 17,.move (.tmp 2),t10,p10,f10,none⟩,⟨some 18,.call { callee:=.value (.func 183),args:=#[.tmp 17],argTypes:=#[3] },t11,p11,f11,none⟩,⟨some 19,.binOp .add 9 (.tmp 16) (.tmp 18) 9,t12,p12,f12,none⟩,⟨some 6,.assign (.tmp 19),t13,p13,f13,none⟩])
    (hb:backB ops=true) (d1:depB f1 [0]=true) (d3:depB f3 [2]=true) (d4:depB f4 [3]=true) (d6:depB f6 [5]=true) (d7:depB f7 [4,6]=true) (d8:depB f8 [7]=true) (d9:depB f9 [1,8]=true) (d11:depB f11 [10]=true) (d12:depB f12 [9,11]=true) (d13:depB f13 [12]=true) (hm:Tryz.prog.follows .mixedOrders=true)
    (hQ:∀ (u7 u8 u9 u10 u11 u12 u13 u14 u15 u16 u17 u18 u19:Value) X,Below wc.heap.size wc X→Q .normal ⟨sets [(7,u7),(8,u8),(9,u9),(10,u10),(11,u11),(12,u12),(13,u13),(14,u14),(15,u15),(16,u16),(17,u17),(18,u18),(19,u19),(6,.string (keyedB k ++ ⟨#[1,(n / 256).toUInt8,n.toUInt8]⟩ ++ fourB pg))] a0.tmps,a0.defers⟩ X) :
    (Code.region id ops true).wp Tryz.prog Q a0 wc:=by
  refine wp_region_inv hm (IregL wc k n pg) (backB_spec hb) ?_ ?_ ?_
  · refine ⟨Fr.refl _ _,(Below.refl _ _).drew,?_⟩
    refine ⟨?_,?_,?_,?_,?_,?_,?_,?_,?_,?_,?_,?_,?_,?_⟩ <;> intro h <;> exact absurd h (by decide)
  · intro L a X hI q o ho hL hd
    obtain ⟨hF,hB,g0,g1,g2,g3,g4,g5,g6,g7,g8,g9,g10,g11,g12,g13⟩:=hI
    have hs:a.tmps.size=a0.tmps.size:=hF.2.1
    have E0:a.eval (.tmp 0)=.string k:=by rw [hF.eval (by decide),e0]
    have E1:a.eval (.tmp 1)=.int .i64 (n:Int):=by rw [hF.eval (by decide),e1]
    have E2:a.eval (.tmp 2)=.int .i64 (pg:Int):=by rw [hF.eval (by decide),e2]
    subst hops
    obtain _ | _ | _ | _ | _ | _ | _ | _ | _ | _ | _ | _ | _ | _ | q:=q
    · cases ho
      refine wpOp_value rfl rfl (rt_mv X a 7 _ _ _ 0 E0) ?_
      show IregL _ _ _ _ a0 (upd L 0) (a.put (some 7) _) _
      exact ⟨hF.put (by decide) _,hB,(fun _=>eval_put_same (by omega) _),(fun h=>by rw [eval_put_ne (by decide)];exact g1 h),(fun h=>by rw [eval_put_ne (by decide)];exact g2 h),(fun h=>by rw [eval_put_ne (by decide)];exact g3 h),(fun h=>by rw [eval_put_ne (by decide)];exact g4 h),(fun h=>by rw [eval_put_ne (by decide)];exact g5 h),(fun h=>by rw [eval_put_ne (by decide)];exact g6 h),(fun h=>by obtain ⟨g,e,z,r⟩:=g7 h;exact ⟨g,by rw [eval_put_ne (by decide)];exact e,z,r⟩),(fun h=>by rw [eval_put_ne (by decide)];exact g8 h),(fun h=>by rw [eval_put_ne (by decide)];exact g9 h),(fun h=>by rw [eval_put_ne (by decide)];exact g10 h),(fun h=>by rw [eval_put_ne (by decide)];exact g11 h),(fun h=>by rw [eval_put_ne (by decide)];exact g12 h),(fun h=>by rw [eval_put_ne (by decide)];exact g13 h)⟩
    · cases ho
      have hdj:=depB_spec d1 hd
      refine wpOp_call (R:=fun u X'=>u=.string (keyedB k)∧Below X.heap.size X X') rfl rfl (rt_cK X a 8 _ _ _ 7 (g0 (hdj 0 (by decide)))) ((ckeyed k X hk).mono fun e X' h=>⟨_,h.1,rfl,h.2⟩) ?_
      rintro u X' ⟨rfl,hb'⟩
      show IregL _ _ _ _ a0 (upd L 1) (a.put (some 8) _) _
      exact ⟨hF.put (by decide) _,keepBelow hB hb',(fun h=>by rw [eval_put_ne (by decide)];exact g0 h),(fun _=>eval_put_same (by omega) _),(fun h=>by rw [eval_put_ne (by decide)];exact g2 h),(fun h=>by rw [eval_put_ne (by decide)];exact g3 h),(fun h=>by rw [eval_put_ne (by decide)];exact g4 h),(fun h=>by rw [eval_put_ne (by decide)];exact g5 h),(fun h=>by rw [eval_put_ne (by decide)];exact g6 h),(fun h=>by obtain ⟨g,e,z,r⟩:=g7 h;exact ⟨g,by rw [eval_put_ne (by decide)];exact e,keepSize hb' z,(hb'.block g z).trans r⟩),(fun h=>by rw [eval_put_ne (by decide)];exact g8 h),(fun h=>by rw [eval_put_ne (by decide)];exact g9 h),(fun h=>by rw [eval_put_ne (by decide)];exact g10 h),(fun h=>by rw [eval_put_ne (by decide)];exact g11 h),(fun h=>by rw [eval_put_ne (by decide)];exact g12 h),(fun h=>by rw [eval_put_ne (by decide)];exact g13 h)⟩
    · cases ho
      refine wpOp_value rfl rfl (rt_mv X a 9 _ _ _ 1 E1) ?_
      show IregL _ _ _ _ a0 (upd L 2) (a.put (some 9) _) _
      exact ⟨hF.put (by decide) _,hB,(fun h=>by rw [eval_put_ne (by decide)];exact g0 h),(fun h=>by rw [eval_put_ne (by decide)];exact g1 h),(fun _=>eval_put_same (by omega) _),(fun h=>by rw [eval_put_ne (by decide)];exact g3 h),(fun h=>by rw [eval_put_ne (by decide)];exact g4 h),(fun h=>by rw [eval_put_ne (by decide)];exact g5 h),(fun h=>by rw [eval_put_ne (by decide)];exact g6 h),(fun h=>by obtain ⟨g,e,z,r⟩:=g7 h;exact ⟨g,by rw [eval_put_ne (by decide)];exact e,z,r⟩),(fun h=>by rw [eval_put_ne (by decide)];exact g8 h),(fun h=>by rw [eval_put_ne (by decide)];exact g9 h),(fun h=>by rw [eval_put_ne (by decide)];exact g10 h),(fun h=>by rw [eval_put_ne (by decide)];exact g11 h),(fun h=>by rw [eval_put_ne (by decide)];exact g12 h),(fun h=>by rw [eval_put_ne (by decide)];exact g13 h)⟩
    · cases ho
      have hdj:=depB_spec d3 hd
      refine wpOp_value rfl rfl (rt_sh X a 10 _ _ _ 9 n (g2 (hdj 2 (by decide)))) ?_
      show IregL _ _ _ _ a0 (upd L 3) (a.put (some 10) _) _
      exact ⟨hF.put (by decide) _,hB,(fun h=>by rw [eval_put_ne (by decide)];exact g0 h),(fun h=>by rw [eval_put_ne (by decide)];exact g1 h),(fun h=>by rw [eval_put_ne (by decide)];exact g2 h),(fun _=>eval_put_same (by omega) _),(fun h=>by rw [eval_put_ne (by decide)];exact g4 h),(fun h=>by rw [eval_put_ne (by decide)];exact g5 h),(fun h=>by rw [eval_put_ne (by decide)];exact g6 h),(fun h=>by obtain ⟨g,e,z,r⟩:=g7 h;exact ⟨g,by rw [eval_put_ne (by decide)];exact e,z,r⟩),(fun h=>by rw [eval_put_ne (by decide)];exact g8 h),(fun h=>by rw [eval_put_ne (by decide)];exact g9 h),(fun h=>by rw [eval_put_ne (by decide)];exact g10 h),(fun h=>by rw [eval_put_ne (by decide)];exact g11 h),(fun h=>by rw [eval_put_ne (by decide)];exact g12 h),(fun h=>by rw [eval_put_ne (by decide)];exact g13 h)⟩
    · cases ho
      have hdj:=depB_spec d4 hd
      refine wpOp_value rfl rfl (rt_c8 X a 11 _ _ _ 10 (n / 256) (g3 (hdj 3 (by decide)))) ?_
      show IregL _ _ _ _ a0 (upd L 4) (a.put (some 11) _) _
      exact ⟨hF.put (by decide) _,hB,(fun h=>by rw [eval_put_ne (by decide)];exact g0 h),(fun h=>by rw [eval_put_ne (by decide)];exact g1 h),(fun h=>by rw [eval_put_ne (by decide)];exact g2 h),(fun h=>by rw [eval_put_ne (by decide)];exact g3 h),(fun _=>eval_put_same (by omega) _),(fun h=>by rw [eval_put_ne (by decide)];exact g5 h),(fun h=>by rw [eval_put_ne (by decide)];exact g6 h),(fun h=>by obtain ⟨g,e,z,r⟩:=g7 h;exact ⟨g,by rw [eval_put_ne (by decide)];exact e,z,r⟩),(fun h=>by rw [eval_put_ne (by decide)];exact g8 h),(fun h=>by rw [eval_put_ne (by decide)];exact g9 h),(fun h=>by rw [eval_put_ne (by decide)];exact g10 h),(fun h=>by rw [eval_put_ne (by decide)];exact g11 h),(fun h=>by rw [eval_put_ne (by decide)];exact g12 h),(fun h=>by rw [eval_put_ne (by decide)];exact g13 h)⟩
    · cases ho
      refine wpOp_value rfl rfl (rt_mv X a 12 _ _ _ 1 E1) ?_
      show IregL _ _ _ _ a0 (upd L 5) (a.put (some 12) _) _
      exact ⟨hF.put (by decide) _,hB,(fun h=>by rw [eval_put_ne (by decide)];exact g0 h),(fun h=>by rw [eval_put_ne (by decide)];exact g1 h),(fun h=>by rw [eval_put_ne (by decide)];exact g2 h),(fun h=>by rw [eval_put_ne (by decide)];exact g3 h),(fun h=>by rw [eval_put_ne (by decide)];exact g4 h),(fun _=>eval_put_same (by omega) _),(fun h=>by rw [eval_put_ne (by decide)];exact g6 h),(fun h=>by obtain ⟨g,e,z,r⟩:=g7 h;exact ⟨g,by rw [eval_put_ne (by decide)];exact e,z,r⟩),(fun h=>by rw [eval_put_ne (by decide)];exact g8 h),(fun h=>by rw [eval_put_ne (by decide)];exact g9 h),(fun h=>by rw [eval_put_ne (by decide)];exact g10 h),(fun h=>by rw [eval_put_ne (by decide)];exact g11 h),(fun h=>by rw [eval_put_ne (by decide)];exact g12 h),(fun h=>by rw [eval_put_ne (by decide)];exact g13 h)⟩
    · cases ho
      have hdj:=depB_spec d6 hd
      refine wpOp_value rfl rfl (rt_c8 X a 13 _ _ _ 12 n (g5 (hdj 5 (by decide)))) ?_
      show IregL _ _ _ _ a0 (upd L 6) (a.put (some 13) _) _
      exact ⟨hF.put (by decide) _,hB,(fun h=>by rw [eval_put_ne (by decide)];exact g0 h),(fun h=>by rw [eval_put_ne (by decide)];exact g1 h),(fun h=>by rw [eval_put_ne (by decide)];exact g2 h),(fun h=>by rw [eval_put_ne (by decide)];exact g3 h),(fun h=>by rw [eval_put_ne (by decide)];exact g4 h),(fun h=>by rw [eval_put_ne (by decide)];exact g5 h),(fun _=>eval_put_same (by omega) _),(fun h=>by obtain ⟨g,e,z,r⟩:=g7 h;exact ⟨g,by rw [eval_put_ne (by decide)];exact e,z,r⟩),(fun h=>by rw [eval_put_ne (by decide)];exact g8 h),(fun h=>by rw [eval_put_ne (by decide)];exact g9 h),(fun h=>by rw [eval_put_ne (by decide)];exact g10 h),(fun h=>by rw [eval_put_ne (by decide)];exact g11 h),(fun h=>by rw [eval_put_ne (by decide)];exact g12 h),(fun h=>by rw [eval_put_ne (by decide)];exact g13 h)⟩
    · cases ho
      have hdj:=depB_spec d7 hd
      have hb':Below X.heap.size X (X.alloc (.cells (cellsU [1,(n / 256).toUInt8,n.toUInt8]) 5)):=(Below.refl _ _).alloc (Nat.le_refl _) _
      refine wpOp_value rfl rfl (rt_b3 X a 14 _ _ _ 11 13 (n / 256) n (g4 (hdj 4 (by decide))) (g6 (hdj 6 (by decide)))) ?_
      show IregL _ _ _ _ a0 (upd L 7) (a.put (some 14) _) _
      exact ⟨hF.put (by decide) _,keepBelow hB hb',(fun h=>by rw [eval_put_ne (by decide)];exact g0 h),(fun h=>by rw [eval_put_ne (by decide)];exact g1 h),(fun h=>by rw [eval_put_ne (by decide)];exact g2 h),(fun h=>by rw [eval_put_ne (by decide)];exact g3 h),(fun h=>by rw [eval_put_ne (by decide)];exact g4 h),(fun h=>by rw [eval_put_ne (by decide)];exact g5 h),(fun h=>by rw [eval_put_ne (by decide)];exact g6 h),(fun _=>⟨X.heap.size,eval_put_same (by omega) _,by simp,World.alloc_heap_new X _⟩),(fun h=>by rw [eval_put_ne (by decide)];exact g8 h),(fun h=>by rw [eval_put_ne (by decide)];exact g9 h),(fun h=>by rw [eval_put_ne (by decide)];exact g10 h),(fun h=>by rw [eval_put_ne (by decide)];exact g11 h),(fun h=>by rw [eval_put_ne (by decide)];exact g12 h),(fun h=>by rw [eval_put_ne (by decide)];exact g13 h)⟩
    · cases ho
      have hdj:=depB_spec d8 hd
      obtain ⟨g,xg,zg,r0⟩:=g7 (hdj 7 (by decide))
      refine wpOp_value rfl rfl (rt_cv X a 15 _ _ _ 14 g 3 [1,(n / 256).toUInt8,n.toUInt8] rfl r0 xg) ?_
      show IregL _ _ _ _ a0 (upd L 8) (a.put (some 15) _) _
      exact ⟨hF.put (by decide) _,hB,(fun h=>by rw [eval_put_ne (by decide)];exact g0 h),(fun h=>by rw [eval_put_ne (by decide)];exact g1 h),(fun h=>by rw [eval_put_ne (by decide)];exact g2 h),(fun h=>by rw [eval_put_ne (by decide)];exact g3 h),(fun h=>by rw [eval_put_ne (by decide)];exact g4 h),(fun h=>by rw [eval_put_ne (by decide)];exact g5 h),(fun h=>by rw [eval_put_ne (by decide)];exact g6 h),(fun h=>by obtain ⟨g,e,z,r⟩:=g7 h;exact ⟨g,by rw [eval_put_ne (by decide)];exact e,z,r⟩),(fun _=>eval_put_same (by omega) _),(fun h=>by rw [eval_put_ne (by decide)];exact g9 h),(fun h=>by rw [eval_put_ne (by decide)];exact g10 h),(fun h=>by rw [eval_put_ne (by decide)];exact g11 h),(fun h=>by rw [eval_put_ne (by decide)];exact g12 h),(fun h=>by rw [eval_put_ne (by decide)];exact g13 h)⟩
    · cases ho
      have hdj:=depB_spec d9 hd
      refine wpOp_value rfl rfl (rt_add X a 16 _ _ _ 8 15 _ _ (by rw [keyedB_sz];show _+3≤_;omega) (g1 (hdj 1 (by decide))) (g8 (hdj 8 (by decide)))) ?_
      show IregL _ _ _ _ a0 (upd L 9) (a.put (some 16) _) _
      exact ⟨hF.put (by decide) _,hB,(fun h=>by rw [eval_put_ne (by decide)];exact g0 h),(fun h=>by rw [eval_put_ne (by decide)];exact g1 h),(fun h=>by rw [eval_put_ne (by decide)];exact g2 h),(fun h=>by rw [eval_put_ne (by decide)];exact g3 h),(fun h=>by rw [eval_put_ne (by decide)];exact g4 h),(fun h=>by rw [eval_put_ne (by decide)];exact g5 h),(fun h=>by rw [eval_put_ne (by decide)];exact g6 h),(fun h=>by obtain ⟨g,e,z,r⟩:=g7 h;exact ⟨g,by rw [eval_put_ne (by decide)];exact e,z,r⟩),(fun h=>by rw [eval_put_ne (by decide)];exact g8 h),(fun _=>eval_put_same (by omega) _),(fun h=>by rw [eval_put_ne (by decide)];exact g10 h),(fun h=>by rw [eval_put_ne (by decide)];exact g11 h),(fun h=>by rw [eval_put_ne (by decide)];exact g12 h),(fun h=>by rw [eval_put_ne (by decide)];exact g13 h)⟩
    · cases ho
      refine wpOp_value rfl rfl (rt_mv X a 17 _ _ _ 2 E2) ?_
      show IregL _ _ _ _ a0 (upd L 10) (a.put (some 17) _) _
      exact ⟨hF.put (by decide) _,hB,(fun h=>by rw [eval_put_ne (by decide)];exact g0 h),(fun h=>by rw [eval_put_ne (by decide)];exact g1 h),(fun h=>by rw [eval_put_ne (by decide)];exact g2 h),(fun h=>by rw [eval_put_ne (by decide)];exact g3 h),(fun h=>by rw [eval_put_ne (by decide)];exact g4 h),(fun h=>by rw [eval_put_ne (by decide)];exact g5 h),(fun h=>by rw [eval_put_ne (by decide)];exact g6 h),(fun h=>by obtain ⟨g,e,z,r⟩:=g7 h;exact ⟨g,by rw [eval_put_ne (by decide)];exact e,z,r⟩),(fun h=>by rw [eval_put_ne (by decide)];exact g8 h),(fun h=>by rw [eval_put_ne (by decide)];exact g9 h),(fun _=>eval_put_same (by omega) _),(fun h=>by rw [eval_put_ne (by decide)];exact g11 h),(fun h=>by rw [eval_put_ne (by decide)];exact g12 h),(fun h=>by rw [eval_put_ne (by decide)];exact g13 h)⟩
    · cases ho
      have hdj:=depB_spec d11 hd
      refine wpOp_call (R:=fun u X'=>u=.string (fourB pg)∧Below X.heap.size X X') rfl rfl (rt_cF X a 18 _ _ _ 17 (g10 (hdj 10 (by decide)))) ((cfourT pg X).mono fun e X' h=>⟨_,h.1,rfl,h.2⟩) ?_
      rintro u X' ⟨rfl,hb'⟩
      show IregL _ _ _ _ a0 (upd L 11) (a.put (some 18) _) _
      exact ⟨hF.put (by decide) _,keepBelow hB hb',(fun h=>by rw [eval_put_ne (by decide)];exact g0 h),(fun h=>by rw [eval_put_ne (by decide)];exact g1 h),(fun h=>by rw [eval_put_ne (by decide)];exact g2 h),(fun h=>by rw [eval_put_ne (by decide)];exact g3 h),(fun h=>by rw [eval_put_ne (by decide)];exact g4 h),(fun h=>by rw [eval_put_ne (by decide)];exact g5 h),(fun h=>by rw [eval_put_ne (by decide)];exact g6 h),(fun h=>by obtain ⟨g,e,z,r⟩:=g7 h;exact ⟨g,by rw [eval_put_ne (by decide)];exact e,keepSize hb' z,(hb'.block g z).trans r⟩),(fun h=>by rw [eval_put_ne (by decide)];exact g8 h),(fun h=>by rw [eval_put_ne (by decide)];exact g9 h),(fun h=>by rw [eval_put_ne (by decide)];exact g10 h),(fun _=>eval_put_same (by omega) _),(fun h=>by rw [eval_put_ne (by decide)];exact g12 h),(fun h=>by rw [eval_put_ne (by decide)];exact g13 h)⟩
    · cases ho
      have hdj:=depB_spec d12 hd
      refine wpOp_value rfl rfl (rt_add X a 19 _ _ _ 16 18 _ _ (by rw [ByteArray.size_append,keyedB_sz,fourB_sz];show _+3+4≤_;omega) (g9 (hdj 9 (by decide))) (g11 (hdj 11 (by decide)))) ?_
      show IregL _ _ _ _ a0 (upd L 12) (a.put (some 19) _) _
      exact ⟨hF.put (by decide) _,hB,(fun h=>by rw [eval_put_ne (by decide)];exact g0 h),(fun h=>by rw [eval_put_ne (by decide)];exact g1 h),(fun h=>by rw [eval_put_ne (by decide)];exact g2 h),(fun h=>by rw [eval_put_ne (by decide)];exact g3 h),(fun h=>by rw [eval_put_ne (by decide)];exact g4 h),(fun h=>by rw [eval_put_ne (by decide)];exact g5 h),(fun h=>by rw [eval_put_ne (by decide)];exact g6 h),(fun h=>by obtain ⟨g,e,z,r⟩:=g7 h;exact ⟨g,by rw [eval_put_ne (by decide)];exact e,z,r⟩),(fun h=>by rw [eval_put_ne (by decide)];exact g8 h),(fun h=>by rw [eval_put_ne (by decide)];exact g9 h),(fun h=>by rw [eval_put_ne (by decide)];exact g10 h),(fun h=>by rw [eval_put_ne (by decide)];exact g11 h),(fun _=>eval_put_same (by omega) _),(fun h=>by rw [eval_put_ne (by decide)];exact g13 h)⟩
    · cases ho
      have hdj:=depB_spec d13 hd
      refine wpOp_value rfl rfl (rt_as X a 6 _ _ _ 19 (g12 (hdj 12 (by decide)))) ?_
      show IregL _ _ _ _ a0 (upd L 13) (a.put (some 6) _) _
      exact ⟨hF.put (by decide) _,hB,(fun h=>by rw [eval_put_ne (by decide)];exact g0 h),(fun h=>by rw [eval_put_ne (by decide)];exact g1 h),(fun h=>by rw [eval_put_ne (by decide)];exact g2 h),(fun h=>by rw [eval_put_ne (by decide)];exact g3 h),(fun h=>by rw [eval_put_ne (by decide)];exact g4 h),(fun h=>by rw [eval_put_ne (by decide)];exact g5 h),(fun h=>by rw [eval_put_ne (by decide)];exact g6 h),(fun h=>by obtain ⟨g,e,z,r⟩:=g7 h;exact ⟨g,by rw [eval_put_ne (by decide)];exact e,z,r⟩),(fun h=>by rw [eval_put_ne (by decide)];exact g8 h),(fun h=>by rw [eval_put_ne (by decide)];exact g9 h),(fun h=>by rw [eval_put_ne (by decide)];exact g10 h),(fun h=>by rw [eval_put_ne (by decide)];exact g11 h),(fun h=>by rw [eval_put_ne (by decide)];exact g12 h),(fun _=>eval_put_same (by omega) _)⟩
    · cases ho
  · intro L a X hI hall
    subst hops
    obtain ⟨hF,hB,g0,g1,g2,g3,g4,g5,g6,g7,g8,g9,g10,g11,g12,g13⟩:=hI
    have hs:a.tmps.size=a0.tmps.size:=hF.2.1
    have hv:=g13 (hall 13 (by simp))
    rw [hF.eq [(7,a.eval (.tmp 7)),(8,a.eval (.tmp 8)),(9,a.eval (.tmp 9)),(10,a.eval (.tmp 10)),(11,a.eval (.tmp 11)),(12,a.eval (.tmp 12)),(13,a.eval (.tmp 13)),(14,a.eval (.tmp 14)),(15,a.eval (.tmp 15)),(16,a.eval (.tmp 16)),(17,a.eval (.tmp 17)),(18,a.eval (.tmp 18)),(19,a.eval (.tmp 19)),(6,.string (keyedB k ++ ⟨#[1,(n / 256).toUInt8,n.toUInt8]⟩ ++ fourB pg))] (by simp) (by simp [hv];omega)]
    exact hQ _ _ _ _ _ _ _ _ _ _ _ _ _ X hB
set_option maxRecDepth 20000 in
set_option maxHeartbeats 1000000 in
theorem clong (k:ByteArray) (n q:Nat) (w:World) (hk:k.size≤200):Calls Tryz.prog 154 #[.string k,.int .i64 (n:Int),.int .i64 (q:Int)] w fun e w'=>e=.returned (.string (longB k n q))∧Below w.heap.size w w':=by
  go_enter Tryz.func154,Tryz.ntmps154
  go_wp2_with fail
  refine regL k n q hk (by simp) rfl rfl rfl rfl (by kernel_rfl) (by kernel_rfl) (by kernel_rfl) (by kernel_rfl) (by kernel_rfl) (by kernel_rfl) (by kernel_rfl) (by kernel_rfl) (by kernel_rfl) (by kernel_rfl) (by kernel_rfl) (by kernel_rfl) ?_
  intro u7 u8 u9 u10 u11 u12 u13 u14 u15 u16 u17 u18 u19 X hX
  have HX:=hide (hX)
  have HI:=hide (show keyedB k ++ ⟨#[1,(n / 256).toUInt8,n.toUInt8]⟩ ++ fourB q=longB k n q from rfl)
  rw [HI.out]
  clear hX
  simp only [sets,List.setIfInBounds_toArray,List.set_cons_zero,List.set_cons_succ]
  go_wp2
  go_ret
  exact ⟨rfl,HX.out⟩
end Go.Proofs.YtmgjdjjfeapcdaaGreat
