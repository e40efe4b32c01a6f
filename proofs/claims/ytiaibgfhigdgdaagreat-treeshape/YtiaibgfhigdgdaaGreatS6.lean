/- a part -/
import Derived.Laws.BitsAllLaws
import Derived.Test.YtiaibgfhigdgdaaGreatS1
import Derived.RegionTactic
import Derived.OwnWalk
import Derived.Laws.IdiomStrings
import Derived.Laws.OwnMore
set_option maxRecDepth 100000
set_option maxHeartbeats 8000000
namespace Go.Proofs.YtiaibgfhigdgdaaGreat
open Go.RowKit
variable {ops:Array Oper}{Q:Exit→Act→World→Prop}{i j id f K c g n e M B base k Lk:Nat}{l:List UInt8}{a b:Act}{w X X' W W':World}{o:Oper}{v x y z u:Value}{s:ByteArray}{S:Nat→ByteArray}{xs:List Value}
section
variable {P:Program}
def upd (L:Nat→Bool)(i:Nat):Nat→Bool:=fun j=>j == i || L j
theorem upd_same (L:Nat→Bool)(i:Nat):upd L i i=true:=by simp[upd]
theorem upd_ne (L:Nat→Bool)(h:¬j=i):upd L i j=L j:=by simp[upd,h]
theorem getD_listed {l:Array Bool}(h:i<l.size)(j:Nat):(l.setIfInBounds i true).getD j false=upd (fun j=>l.getD j false) i j:=by
 by_cases e:j=i
 ·subst e;simp[upd,h]
 ·rw[upd_ne _ e];simp only[Array.getD_eq_getD_getElem?,Array.getElem?_setIfInBounds_ne (Ne.symm e)]
theorem count_listed {l:Array Bool}(h:l.getD i true=false):(l.setIfInBounds i true).toList.count false+1=l.toList.count false:=by
 have hi:i<l.size:=by
  rcases Nat.lt_or_ge i l.size with h'|h'
  ·exact h'
  ·simp[Array.getD_eq_getD_getElem?,Array.getElem?_eq_none h'] at h
 have hv:l.toList[i]'(by simpa using hi)=false:=by
  simpa[Array.getD_eq_getD_getElem?,hi] using h
 have e:(l.setIfInBounds i true).toList=l.toList.set i true:=by simp[Array.setIfInBounds,hi]
 rw[e,List.count_set (h:=by simpa using hi)];have hpos:0<l.toList.count false:=List.count_pos_iff.2 (by rw[←hv];exact List.getElem_mem _);rw[hv,if_pos (by rfl),if_neg (by decide)];omega
theorem wpAny_inv (I:(Nat→Bool)→Act→World→Prop)(hback:∀i o,ops[i]?=some o→∀e∈o.after,Region.binds .any e=true→e.on<i)(hstep:∀L a X,I L a X→∀i o,ops[i]?=some o→L i=false→(∀e∈o.after,Region.binds .any e=true→L e.on=true)→wpOp P ops Q i (fun a' X'=>I (upd L i) a' X') a X)(hdone:∀L a X,I L a X→(∀i,i<ops.size→L i=true)→Q .normal a X):∀(fuel:Nat) (l:Array Bool) (a:Act) (X:World),l.size=ops.size→l.toList.count false≤fuel→I (fun j=>l.getD j false) a X→wpAny P .any ops Q fuel l a X:=by
 have hall:∀(l:Array Bool),l.size=ops.size→Region.ready .any ops l=[]→∀i,i<ops.size→l.getD i false=true:=by
  intro l hl hr i
  induction i using Nat.strongRecOn with
  | ind i ih =>
   intro hi;cases hv:l.getD i false with
   | true=>rfl
   | false =>
    have hm:i∈Region.ready .any ops l:=mem_ready.2 ⟨by
     have:i<l.size:=by omega
     simpa[Array.getD_eq_getD_getElem?,this] using hv,ops[i],by simp[hi],fun e he hb=>by
     have:=hback i ops[i] (by simp[hi]) e he hb;exact ih _ this (by omega)⟩
    rw[hr] at hm;cases hm
 intro fuel
 induction fuel with
 | zero =>
  intro l a X hl hc hI;have hr:Region.ready .any ops l=[]:=by
   apply List.eq_nil_iff_forall_not_mem.2;intro i hi;have:=count_listed (mem_ready.1 hi).1;omega
  exact⟨hr,hdone _ a X hI (hall l hl hr)⟩
 | succ fuel ih =>
  intro l a X hl hc hI;refine⟨fun hr=>hdone _ a X hI (hall l hl hr),fun i hi=>?_⟩;obtain⟨h0,o,ho,hd⟩:=mem_ready.1 hi;have hil:i<l.size:=by
   rcases Nat.lt_or_ge i l.size with h'|h'
   ·exact h'
   ·simp[Array.getD_eq_getD_getElem?,Array.getElem?_eq_none h'] at h0
  have h0':l.getD i false=false:=by simpa[Array.getD_eq_getD_getElem?,hil] using h0
  refine wpOp_mono (fun a' X' h=>ih _ a' X' (by simpa using hl) ?_ ?_) (hstep _ a X hI i o ho h0' hd)
  ·have:=count_listed h0;omega
  ·have e:(fun j=>(l.setIfInBounds i true).getD j false)=upd (fun j=>l.getD j false) i:=funext (getD_listed hil);rw[e];exact h
theorem wp_region_inv (hm:P.follows .mixedOrders=true)(I:Act→(Nat→Bool)→Act→World→Prop)(hback:∀i o,ops[i]?=some o→∀e∈o.after,Region.binds .any e=true→e.on<i)(h0:I a (fun _=>false) a w.drew)(hstep:∀L b X,I a L b X→∀i o,ops[i]?=some o→L i=false→(∀e∈o.after,Region.binds .any e=true→L e.on=true)→wpOp P ops Q i (fun a' X'=>I a (upd L i) a' X') b X)(hdone:∀L b X,I a L b X→(∀i,i<ops.size→L i=true)→Q .normal b X):(Code.region id ops true).wp P Q a w:=by
 refine wp_region_any hm (wpAny_inv (I a) hback hstep hdone ops.size _ a _ (by simp) (by simp) ?_);have e:(fun j=>(Array.replicate ops.size false).getD j false)=fun _=>false:=by
  funext j;simp only[Array.getD_eq_getD_getElem?,Array.getElem?_replicate];split<;>rfl
 rw[e];exact h0
def backB (ops:Array Oper):Bool:=(List.range ops.size).all fun i=>(ops.getD i default).after.all fun e=>!Region.binds .any e || decide (e.on<i)
theorem backB_spec (h:backB ops=true):∀i o,ops[i]?=some o→∀e∈o.after,Region.binds .any e=true→e.on<i:=by
 intro i o ho e he hb;have hi:i<ops.size:=(Array.getElem?_eq_some_iff.1 ho).1;have h1:=List.all_eq_true.1 h i (by simpa using hi);have eo:ops.getD i default=o:=by simp[Array.getD_eq_getD_getElem?,ho]
 rw[eo] at h1;have h2:=Array.all_eq_true_iff_forall_mem.1 h1 e he;simpa[hb] using h2
def depB (f:Array Edge)(js:List Nat):Bool:=js.all fun j=>f.any fun e=>Region.binds .any e && e.on == j
theorem depB_spec {f:Array Edge}{js:List Nat}(h:depB f js=true){L:Nat→Bool}(hd:∀e∈f,Region.binds .any e=true→L e.on=true):∀j∈js,L j=true:=by
 intro j hj;obtain⟨e,he,hb⟩:=Array.any_eq_true'.1 (List.all_eq_true.1 h j hj);simp only[Bool.and_eq_true,beq_iff_eq] at hb;rw[←hb.2];exact hd e he hb.1
theorem wpOp_value {K:Act→World→Prop}(ho:ops[i]?=some o)(hg:o.guard=none)(hr:(execOp a.eval o).run P X=.ok (.value v) X')(h:K (a.put o.dst v) X'):wpOp P ops Q i K a X:=by
 unfold wpOp;simp only[ho,Region.wanted,hg,if_true,Oper.wp,hr,Oper.upon];exact .inl h
theorem wpOp_skip {K:Act→World→Prop}(ho:ops[i]?=some o)(hg:o.guard=none)(hr:(execOp a.eval o).run P X=.ok .skip X')(h:K (a.put o.dst undef) X'):wpOp P ops Q i K a X:=by
 unfold wpOp;simp only[ho,Region.wanted,hg,if_true,Oper.wp,hr,Oper.upon];exact .inl h
theorem wpOp_call {K:Act→World→Prop}{f:FuncId}{args:Array Value}{R:Value→World→Prop}(ho:ops[i]?=some o)(hg:o.guard=none)(hr:(execOp a.eval o).run P X=.ok (.enter f args) X')(hc:Calls P f args X' fun e w'=>∃v,e=.returned v∧R v w')(h:∀v w',R v w'→K (a.put o.dst v) w'):wpOp P ops Q i K a X:=by
 unfold wpOp;simp only[ho,Region.wanted,hg,if_true,Oper.wp,hr,Oper.upon];refine .inl (hc.mono fun e w' he=>?_);obtain⟨v,rfl,hR⟩:=he;exact h v w' hR
end
def Fr (T:List Nat)(a b:Act):Prop:=b.defers=a.defers∧b.tmps.size=a.tmps.size∧∀i,¬i∈T→b.tmps[i]?=a.tmps[i]?
theorem Fr.refl (T:List Nat)(a:Act):Fr T a a:=⟨rfl,rfl,fun _ _=>rfl⟩
theorem Fr.put {T:List Nat}(h:Fr T a b)(hj:j∈T)(v:Value):Fr T a (b.put (some j) v):=by
 refine⟨h.1,by simpa[Act.put] using h.2.1,fun i hi=>?_⟩;have:¬j=i:=fun e=>hi (e ▸ hj)
 simp only[Act.put,Array.getElem?_setIfInBounds_ne this];exact h.2.2 i hi
theorem Fr.eval {T:List Nat}(h:Fr T a b)(hi:¬i∈T):b.eval (.tmp i)=a.eval (.tmp i):=by
 simp only[Act.eval,Array.getD_eq_getD_getElem?,h.2.2 i hi]
theorem eval_put_same (h:j<b.tmps.size)(v:Value):(b.put (some j) v).eval (.tmp j)=v:=by
 simp[Act.put,Act.eval,h]
theorem eval_put_ne (h:¬j=i)(v:Value):(b.put (some j) v).eval (.tmp i)=b.eval (.tmp i):=by
 simp only[Act.put,Act.eval,Array.getD_eq_getD_getElem?,Array.getElem?_setIfInBounds_ne h]
theorem put_none (b:Act)(v:Value):b.put none v=b:=rfl
def sets:List (Nat×Value)→Array Value→Array Value
 | [],t=>t
 | (i,v)::l,t=>sets l (t.setIfInBounds i v)
theorem sets_eq {t:Array Value}:∀(l:List (Nat×Value)) (u:Array Value),u.size=t.size→(∀p∈l,t[p.1]?=some p.2)→(∀i,¬i∈l.map (·.1)→u[i]?=t[i]?)→sets l u=t
 | [],u,hs,_,h=>Array.ext_getElem? fun i=>h i (by simp)
 | (i, v) :: l, u, hs, hp, h => by
  refine sets_eq l _ (by simpa using hs) (fun p hpl=>hp p (by simp[hpl])) fun j hj=>?_
  have hv:=hp (i,v) (by simp);by_cases e:i=j
  ·subst e;have hi:i<t.size:=by
    rcases Nat.lt_or_ge i t.size with h'|h'
    ·exact h'
    ·rw[Array.getElem?_eq_none h'] at hv;cases hv
   rw[Array.getElem?_setIfInBounds_self_of_lt (by omega)];exact hv.symm
  ·rw[Array.getElem?_setIfInBounds_ne e];exact h j (by simp only[List.map_cons,List.mem_cons,not_or];exact⟨Ne.symm e,hj⟩)
theorem get_of_eval (hi:i<b.tmps.size)(h:b.eval (.tmp i)=v):b.tmps[i]?=some v:=by
 simp only[Act.eval,Array.getD_eq_getD_getElem?,Array.getElem?_eq_getElem hi,Option.getD_some] at h;rw[Array.getElem?_eq_getElem hi,h]
theorem Fr.eq {T:List Nat}(h:Fr T a b)(l:List (Nat×Value))(hT:∀i,i∈T→i∈l.map (·.1))(hp:∀p∈l,p.1<b.tmps.size∧b.eval (.tmp p.1)=p.2):b=⟨sets l a.tmps,a.defers⟩:=by
 have e:=sets_eq (t:=b.tmps) l a.tmps h.2.1.symm (fun p hpl=>get_of_eval (hp p hpl).1 (hp p hpl).2) (fun i hi=>(h.2.2 i (fun hT'=>hi (hT i hT'))).symm);rw[e,←h.1]
theorem wrap_i64n (n:Nat)(h:n<9223372036854775808):IntKind.i64.wrap (n:Int)=(n:Int):=by
 have e:(n:Int)%2 ^ 64=n:=Int.emod_eq_of_lt (by omega) (by omega);simp only[IntKind.wrap,IntKind.bits,IntKind.signed,e];rw[if_neg];simp;omega
theorem or_i64 (a b:Nat)(ha:a<4611686018427387904)(hb:b<4611686018427387904):bits .or .i64 (a:Int) (b:Int)=((a ||| b:Nat):Int):=by
 have hx:a ||| b<2 ^ 62:=Nat.or_lt_two_pow (by omega) (by omega)
 show IntKind.i64.wrap ((BitVec.ofInt 64 (a:Int) ||| BitVec.ofInt 64 (b:Int)).toNat:Int)=_;rw[BitVec.toNat_or,ofInt_u64 a (by omega),ofInt_u64 b (by omega)];exact wrap_i64n _ (by omega)
theorem join_i64q (x y k:Nat)(hy:y<2 ^ k)(hx:x*2 ^ k<4611686018427387904)(hk:2 ^ k≤4611686018427387904):bits .or .i64 ((x*2 ^ k:Nat):Int) (y:Int)=((x*2 ^ k+y:Nat):Int):=by
 rw[or_i64 _ _ hx (by omega),nat_join k _ _ (by simp) hy]
def poly:Nat:=3988292384
def stp (x:Nat):Nat:=(x/2) ^^^ (poly*(x%2))
def stps:Nat→Nat→Nat
 | 0,x=>x
 | k+1,x=>stps k (stp x)
theorem stps_s (k x:Nat):stps (k+1) x=stp (stps k x):=by
 induction k generalizing x with
 | zero=>rfl
 | succ k ih=>rw[stps,ih];rfl
def feed (x c:Nat):Nat:=stps 8 (x ^^^ c)
def fold (s:ByteArray)(x:Nat):Nat→Nat
 | 0=>x
 | k+1=>feed (fold s x k) (s[k]!).toNat
def crc (s:ByteArray):Nat:=4294967295-fold s 4294967295 s.size
theorem stp_lt {x:Nat}(h:x<4294967296):stp x<4294967296:=by
 have h1:x/2<2 ^ 32:=by omega
 have h2:poly*(x%2)<2 ^ 32:=by
  unfold poly;have:x%2<2:=Nat.mod_lt _ (by decide);omega
 exact Nat.xor_lt_two_pow h1 h2
theorem stps_lt {x:Nat}(h:x<4294967296):∀k,stps k x<4294967296
 | 0=>h
 | k+1=>by rw[stps_s];exact stp_lt (stps_lt h k)
theorem feed_lt {x:Nat}(h:x<4294967296)(hc:c<256):feed x c<4294967296:=by
 refine stps_lt ?_ 8;have:x<2 ^ 32:=h;exact Nat.xor_lt_two_pow this (show c<2 ^ 32 by omega)
theorem get_lt (s:ByteArray)(k:Nat):(s[k]!).toNat<256:=UInt8.toNat_lt _
theorem fold_lt (s:ByteArray){x:Nat}(h:x<4294967296):∀k,fold s x k<4294967296
 | 0=>h
 | k+1=>feed_lt (fold_lt s h k) (get_lt s k)
theorem crc_lt (s:ByteArray):crc s<4294967296:=by unfold crc;omega
theorem stp_bits (Y:Nat)(h:Y<4294967296):bits .xor .u32 ((Y:Int)/2) (3988292384*bits .and .u32 (Y:Int) 1%4294967296)=((stp Y:Nat):Int):=by
 have x1:bits .and .u32 (Y:Int) 1=((Y%2:Nat):Int):=by
  have:=u32_and_nat Y 1 h (by omega);rw[nat_mask1] at this;exact this
 have hm:Y%2<2:=Nat.mod_lt _ (by decide);have e1:(3988292384:Int)*((Y%2:Nat):Int)%4294967296=((poly*(Y%2):Nat):Int):=by unfold poly;omega
 have e2:(Y:Int)/2=((Y/2:Nat):Int):=by omega
 rw[x1,e1,e2];exact u32_xor_nat _ _ (by omega) (by unfold poly;omega)
theorem not_xor (X:Nat)(h:X<4294967296):4294967295 ^^^ X=4294967295-X:=by
 have e:(BitVec.allOnes 32 ^^^ BitVec.ofNat 32 X).toNat=(~~~ (BitVec.ofNat 32 X)).toNat:=by rw[BitVec.allOnes_xor]
 rw[BitVec.toNat_xor,BitVec.toNat_not,BitVec.toNat_ofNat,Nat.mod_eq_of_lt (show X<2 ^ 32 by omega)] at e;exact e
theorem crc_bits (s:ByteArray):bits .xor .u32 IntKind.u32.max ((fold s 4294967295 s.size:Nat):Int)=((crc s:Nat):Int):=by
 have hf:=fold_lt s (x:=4294967295) (by decide) s.size;have:=u32_xor_nat 4294967295 (fold s 4294967295 s.size) (by decide) hf;rw[not_xor _ hf] at this;exact this
attribute [local go_sem ↓] Go.wp_at_zero Go.wp_at_succ
def byt (s:ByteArray)(i:Nat):Nat:=(s[i]!).toNat
theorem byt_lt (s:ByteArray)(i:Nat):byt s i<256:=UInt8.toNat_lt _
theorem byt_get (h:i<s.size):(s[i]).toNat=byt s i:=by
 unfold byt;rw[getElem!_pos s i h]
def two (s:ByteArray)(i:Nat):Nat:=byt s i*256+byt s (i+1)
theorem two_lt (s:ByteArray)(i:Nat):two s i<65536:=by
 have:=byt_lt s i;have:=byt_lt s (i+1);unfold two;omega
def four (s:ByteArray)(i:Nat):Nat:=two s i*65536+two s (i+2)
theorem ctwo (s:ByteArray)(k:Nat)(w:World)(h:k+1<s.size)(hs:s.size≤4096):Calls Tryz.prog 123 #[.string s,.int .i64 k] w fun e w'=>e=.returned (.int .i64 (two s k))∧∃nq,w'=w.drewN nq:=by
 have h1:(k:Int)<(s.size:Int):=by omega
 have h2:((k+1:Nat):Int)<(s.size:Int):=by omega
 have e1:IntKind.i64.wrap ((k:Int)+1)=((k+1:Nat):Int):=wrap_i64n (k+1) (by omega);have b0:=byt_lt s k;have b1:=byt_lt s (k+1);have g0:=byt_get (show k<s.size by omega);have g1:=byt_get h;have e2:IntKind.i64.wrap ((byt s k:Nat):Int)=((byt s k:Nat):Int):=wrap_i64n _ (by omega);have e3:IntKind.i64.wrap ((byt s k:Int)*256)=((byt s k*256:Nat):Int):=wrap_i64n (byt s k*256) (by omega);have e4:IntKind.i64.wrap ((byt s (k+1):Nat):Int)=((byt s (k+1):Nat):Int):=wrap_i64n _ (by omega);have e5:Hid (bits .or .i64 ((byt s k:Int)*256) (byt s (k+1):Int)=((two s k:Nat):Int)):=by
  show bits .or .i64 ((byt s k:Int)*256) (byt s (k+1):Int)=((two s k:Nat):Int);rw[show(byt s k:Int)*256=((byt s k*2 ^ 8:Nat):Int) by omega];exact join_i64q (byt s k) (byt s (k+1)) 8 (by omega) (by omega) (by omega)
 go_enter Tryz.func123,Tryz.ntmps123;go_wp2;refine wp_region_quiet_lit (by kernel_rfl) (by kernel_rfl) ?_;(repeat (first | go_big_quiet_step (fail) | (rw[e1])));refine wpQuiet_nil ?_;intro _ hw';obtain⟨nr,hw''⟩:=hw';subst hw'';go_wp2;go_ret;refine⟨?_,_,rfl⟩;show Ending.returned (.int .i64 (bits .or .i64 ((byt s k:Int)*256) (byt s (k+1):Int)))=_;rw[e5.out]
theorem csum (s:ByteArray)(w:World)(hs:s.size≤4096):Calls Tryz.prog 121 #[.string s] w fun e w'=>e=.returned (.int .u32 (crc s))∧w'=w:=by
 go_enter Tryz.func121,Tryz.ntmps121;go_wp2
 go_loop [3,8] (fun x y=>∃k:Nat,y=.int .i64 k∧x=.int .u32 (fold s 4294967295 k)∧k≤s.size) (fun _ y=>s.size-(intOf y).toNat)
 case atStart=>exact⟨0,rfl,rfl,Nat.zero_le _⟩
 case round =>
  obtain⟨k,rfl,rfl,hk⟩:=hrel;have hf:fold s 4294967295 k<4294967296:=fold_lt s (by decide) k;by_cases h0:k<s.size
  ·have h1:(k:Int)<(s.size:Int):=by omega
   have b0:=byt_lt s k;have g0:=byt_get h0;have x0:=u32_xor_nat (fold s 4294967295 k) (byt s k) hf (by omega);have hX:fold s 4294967295 k ^^^ byt s k<4294967296:=Nat.xor_lt_two_pow (n:=32) hf (by omega);go_wp2
   go_loop [3,17] (fun x y=>∃j:Nat,y=.int .i64 j∧x=.int .u32 (stps j (fold s 4294967295 k ^^^ byt s k))∧j≤8) (fun _ y=>8-(intOf y).toNat)
   case atStart=>exact⟨0,rfl,rfl,Nat.zero_le _⟩
   case round =>
    obtain⟨j,rfl,rfl,hj⟩:=hrel;have hX':=stps_lt hX j;by_cases h2:j<8
    ·have h3:(j:Int)<8:=by omega
     have x1:=stp_bits _ hX';go_wp2;exact⟨⟨j+1,by simp,by rw[stps_s],by omega⟩,by simp[intOf];omega⟩
    ·obtain rfl:j=8:=by omega
     go_wp2;exact⟨⟨k+1,by simp,rfl,by omega⟩,by simp[intOf];omega⟩
  ·obtain rfl:k=s.size:=by omega
   have HC:Hid _:=crc_bits s;go_wp2;go_ret;refine⟨?_,rfl⟩;show Ending.returned (.int .u32 (bits .xor .u32 IntKind.u32.max ((fold s 4294967295 s.size:Nat):Int)))=_;rw[HC.out]
def cellsB (l:List UInt8):List Value:=l.map fun b=>.int .u8 (b.toNat:Int)
def Pgq (W:World)(g:Nat)(l:List UInt8):Prop:=l.length=1024∧W.heap[g]?=some (.cells (cellsB l).toArray 5 (0,0))
theorem Pgq.cell (h:Pgq W g l)(hi:i<1024):∃x,W.cell? ⟨g,i,none⟩=some (.int .u8 x):=by
 refine⟨((l[i]'(by rw[h.1];exact hi)).toNat:Int),?_⟩;have:i<l.length:=by rw[h.1];exact hi
 simp[World.cell?,h.2,cellsB,this]
theorem Pgq.frozen (h:Pgq W g l)(i:Nat):W.frozen? ⟨g,i,none⟩=false:=by simp[World.frozen?,h.2]
theorem Pgq.set (h:Pgq W g l)(i:Nat)(x:Nat)(hv:v=.int .u8 ((x%256:Nat):Int)):Pgq (W.setCell ⟨g,i,none⟩ v) g (l.set i (UInt8.ofNat x)):=by
 subst hv;refine⟨by rw[List.length_set];exact h.1,?_⟩;obtain⟨hlt,hk⟩:=Array.getElem?_eq_some_iff.1 h.2;show(W.heap.modify g _)[g]?=_;rw[Array.getElem?_eq_getElem (by rw[Array.size_modify];exact hlt),Array.getElem_modify_self,hk];have e:cellsB (l.set i (UInt8.ofNat x))=(cellsB l).set i (.int .u8 ((x%256:Nat):Int)):=by
  unfold cellsB;rw[List.map_set];simp
 rw[e];simp
def put2 (l:List UInt8)(a n:Nat):List UInt8:=(l.set a (UInt8.ofNat (n/256))).set (a+1) (UInt8.ofNat n)
def put4 (l:List UInt8)(a n:Nat):List UInt8:=put2 (put2 l a (n/65536)) (a+2) n
theorem cputTwo (g k n:Nat)(l:List UInt8)(W:World)(h:Pgq W g l)(hk:k+1<1024):Calls Tryz.prog 119 #[.slice (some ⟨g,0,none⟩) 1024 1024,.int .i64 k,.int .i64 n] W fun e W'=>e=.returned (.tuple #[])∧Pgq W' g (put2 l k n)∧∀B,B≤g→Below B W W':=by
 have HP:Hid (Pgq W g l):=h;obtain⟨x0,c0⟩:=h.cell (show k<1024 by omega);obtain⟨x1,c1⟩:=h.cell hk;have f0:=h.frozen k;have f1:=h.frozen (k+1);clear h;have h1:(k:Int)<1024:=by omega
 have h2:(k:Int)+1<1024:=by omega
 go_enter Tryz.func119,Tryz.ntmps119;go_wp2;go_end0;refine⟨rfl,(HP.out.set k (n/256) (by congr 1)).set (k+1) n (by congr 1),fun B hB=>((Below.refl _ _).setCell hB _).setCell hB _⟩
theorem cputFour (g k n:Nat)(l:List UInt8)(W:World)(h:Pgq W g l)(hk:k+3<1024):Calls Tryz.prog 120 #[.slice (some ⟨g,0,none⟩) 1024 1024,.int .i64 k,.int .i64 n] W fun e W'=>e=.returned (.tuple #[])∧Pgq W' g (put4 l k n)∧∀B,B≤g→Below B W W':=by
 have HP:Hid (Pgq W g l):=h;clear h;have e1:Hid ((n:Int)/65536=((n/65536:Nat):Int)):=(by omega:(n:Int)/65536=((n/65536:Nat):Int));have e2:Hid ((k:Int)+2=((k+2:Nat):Int)):=(by omega:(k:Int)+2=((k+2:Nat):Int));go_enter Tryz.func120,Tryz.ntmps120;go_wp2_with fail
 rw[e1.out];refine(cputTwo g k (n/65536) l W HP.out (by omega)).mono ?_;rintro e W1⟨rfl,P1,B1⟩;go_wp2_with fail
 rw[e2.out];refine(cputTwo g (k+2) n _ W1 P1 (by omega)).mono ?_;rintro e W2⟨rfl,P2,B2⟩;go_wp2;go_end0;exact⟨rfl,P2,fun B hB=>(B1 B hB).trans (B2 B hB)⟩
theorem cfourq (s:ByteArray)(k:Nat)(w:World)(h:k+3<s.size)(hs:s.size≤4096):Calls Tryz.prog 69 #[.string s,.int .i64 k] w fun e w'=>e=.returned (.int .i64 (four s k))∧∃nq,w'=w.drewN nq:=by
 have b0:=two_lt s k;have b1:=two_lt s (k+2);have e5:Hid (bits .or .i64 ((two s k:Int)*65536) (two s (k+2):Int)=((four s k:Nat):Int)):=by
  show bits .or .i64 ((two s k:Int)*65536) (two s (k+2):Int)=((four s k:Nat):Int);rw[show(two s k:Int)*65536=((two s k*2 ^ 16:Nat):Int) by omega];exact join_i64q (two s k) (two s (k+2)) 16 (by omega) (by omega) (by omega)
 go_enter Tryz.func69,Tryz.ntmps69;have HK:Hid ((k:Int)+2=((k+2:Nat):Int)):=(by omega:(k:Int)+2=((k+2:Nat):Int));go_wp2_with fail
 refine(ctwo s k _ (by omega) hs).mono ?_;rintro e w1⟨rfl,nq,rfl⟩;go_wp2_with fail
 rw[HK.out];refine(ctwo s (k+2) _ (by omega) hs).mono ?_;rintro e w2⟨rfl,nq2,rfl⟩;go_wp2;go_ret;refine⟨?_,_,rfl⟩;show Ending.returned (.int .i64 (bits .or .i64 ((two s k:Int)*65536) (two s (k+2):Int)))=_;rw[e5.out]
def StA (w:World)(a:Option Addr)(n:Nat)(S:Nat→ByteArray):Prop:=n=0∨∃b off,a=some ⟨b,off,none⟩∧b<w.heap.size∧∀i,i<n→w.cell? ⟨b,off+i,none⟩=some (.string (S i))
theorem StA.below {a:Option Addr}(h:StA w a n S)(hb:Below w.heap.size w X):StA X a n S:=by
 rcases h with h|⟨b,off,e,hlt,h⟩
 ·exact Or.inl h
 ·exact Or.inr ⟨b,off,e,keepSize hb hlt,fun i hi=>keepCell hb hlt (h i hi)⟩
def len (S:Nat→ByteArray):Nat→Nat
 | 0=>0
 | k+1=>len S k+(S k).size
theorem len_mono (S:Nat→ByteArray):∀{j:Nat},i≤j→len S i≤len S j
 | 0, h => by
  have:i=0:=by omega
  subst this;exact Nat.le_refl _
 | j + 1, h => by
  rcases Nat.lt_or_ge j i with h'|h'
  ·have:i=j+1:=by omega
   subst this;exact Nat.le_refl _
  ·have:=len_mono S h';show len S i≤len S j+(S j).size;omega
theorem cused (a:Option Addr)(n cap:Nat)(S:Nat→ByteArray)(w:World)(h:StA w a n S)(hn:4*n+len S n≤1099511627776):Calls Tryz.prog 118 #[.slice a n cap] w fun e w'=>e=.returned (.int .i64 (4*n+len S n:Nat))∧w'=w:=by
 have HS:Hid (StA w a n S):=h;clear h;go_enter Tryz.func118,Tryz.ntmps118;go_wp2
 go_loop [3,11] (fun x y=>∃k:Nat,y=.int .i64 k∧x=.int .i64 (4*(n:Int)+(len S k:Nat))∧k≤n) (fun _ y=>n-(intOf y).toNat)
 case atStart=>exact⟨0,rfl,by simp[len],Nat.zero_le _⟩
 case round =>
  obtain⟨k,rfl,rfl,hk⟩:=hrel;by_cases h0:k<n
  ·obtain⟨b,off,rfl,hlt,hcells⟩:∃b off,a=some ⟨b,off,none⟩∧b<w.heap.size∧∀j,j<n→w.cell? ⟨b,off+j,none⟩=some (.string (S j)):=by
    rcases HS.out with h|h
    ·omega
    ·exact h
   have c0:=hcells k h0;have h1:(k:Int)<(n:Int):=by omega
   have h2:=len_mono S (show k+1≤n by omega);have h3:len S (k+1)=len S k+(S k).size:=rfl;clear hcells;go_wp2
   go_round
   case rel=>exact⟨k+1,by go_num,by rw[h3];go_num,by omega⟩
   case measure=>simp[intOf];omega
  ·obtain rfl:k=n:=by omega
   go_wp2;go_ret;exact⟨by go_num,rfl⟩
def pk (c n:Int):Int:=(if c<0 then -(c+1) else c)%n
theorem cpickq (c n:Int)(w:World)(hc:-9223372036854775808≤c∧c≤9223372036854775807)(hn:0<n)(hn':n≤4096):Calls Tryz.prog 18 #[.int .i64 c,.int .i64 n] w fun e w'=>e=.returned (.int .i64 (pk c n))∧w'=w:=by
 unfold pk;obtain⟨c1,c2⟩:=hc;by_cases h:c<0
 ·rw[if_pos h];have e1:(-(c+1)).tmod n=-(c+1)%n:=Int.tmod_eq_emod_of_nonneg (by omega);go_enter Tryz.func18,Tryz.ntmps18;go_wp2;go_ret;exact⟨rfl,rfl⟩
 ·rw[if_neg h];have e1:c.tmod n=c%n:=Int.tmod_eq_emod_of_nonneg (by omega);go_enter Tryz.func18,Tryz.ntmps18;go_wp2;go_ret;exact⟨rfl,rfl⟩
def blankq:List UInt8:=List.replicate 1024 0
theorem blank_lenq:blankq.length=1024:=by unfold blankq;exact List.length_replicate
theorem blank_cellsq:cellsB blankq=List.replicate 1024 (.int .u8 0):=by unfold cellsB blankq;rw[List.map_replicate];rfl
theorem blank_4:(cellsB blankq).toArray[4]?=some (.int .u8 0):=by rw[blank_cellsq];kernel_rfl
def spl (l:List UInt8)(o:Nat)(s:ByteArray):List UInt8:=l.take o++s.data.toList++l.drop (o+s.size)
def at' (S:Nat→ByteArray)(k:Nat):Nat:=1024-(2*k+len S k)
def lay (S:Nat→ByteArray)(l:List UInt8):Nat→List UInt8
 | 0=>l
 | k+1=>spl (put2 (put2 (lay S l k) (12+2*k) (at' S (k+1))) (at' S (k+1)) (S k).size) (at' S (k+1)+2) (S k)
def head (k lk n:Nat):List UInt8:=put4 (put2 (blankq.set 4 (UInt8.ofNat k)) 6 n) 8 lk
def body (k lk n:Nat)(S:Nat→ByteArray):List UInt8:=lay S (head k lk n) n
def sealed (k lk n:Nat)(S:Nat→ByteArray):List UInt8:=put4 (body k lk n S) 0 (crc ⟨((body k lk n S).drop 4).toArray⟩)
theorem put2_len (l:List UInt8)(a n:Nat):(put2 l a n).length=l.length:=by simp[put2]
theorem put4_len (l:List UInt8)(a n:Nat):(put4 l a n).length=l.length:=by simp[put4,put2_len]
theorem spl_len (l:List UInt8)(o:Nat)(s:ByteArray)(h:o+s.size≤l.length):(spl l o s).length=l.length:=by
 have:s.data.size=s.size:=rfl;simp[spl];omega
theorem head_lenq (k lk n:Nat):(head k lk n).length=1024:=by unfold head;rw[put4_len,put2_len,List.length_set,blank_lenq]
theorem below_cell {N:Nat}(h:Below N W W'){b o:Nat}(hb:b<N)(hc:W.cell? ⟨b,o,none⟩=some v):W'.cell? ⟨b,o,none⟩=some v:=
 (World.cell?_of_block (h.block b hb)).trans hc
theorem spl_nil (l:List UInt8)(o:Nat)(s:ByteArray)(h:s.size=0):spl l o s=l:=by
 have:s.data.toList=[]:=by
  have h':s.data.toList.length=0:=h;exact List.eq_nil_of_length_eq_zero h'
 simp[spl,this,h]
theorem hszU8:(Tryz.prog.info? 5).map (·.size)=some 1:=by kernel_rfl
theorem Pgq.copy (h:Pgq W g l)(off dl dc:Nat)(t:ByteArray)(hle:t.size≤dl)(hfit:off+t.size≤1024):∃W',(Builtin.copy_ #[59,9] 3 #[.slice (some ⟨g,off,none⟩) dl dc,.string t]).run Tryz.prog W=.ok (.int .i64 t.size) W'∧Pgq W' g (spl l off t)∧∀B,B≤g→Below B W W':=by
 have hl:(cellsB l).toArray.size=1024:=by simp[cellsB,h.1]
 refine⟨_,Lib.run_copy_row_string (P:=Tryz.prog) W 59 9 3 5 g off dl dc t (cellsB l).toArray 5 Tryz.underlying59 hszU8 h.2 hle (by rw[hl];exact hfit),?_,fun B hB=>below_setRow (Below.refl _ _) hB _⟩;refine⟨by rw[spl_len _ _ _ (by rw[h.1];exact hfit)];exact h.1,?_⟩;rw[setRow_heap W g _ _ _ _ h.2]
 congr 3
 simp[cellsB,spl,Lib.byteCells]
theorem copy0 (W:World)(d:Option Addr)(dl dc:Nat)(t:ByteArray)(h0:t.size=0):(Builtin.copy_ #[59,9] 3 #[.slice d dl dc,.string t]).run Tryz.prog W=.ok (.int .i64 0) W:=
 Lib.run_copy_empty_string (P:=Tryz.prog) W 59 9 3 5 d dl dc t Tryz.underlying59 (by rw[hszU8];rfl) h0
theorem Pgq.text (h:Pgq W g l)(o:Nat):(convert 59 9 (.slice (some ⟨g,o,none⟩) (1024-o) (1024-o))).run Tryz.prog W=.ok (.string ⟨(l.drop o).toArray⟩) W:=by
 have hl:(l.drop o).length=1024-o:=by rw[List.length_drop,h.1]
 have:=run_convert_bytes_back (P:=Tryz.prog) W 59 9 5 ⟨g,o,none⟩ (1024-o) (l.drop o) Tryz.underlying59 Tryz.underlying5 Tryz.underlying9 (fun j hj=>by
  rw[Addr.add_lit];have hj':o+j<l.length:=by rw[List.length_drop] at hj;omega
  simp[World.cell?,h.2,cellsB,hj'])
 rw[hl] at this;exact this
theorem makeBq (w:World):(Instr.makeSlice 59 (.int .i64 1024) (.int .i64 1024)).run Tryz.prog w=.ok (.slice (some ⟨w.heap.size,0,none⟩) 1024 1024) (w.alloc (.cells (cellsB blankq).toArray 5)):=by
 have hI:(Tryz.prog.info? 5).map (fun i=>(i.zero,i.size,i.bytes))=some (some (.int .u8 0),1,1):=by kernel_rfl
 obtain⟨i0,hi,hz0,hz1,hz2⟩:=info_parts hI;rw[run_make w 59 5 i0 (.int .u8 0) Tryz.underlying59 hi hz0 .i64 .i64 1024 1024 (by decide) (by decide) (by rw[hz2];decide) (by decide),hz1];have e:madeCells (Value.int IntKind.u8 0).cells ((1024:Int).toNat*1)=(cellsB blankq).toArray:=by
  apply Array.ext';show(madeCells #[.int .u8 0] 1024).toList=cellsB blankq;rw[toList_madeCells_one,blank_cellsq]
 rw[e];rfl
theorem cseal_ok (K Lk:Nat)(a:Option Addr)(n cap:Nat)(S:Nat→ByteArray)(w:World)(h:StA w a n S)(hK:1≤K∧K≤5)(hL:Lk≤2147483647)(hn:4*n+len S n≤1012):Calls Tryz.prog 64 #[.agg #[.int .i64 K,.int .i64 Lk,.slice a n cap]] w fun e w'=>e=.returned (.tuple #[.string ⟨(sealed K Lk n S).toArray⟩,.int .i64 0])∧Below w.heap.size w w':=by
 have HS:Hid (∀W,Below w.heap.size w W→StA W a n S):=fun W hb=>h.below hb
 clear h;have hmk:=makeBq;have k1:((K:Int)<1)=False:=by simp<;>omega
 have k2:((5:Int)<K)=False:=by simp<;>omega
 have k3:((Lk:Int)<0)=False:=by simp<;>omega
 have k4:((2147483647:Int)<Lk)=False:=by simp<;>omega
 go_enter Tryz.func64,Tryz.ntmps64;go_wp2_with fail
 refine(cused a n cap S _ (HS.out _ ((Below.refl _ _).alloc (Nat.le_refl _) _)) (by omega)).mono ?_;rintro e w1⟨rfl,rfl⟩;have hu:((1012:Int)<((4*n+len S n:Nat):Int))=False:=by simp;omega
 have b4:=blank_4;go_wp2_with fail
 have P0:Pgq ((w.alloc (.cells #[.int .i64 K,.int .i64 Lk,.slice a n cap] 82)).alloc (.cells ((cellsB blankq).set 4 (.int .u8 K)).toArray 5)) (w.heap.size+1) (blankq.set 4 (UInt8.ofNat K)):=by
  refine⟨by rw[List.length_set,blank_lenq],?_⟩;have e:(cellsB blankq).set 4 (.int .u8 K)=cellsB (blankq.set 4 (UInt8.ofNat K)):=by
   unfold cellsB;rw[List.map_set]
   congr 2
   have:K%256=K:=by omega
   simp[this]
  rw[e];have:=World.alloc_heap_new (w.alloc (.cells #[.int .i64 K,.int .i64 Lk,.slice a n cap] 82)) (.cells (cellsB (blankq.set 4 (UInt8.ofNat K))).toArray 5);simpa using this
 refine(cputTwo _ 6 n _ _ P0 (by omega)).mono ?_;rintro e W1⟨rfl,P1,B1⟩;have q0:W1.cell? ⟨w.heap.size,0,none⟩=some (.int .i64 K):=below_cell (B1 _ (Nat.le_refl _)) (by omega) (by go_simp);have q1:W1.cell? ⟨w.heap.size,1,none⟩=some (.int .i64 Lk):=below_cell (B1 _ (Nat.le_refl _)) (by omega) (by go_simp);have q2:W1.cell? ⟨w.heap.size,2,none⟩=some (.slice a n cap):=below_cell (B1 _ (Nat.le_refl _)) (by omega) (by go_simp);have HB1:Hid (Below w.heap.size w W1):=((((Below.refl _ _).alloc (Nat.le_refl _) _).alloc (by simp) _)).trans (B1 _ (Nat.le_succ _));have HP1:Hid _:=P1;clear B1 P0 P1 b4 hmk k1 k2 k3 k4 hu;go_wp2_with fail
 refine(cputFour _ 8 Lk _ _ HP1.out (by omega)).mono ?_;rintro e W2⟨rfl,P2,B2⟩;have r2:W2.cell? ⟨w.heap.size,2,none⟩=some (.slice a n cap):=below_cell (B2 _ (Nat.le_refl _)) (by omega) q2;have HB2:Hid (Below w.heap.size w W2):=HB1.out.trans (B2 _ (Nat.le_succ _));have HP2:Hid (Pgq W2 (w.heap.size+1) (head K Lk n)):=P2;clear B2 P2 HB1 HP1 q0 q1 q2;go_wp2_with fail
 go_loopw [5,50] (fun x y X=>∃k:Nat,y=.int .i64 k∧x=.int .i64 (at' S k)∧k≤n∧Hid (Pgq X (w.heap.size+1) (lay S (head K Lk n) k))∧Hid (Below w.heap.size w X)) (fun _ y _=>n-(intOf y).toNat)
 case atStart=>exact⟨0,rfl,rfl,Nat.zero_le _,HP2.out,HB2.out⟩
 case round =>
  obtain⟨k,rfl,rfl,hk,HP,HB⟩:=hrel;by_cases h0:k<n
  ·obtain⟨b,off,rfl,hlt,hcells⟩:∃b off,a=some ⟨b,off,none⟩∧b<wr.heap.size∧∀j,j<n→wr.cell? ⟨b,off+j,none⟩=some (.string (S j)):=by
    rcases HS.out _ HB.out with h|h
    ·omega
    ·exact h
   have c0:=hcells k h0;have i1:(k:Int)<(n:Int):=by omega
   have l1:=len_mono S (show k+1≤n by omega);have l2:len S (k+1)=len S k+(S k).size:=rfl;have s0:(S k).size≤1012:=by omega
   have a1:at' S k≤1024:=by unfold at';omega
   have a2:at' S (k+1)≤1022:=by unfold at';omega
   have a3:12+2*k+2≤at' S (k+1):=by unfold at';omega
   have a4:at' S (k+1)+2+(S k).size≤1024:=by unfold at';omega
   have HA:Hid ((at' S k:Int)-(2+((S k).size:Int))=(at' S (k+1):Nat)):=by
    show(at' S k:Int)-(2+((S k).size:Int))=(at' S (k+1):Nat);unfold at';omega
   have HI:Hid (12+2*(k:Int)=((12+2*k:Nat):Int)):=(by omega:12+2*(k:Int)=((12+2*k:Nat):Int));clear l1 l2;clear hcells HB2 HP2 r2;go_wp2_with fail
   rw[HA.out,HI.out];refine(cputTwo _ (12+2*k) (at' S (k+1)) _ _ HP.out (by omega)).mono ?_;rintro e W1⟨rfl,P1,B1⟩;have HB1:Hid (Below w.heap.size w W1):=HB.out.trans (B1 _ (Nat.le_succ _));have HP1:Hid _:=P1;clear P1 B1 HB HP;go_wp2_with fail
   refine(cputTwo _ (at' S (k+1)) (S k).size _ _ HP1.out (by omega)).mono ?_;rintro e W2⟨rfl,P2,B2⟩;have HB2:Hid (Below w.heap.size w W2):=HB1.out.trans (B2 _ (Nat.le_succ _));have HP2:Hid _:=P2;clear P2 B2 HB1 HP1;by_cases hz:at' S (k+1)=1022
   ·have HZ0:Hid ((S k).size=0):=(by omega:(S k).size=0);have hcp:=copy0 W2 (some ⟨w.heap.size+1,0,none⟩) 0 0 (S k) HZ0.out;have HP3:Hid (Pgq W2 (w.heap.size+1) (lay S (head K Lk n) (k+1))):=by
     show Pgq W2 (w.heap.size+1) (spl _ _ (S k));rw[spl_nil _ _ _ HZ0.out];exact HP2.out
    go_wp2
    go_roundw
    case rel=>exact⟨k+1,by go_num,by simp[hz],by omega,HP3,HB2⟩
    case measure=>simp[intOf];omega
   ·have hz1:at' S (k+1)<1022:=by omega
    obtain⟨W3,hcp,P3,B3⟩:=Pgq.copy HP2.out (at' S (k+1)+2) (1022-at' S (k+1)) (1022-at' S (k+1)) (S k) (by omega) a4;have HB3:Hid (Below w.heap.size w W3):=HB2.out.trans (B3 _ (Nat.le_succ _));have HP3:Hid (Pgq W3 (w.heap.size+1) (lay S (head K Lk n) (k+1))):=P3;clear P3 B3 HB2 HP2;go_wp2
    go_roundw
    case rel=>exact⟨k+1,by go_num,rfl,by omega,HP3,HB3⟩
    case measure=>simp[intOf];omega
  ·obtain rfl:k=n:=by omega
   have hcv:=HP.out.text 4;go_wp2_with fail
   refine(csum _ _ ?_).mono ?_
   ·show(List.drop 4 (lay S (head K Lk k) k)).toArray.size≤4096;have:=HP.out.1;simp[this]
   rintro e W1⟨rfl,rfl⟩;have HC:=crc_lt ⟨(List.drop 4 (lay S (head K Lk k) k)).toArray⟩;go_wp2_with fail
   refine(cputFour _ 0 (crc ⟨(List.drop 4 (lay S (head K Lk k) k)).toArray⟩) _ _ HP.out (by omega)).mono ?_;rintro e W2⟨rfl,P2,B2⟩;have hcv2:=P2.text 0;have HB3:Hid (Below w.heap.size w W2):=HB.out.trans (B2 _ (Nat.le_succ _));clear P2 B2 hcv;go_wp2_with fail
   go_ret2
   exact⟨rfl,HB3.out⟩
theorem cseal_room (K Lk:Nat)(a:Option Addr)(n cap:Nat)(S:Nat→ByteArray)(w:World)(h:StA w a n S)(hK:1≤K∧K≤5)(hL:Lk≤2147483647)(hn:1012<4*n+len S n)(hn':4*n+len S n≤1099511627776):Calls Tryz.prog 64 #[.agg #[.int .i64 K,.int .i64 Lk,.slice a n cap]] w fun e w'=>e=.returned (.tuple #[.string ⟨#[]⟩,.int .i64 5])∧Below w.heap.size w w':=by
 have HS:Hid (∀W,Below w.heap.size w W→StA W a n S):=fun W hb=>h.below hb
 clear h;have k1:((K:Int)<1)=False:=by simp<;>omega
 have k2:((5:Int)<K)=False:=by simp<;>omega
 have k3:((Lk:Int)<0)=False:=by simp<;>omega
 have k4:((2147483647:Int)<Lk)=False:=by simp<;>omega
 go_enter Tryz.func64,Tryz.ntmps64;go_wp2_with fail
 refine(cused a n cap S _ (HS.out _ ((Below.refl _ _).alloc (Nat.le_refl _) _)) hn').mono ?_;rintro e w1⟨rfl,rfl⟩;have hu:(1012:Int)<4*(n:Int)+(len S n:Int):=by omega
 go_wp2_with fail
 go_ret2
 exact⟨rfl,((Below.refl _ _).alloc (Nat.le_refl _) _)⟩
theorem cseal_arg1 (K Lk:Int)(v:Value)(w:World)(h1:K<1)(hv:∃a n cap,v=.slice a n cap):Calls Tryz.prog 64 #[.agg #[.int .i64 K,.int .i64 Lk,v]] w fun e w'=>e=.returned (.tuple #[.string ⟨#[]⟩,.int .i64 1])∧Below w.heap.size w w':=by
 obtain⟨a,n,cap,rfl⟩:=hv;go_enter Tryz.func64,Tryz.ntmps64;go_wp2_with fail
 go_ret2
 exact⟨rfl,((Below.refl _ _).alloc (Nat.le_refl _) _)⟩
theorem cseal_arg2 (K Lk:Int)(v:Value)(w:World)(h1:1≤K)(h2:5<K)(hv:∃a n cap,v=.slice a n cap):Calls Tryz.prog 64 #[.agg #[.int .i64 K,.int .i64 Lk,v]] w fun e w'=>e=.returned (.tuple #[.string ⟨#[]⟩,.int .i64 1])∧Below w.heap.size w w':=by
 obtain⟨a,n,cap,rfl⟩:=hv;go_enter Tryz.func64,Tryz.ntmps64;go_wp2_with fail
 go_ret2
 exact⟨rfl,((Below.refl _ _).alloc (Nat.le_refl _) _)⟩
theorem cseal_arg3 (K Lk:Int)(v:Value)(w:World)(h1:1≤K)(h2:K≤5)(h3:Lk<0)(hv:∃a n cap,v=.slice a n cap):Calls Tryz.prog 64 #[.agg #[.int .i64 K,.int .i64 Lk,v]] w fun e w'=>e=.returned (.tuple #[.string ⟨#[]⟩,.int .i64 1])∧Below w.heap.size w w':=by
 obtain⟨a,n,cap,rfl⟩:=hv;go_enter Tryz.func64,Tryz.ntmps64;go_wp2_with fail
 go_ret2
 exact⟨rfl,((Below.refl _ _).alloc (Nat.le_refl _) _)⟩
theorem cseal_arg4 (K Lk:Int)(v:Value)(w:World)(h1:1≤K)(h2:K≤5)(h3:0≤Lk)(h4:2147483647<Lk)(hv:∃a n cap,v=.slice a n cap):Calls Tryz.prog 64 #[.agg #[.int .i64 K,.int .i64 Lk,v]] w fun e w'=>e=.returned (.tuple #[.string ⟨#[]⟩,.int .i64 1])∧Below w.heap.size w w':=by
 obtain⟨a,n,cap,rfl⟩:=hv;go_enter Tryz.func64,Tryz.ntmps64;go_wp2_with fail
 go_ret2
 exact⟨rfl,((Below.refl _ _).alloc (Nat.le_refl _) _)⟩
theorem cseal (K Lk:Int)(a:Option Addr)(n cap:Nat)(S:Nat→ByteArray)(w:World)(h:StA w a n S)(hn:4*n+len S n≤1099511627776):Calls Tryz.prog 64 #[.agg #[.int .i64 K,.int .i64 Lk,.slice a n cap]] w fun e w'=>((e=.returned (.tuple #[.string ⟨#[]⟩,.int .i64 1])∧¬(1≤K∧K≤5∧0≤Lk∧Lk≤2147483647))∨(e=.returned (.tuple #[.string ⟨#[]⟩,.int .i64 5])∧(1≤K∧K≤5∧0≤Lk∧Lk≤2147483647)∧1012<4*n+len S n)∨(e=.returned (.tuple #[.string ⟨(sealed K.toNat Lk.toNat n S).toArray⟩,.int .i64 0])∧(1≤K∧K≤5∧0≤Lk∧Lk≤2147483647)∧4*n+len S n≤1012))∧Below w.heap.size w w':=by
 have hv:∃a' n' cap',Value.slice a n cap=.slice a' n' cap':=⟨_,_,_,rfl⟩;by_cases h1:K<1
 ·exact(cseal_arg1 K Lk _ w h1 hv).mono fun e w' ⟨h,hb⟩=>⟨.inl ⟨h,by omega⟩,hb⟩
 by_cases h2:5<K
 ·exact(cseal_arg2 K Lk _ w (by omega) h2 hv).mono fun e w' ⟨h,hb⟩=>⟨.inl ⟨h,by omega⟩,hb⟩
 by_cases h3:Lk<0
 ·exact(cseal_arg3 K Lk _ w (by omega) (by omega) h3 hv).mono fun e w' ⟨h,hb⟩=>⟨.inl ⟨h,by omega⟩,hb⟩
 by_cases h4:2147483647<Lk
 ·exact(cseal_arg4 K Lk _ w (by omega) (by omega) (by omega) h4 hv).mono fun e w' ⟨h,hb⟩=>⟨.inl ⟨h,by omega⟩,hb⟩
 obtain⟨k,rfl⟩:=Int.eq_ofNat_of_zero_le (show 0≤K by omega);obtain⟨lk,rfl⟩:=Int.eq_ofNat_of_zero_le (show 0≤Lk by omega);by_cases h5:4*n+len S n≤1012
 ·exact(cseal_ok k lk a n cap S w h (by omega) (by omega) h5).mono fun e w' ⟨h,hb⟩=>⟨.inr (.inr ⟨h,by omega,h5⟩),hb⟩
 ·exact(cseal_room k lk a n cap S w h (by omega) (by omega) (by omega) hn).mono fun e w' ⟨h,hb⟩=>⟨.inr (.inl ⟨h,by omega,by omega⟩),hb⟩
def rd (s:ByteArray):Nat→Nat→Nat→List ByteArray
 | 0,_,_=>[]
 | f+1,i,e=>if e<two s (12+2*i)+2∨two s (12+2*i)+2+two s (two s (12+2*i))≠e then [] else s.extract (two s (12+2*i)+2) e::rd s f (i+1) (two s (12+2*i))
def many (s:ByteArray):Nat:=min (two s 6) 253
theorem infoS:(Tryz.prog.info? 9).map (fun i=>(i.zero,i.size,i.bytes))=some (some (.string ⟨#[]⟩),1,16):=by kernel_rfl
def valsS (L:List ByteArray):List Value:=L.map (.string ·)
theorem valsS_app (L:List ByteArray)(x:ByteArray):valsS L++[.string x]=valsS (L++[x]):=by simp[valsS]
theorem rd_len (s:ByteArray):∀f i e,(rd s f i e).length≤f
 | 0,_,_=>Nat.le_refl _
 | f + 1, i, e => by
  unfold rd;split
  ·exact Nat.zero_le _
  ·have:=rd_len s f (i+1) (two s (12+2*i));simp only[List.length_cons];omega
theorem rd_stop (h:e<two s (12+2*i)+2∨two s (12+2*i)+2+two s (two s (12+2*i))≠e):rd s f i e=[]:=by
 cases f with
 | zero=>rfl
 | succ f=>unfold rd;rw[if_pos h]
theorem rd_go (h:¬(e<two s (12+2*i)+2∨two s (12+2*i)+2+two s (two s (12+2*i))≠e)):rd s (f+1) i e=s.extract (two s (12+2*i)+2) e::rd s f (i+1) (two s (12+2*i)):=by
 rw[rd,if_neg h]
structure Ro (s:ByteArray) (M i e:Nat) (xs:List ByteArray):Prop where
 len:xs.length=i
 le:i≤M
 end':e≤1024
 all:xs++rd s (M-i) i e=rd s M 0 1024
theorem Ro.start (s:ByteArray)(M:Nat):Ro s M 0 1024 []:=⟨rfl,Nat.zero_le _,Nat.le_refl _,rfl⟩
theorem Ro.step {xs:List ByteArray}(h:Ro s M i e xs)(hi:i<M)(hg:¬(e<two s (12+2*i)+2∨two s (12+2*i)+2+two s (two s (12+2*i))≠e)):Ro s M (i+1) (two s (12+2*i)) (xs++[s.extract (two s (12+2*i)+2) e]):=by
 refine⟨by simp[h.len],hi,by have:=h.end';omega,?_⟩;rw[←h.all,show M-i=(M-(i+1))+1 by omega,rd_go hg];simp
theorem Ro.stop {xs:List ByteArray}(h:Ro s M i e xs)(hg:i=M∨(e<two s (12+2*i)+2∨two s (12+2*i)+2+two s (two s (12+2*i))≠e)):xs=rd s M 0 1024:=by
 have:=h.all;rcases hg with rfl | hg
 ·rw[Nat.sub_self] at this;simpa[rd] using this
 ·rw[rd_stop hg] at this;simpa using this
theorem ccells_a (s:ByteArray)(w:World)(hs:s.size=1024)(hm:two s 6≤253):Calls Tryz.prog 70 #[.string s] w fun e w'=>∃v,e=.returned v∧w'.ownsRow w.heap.size 9 1 v (rd s (two s 6) 0 1024).length (valsS (rd s (two s 6) 0 1024))∧Below w.heap.size w w':=by
 obtain⟨i0,hi,hz0,hz1,hz2⟩:=info_parts infoS;have hm':(two s 6:Int)≤253:=by omega
 go_enter Tryz.func70,Tryz.ntmps70;go_wp2_with fail
 refine(ctwo s 6 _ (by omega) (by omega)).mono ?_;rintro e w1⟨rfl,nq,rfl⟩;obtain⟨w2,hmk,hown,hgr⟩:=run_make_own (P:=Tryz.prog) (w:=w.drewN nq) w.heap.size 43 9 i0 (.string ⟨#[]⟩) 1 Tryz.underlying43 hi hz0 hz1 .i64 .i64 (two s 6) (by rw[hz2];omega) (by unfold maxLen;omega) (by simp);have HO:Hid (w2.ownsRow w.heap.size 9 1 (.slice (some ⟨w.heap.size,0,none⟩) 0 (two s 6)) 0 (valsS [])):=(by simpa[valsS] using hown:w2.ownsRow w.heap.size 9 1 (.slice (some ⟨w.heap.size,0,none⟩) 0 (two s 6)) 0 (valsS []));have HB:Hid (Below w.heap.size w w2):=(below_drewN (Below.refl _ _) nq).grown hgr (by simp) (fun k hk=>by cases hk)
 skip
 clear hown hgr;go_wp2_with fail
 go_loopw [4,5,16] (fun v x y X=>∃(i e:Nat) (xs:List ByteArray),y=.int .i64 i∧x=.int .i64 e∧Hid (Ro s (two s 6) i e xs)∧Hid (X.ownsRow w.heap.size 9 1 v i (valsS xs))∧Hid (Below w.heap.size w X)) (fun _ _ y _=>two s 6-(intOf y).toNat)
 case atStart=>exact⟨0,1024,[],rfl,rfl,Ro.start s _,HO.out,HB.out⟩
 case round =>
  obtain⟨i,e,xs,rfl,rfl,HR,HO,HB⟩:=hrel;have e0:e≤1024:=HR.out.end';have i1:=HR.out.le;have fin:Hid (xs=rd s (two s 6) 0 1024→wr.ownsRow w.heap.size 9 1 u4 (rd s (two s 6) 0 1024).length (valsS (rd s (two s 6) 0 1024))):=fun h=>by
   have hl:=HR.out.len;subst hl;rw[←h];exact HO.out
  by_cases h0:i<two s 6
  ·have h1:(i:Int)<(two s 6:Int):=by omega
   have HI:Hid (12+2*(i:Int)=((12+2*i:Nat):Int)):=(by omega:12+2*(i:Int)=((12+2*i:Nat):Int));go_wp2_with fail
   rw[HI.out];refine(ctwo s (12+2 * i) _ (by omega) (by omega)).mono ?_;rintro e1 w3⟨rfl,nq3,rfl⟩;have l0:=two_lt s (12+2 * i);have HB3:Hid (Below w.heap.size w (wr.drewN nq3)):=below_drewN HB.out _;have HO3:Hid ((wr.drewN nq3).ownsRow w.heap.size 9 1 u4 i (valsS xs)):=HO.out;generalize hA:two s (12+2 * i)=A at *;have HA:Hid (two s (12+2 * i)=A):=hA;clear hA;by_cases h2:e<A+2
   ·have h3:(e:Int)<(A:Int)+2:=by omega
    go_wp2_with fail
    go_ret;exact⟨u4,rfl,fin.out (HR.out.stop (.inr (.inl (by rw[HA.out];exact h2)))),HB3.out⟩
   ·have h3:¬(e:Int)<(A:Int)+2:=by omega
    have h3':(A:Int)+2≤e:=by omega
    go_wp2_with fail
    refine(ctwo s A _ (by omega) (by omega)).mono ?_;rintro e1 w4⟨rfl,nq4,rfl⟩;have l1:=two_lt s A;have HB4:Hid (Below w.heap.size w (wr.drewN (nq3+nq4))):=below_drewN HB.out _;have HO4:Hid ((wr.drewN (nq3+nq4)).ownsRow w.heap.size 9 1 u4 i (valsS xs)):=HO.out;generalize hT:two s A=T at *;have HT:Hid (two s A=T):=hT;clear hT;by_cases h4:A+2+T=e
    ·have h5:((A:Int)+2+(T:Int) != (e:Int))=false:=by simp;omega
     have HR':Hid (Ro s (two s 6) (i+1) A (xs++[s.extract (A+2) e])):=by
      have:=HR.out.step h0 (by rw[HA.out,HT.out];omega);rw[HA.out] at this;exact this
     have h6:(e:Int)≤(s.size:Int):=by omega
     have h7:(0:Int)≤(A:Int)+2:=by omega
     clear HO HB HO3 HB3 fin HR;go_wp2_with (at_builtin;go_must (refine wpList_append_lies _ rfl _ _ _ rfl w.heap.size 9 i0 (.string ⟨#[]⟩) 1 16 Tryz.underlying43 hi hz0 hz1 hz2 rfl (by decide) _ i (valsS xs) rfl (World.ownsRow.alloc HO4.out _) _ 1 1 [.string (s.extract (A+2) e)] rfl rfl ?q1 ?q2 (by decide) ?q3 ?q4 ?q5 _ rfl ?_))
     (try (case q1=>exact cell_one_new _ _ _))
     case q2=>first | (intro u hu;simp at hu;rw[hu];rfl) | rfl | simp
     case q3=>unfold maxLen;omega
     case q4=>omega
     case q5=>have:=Below.size HB4.out;simp at this ⊢;omega
     intro g1 cap1 W1 hown1 hgrow hat hlt1;rw[valsS_app] at hown1;have HB5:Hid (Below w.heap.size w W1):=(Below.alloc HB4.out (Below.size HB4.out) _).grown hgrow (by have:=Below.size HB4.out;simp at this ⊢;omega) (fun k hk=>((World.ownsRow.lt HO4.out) k hk).1);have HO5:Hid (W1.ownsRow w.heap.size 9 1 (.slice (some ⟨g1,0,none⟩) (i+1) cap1) (i+1) (valsS (xs++[s.extract (A+2) e]))):=hown1;clear hown1 hgrow hat hlt1 HO4 HB4;go_wp2
     go_roundw
     case rel=>exact⟨i+1,A,_,by go_num,rfl,HR',HO5,HB5⟩
     case measure=>simp[intOf];omega
    ·have h5:((A:Int)+2+(T:Int) != (e:Int))=true:=by simp;omega
     go_wp2_with fail
     go_ret;exact⟨u4,rfl,fin.out (HR.out.stop (.inr (.inr (by rw[HA.out,HT.out];exact h4)))),HB4.out⟩
  ·obtain rfl:i=two s 6:=by omega
   go_wp2_with fail
   go_ret;exact⟨u4,rfl,fin.out (HR.out.stop (.inl rfl)),HB.out⟩
theorem ccells_b (s:ByteArray)(w:World)(hs:s.size=1024)(hm:253<two s 6):Calls Tryz.prog 70 #[.string s] w fun e w'=>∃v,e=.returned v∧w'.ownsRow w.heap.size 9 1 v (rd s (253) 0 1024).length (valsS (rd s (253) 0 1024))∧Below w.heap.size w w':=by
 obtain⟨i0,hi,hz0,hz1,hz2⟩:=info_parts infoS;have hm':253<(two s 6:Int):=by omega
 go_enter Tryz.func70,Tryz.ntmps70;go_wp2_with fail
 refine(ctwo s 6 _ (by omega) (by omega)).mono ?_;rintro e w1⟨rfl,nq,rfl⟩;obtain⟨w2,hmk,hown,hgr⟩:=run_make_own (P:=Tryz.prog) (w:=w.drewN nq) w.heap.size 43 9 i0 (.string ⟨#[]⟩) 1 Tryz.underlying43 hi hz0 hz1 .i64 .i64 (253) (by rw[hz2];omega) (by unfold maxLen;omega) (by simp);have HO:Hid (w2.ownsRow w.heap.size 9 1 (.slice (some ⟨w.heap.size,0,none⟩) 0 (253)) 0 (valsS [])):=(by simpa[valsS] using hown:w2.ownsRow w.heap.size 9 1 (.slice (some ⟨w.heap.size,0,none⟩) 0 (253)) 0 (valsS []));have HB:Hid (Below w.heap.size w w2):=(below_drewN (Below.refl _ _) nq).grown hgr (by simp) (fun k hk=>by cases hk)
 replace hmk:(Instr.makeSlice 43 (.int .i64 0) (.int .i64 253)).run Tryz.prog (w.drewN nq)=.ok (.slice (some ⟨w.heap.size,0,none⟩) 0 253) w2:=hmk
 clear hown hgr;go_wp2_with fail
 go_loopw [4,5,16] (fun v x y X=>∃(i e:Nat) (xs:List ByteArray),y=.int .i64 i∧x=.int .i64 e∧Hid (Ro s (253) i e xs)∧Hid (X.ownsRow w.heap.size 9 1 v i (valsS xs))∧Hid (Below w.heap.size w X)) (fun _ _ y _=>253-(intOf y).toNat)
 case atStart=>exact⟨0,1024,[],rfl,rfl,Ro.start s _,HO.out,HB.out⟩
 case round =>
  obtain⟨i,e,xs,rfl,rfl,HR,HO,HB⟩:=hrel;have e0:e≤1024:=HR.out.end';have i1:=HR.out.le;have fin:Hid (xs=rd s (253) 0 1024→wr.ownsRow w.heap.size 9 1 u4 (rd s (253) 0 1024).length (valsS (rd s (253) 0 1024))):=fun h=>by
   have hl:=HR.out.len;subst hl;rw[←h];exact HO.out
  by_cases h0:i<253
  ·have h1:(i:Int)<(253:Int):=by omega
   have HI:Hid (12+2*(i:Int)=((12+2*i:Nat):Int)):=(by omega:12+2*(i:Int)=((12+2*i:Nat):Int));go_wp2_with fail
   rw[HI.out];refine(ctwo s (12+2 * i) _ (by omega) (by omega)).mono ?_;rintro e1 w3⟨rfl,nq3,rfl⟩;have l0:=two_lt s (12+2 * i);have HB3:Hid (Below w.heap.size w (wr.drewN nq3)):=below_drewN HB.out _;have HO3:Hid ((wr.drewN nq3).ownsRow w.heap.size 9 1 u4 i (valsS xs)):=HO.out;generalize hA:two s (12+2 * i)=A at *;have HA:Hid (two s (12+2 * i)=A):=hA;clear hA;by_cases h2:e<A+2
   ·have h3:(e:Int)<(A:Int)+2:=by omega
    go_wp2_with fail
    go_ret;exact⟨u4,rfl,fin.out (HR.out.stop (.inr (.inl (by rw[HA.out];exact h2)))),HB3.out⟩
   ·have h3:¬(e:Int)<(A:Int)+2:=by omega
    have h3':(A:Int)+2≤e:=by omega
    go_wp2_with fail
    refine(ctwo s A _ (by omega) (by omega)).mono ?_;rintro e1 w4⟨rfl,nq4,rfl⟩;have l1:=two_lt s A;have HB4:Hid (Below w.heap.size w (wr.drewN (nq3+nq4))):=below_drewN HB.out _;have HO4:Hid ((wr.drewN (nq3+nq4)).ownsRow w.heap.size 9 1 u4 i (valsS xs)):=HO.out;generalize hT:two s A=T at *;have HT:Hid (two s A=T):=hT;clear hT;by_cases h4:A+2+T=e
    ·have h5:((A:Int)+2+(T:Int) != (e:Int))=false:=by simp;omega
     have HR':Hid (Ro s (253) (i+1) A (xs++[s.extract (A+2) e])):=by
      have:=HR.out.step h0 (by rw[HA.out,HT.out];omega);rw[HA.out] at this;exact this
     have h6:(e:Int)≤(s.size:Int):=by omega
     have h7:(0:Int)≤(A:Int)+2:=by omega
     clear HO HB HO3 HB3 fin HR;go_wp2_with (at_builtin;go_must (refine wpList_append_lies _ rfl _ _ _ rfl w.heap.size 9 i0 (.string ⟨#[]⟩) 1 16 Tryz.underlying43 hi hz0 hz1 hz2 rfl (by decide) _ i (valsS xs) rfl (World.ownsRow.alloc HO4.out _) _ 1 1 [.string (s.extract (A+2) e)] rfl rfl ?q1 ?q2 (by decide) ?q3 ?q4 ?q5 _ rfl ?_))
     (try (case q1=>exact cell_one_new _ _ _))
     case q2=>first | (intro u hu;simp at hu;rw[hu];rfl) | rfl | simp
     case q3=>unfold maxLen;omega
     case q4=>omega
     case q5=>have:=Below.size HB4.out;simp at this ⊢;omega
     intro g1 cap1 W1 hown1 hgrow hat hlt1;rw[valsS_app] at hown1;have HB5:Hid (Below w.heap.size w W1):=(Below.alloc HB4.out (Below.size HB4.out) _).grown hgrow (by have:=Below.size HB4.out;simp at this ⊢;omega) (fun k hk=>((World.ownsRow.lt HO4.out) k hk).1);have HO5:Hid (W1.ownsRow w.heap.size 9 1 (.slice (some ⟨g1,0,none⟩) (i+1) cap1) (i+1) (valsS (xs++[s.extract (A+2) e]))):=hown1;clear hown1 hgrow hat hlt1 HO4 HB4;go_wp2
     go_roundw
     case rel=>exact⟨i+1,A,_,by go_num,rfl,HR',HO5,HB5⟩
     case measure=>simp[intOf];omega
    ·have h5:((A:Int)+2+(T:Int) != (e:Int))=true:=by simp;omega
     go_wp2_with fail
     go_ret;exact⟨u4,rfl,fin.out (HR.out.stop (.inr (.inr (by rw[HA.out,HT.out];exact h4)))),HB4.out⟩
  ·obtain rfl:i=253:=by omega
   go_wp2_with fail
   go_ret;exact⟨u4,rfl,fin.out (HR.out.stop (.inl rfl)),HB.out⟩
theorem ccells (s:ByteArray)(w:World)(hs:s.size=1024):Calls Tryz.prog 70 #[.string s] w fun e w'=>∃v,e=.returned v∧w'.ownsRow w.heap.size 9 1 v (rd s (many s) 0 1024).length (valsS (rd s (many s) 0 1024))∧Below w.heap.size w w':=by
 unfold many;by_cases h:two s 6≤253
 ·rw[Nat.min_eq_left h];exact ccells_a s w hs h
 ·rw[Nat.min_eq_right (by omega)];exact ccells_b s w hs (by omega)
def Bx3 (W:World)(B:Nat)(x y z:Value):Prop:=W.heap[B]?=some (.cells #[x,y,z] 82 (0,0))
theorem Bx3.lt (h:Bx3 W B x y z):B<W.heap.size:=(Array.getElem?_eq_some_iff.1 h).1
theorem Bx3.c0 (h:Bx3 W B x y z):W.cell? ⟨B,0,none⟩=some x:=by simp[World.cell?,show W.heap[B]?=_ from h]
theorem Bx3.c1 (h:Bx3 W B x y z):W.cell? ⟨B,1,none⟩=some y:=by simp[World.cell?,show W.heap[B]?=_ from h]
theorem Bx3.c2 (h:Bx3 W B x y z):W.cell? ⟨B,2,none⟩=some z:=by simp[World.cell?,show W.heap[B]?=_ from h]
theorem Bx3.fz (h:Bx3 W B x y z)(o:Nat):W.frozen? ⟨B,o,none⟩=false:=by simp[World.frozen?,show W.heap[B]?=_ from h]
theorem Bx3.new (W:World)(x y z:Value):Bx3 (W.alloc (.cells #[x,y,z] 82)) W.heap.size x y z:=World.alloc_heap_new W _
theorem Bx3.below (h:Bx3 W B x y z)(hb:Below W.heap.size W W'):Bx3 W' B x y z:=(hb.block B h.lt).trans h
theorem Bx3.put (h:Bx3 W B x y z)(x' y' z':Value):Bx3 (((W.setCell ⟨B,0,none⟩ x').setCell ⟨B,1,none⟩ y').setCell ⟨B,2,none⟩ z') B x' y' z':=by
 have s0:∀(W:World) (a:Array Value) (i:Nat) (v:Value),W.heap[B]?=some (.cells a 82 (0,0))→(W.setCell ⟨B,i,none⟩ v).heap[B]?=some (.cells (a.setIfInBounds i v) 82 (0,0)):=by
  intro W a i v hk;exact heap_setCell_same W B i a 82 v hk
 exact s0 _ _ 2 z' (s0 _ _ 1 y' (s0 _ _ 0 x' h))
theorem grown_put (W:World)(B:Nat)(x y z:Value):W.grownBy (((W.setCell ⟨B,0,none⟩ x).setCell ⟨B,1,none⟩ y).setCell ⟨B,2,none⟩ z) (some B):=by
 refine⟨rfl,rfl,rfl,by simp,fun k _ hk=>?_⟩;have hne:¬k=B:=fun e=>hk (by rw[e])
 have f:∀(W:World) (i:Nat) (v:Value),(W.setCell ⟨B,i,none⟩ v).heap[k]?=W.heap[k]?:=fun W i v=>Below.heap_setCell _ _ _ k (fun e=>hne (by rw[e]))
 rw[f,f,f]
theorem own_ne (h:Bx3 W B x y z)(ho:W.ownsRow base 9 1 v k xs):v.ownBlock≠some B:=by
 intro e;rcases ho.2 with⟨rfl,_⟩ | ⟨g,cap,cur,rfl,_,hg,_⟩
 ·simp[Value.ownBlock] at e
 ·simp only[Value.ownBlock,Option.some.injEq] at e;subst e;rw[show W.heap[g]?=_ from h] at hg;simp at hg
theorem own_put (h:Bx3 W B x y z)(ho:W.ownsRow base 9 1 v k xs)(x' y' z':Value):(((W.setCell ⟨B,0,none⟩ x').setCell ⟨B,1,none⟩ y').setCell ⟨B,2,none⟩ z').ownsRow base 9 1 v k xs:=
 ho.kept (grown_put W B x' y' z') (.inr (own_ne h ho))
theorem own_below (ho:W.ownsRow base 9 1 v k xs)(hb:Below W.heap.size W W'):W'.ownsRow base 9 1 v k xs:=by
 refine⟨ho.1,?_⟩;rcases ho.2 with h | ⟨g,cap,cur,rfl,h1,h2,h3⟩
 ·exact .inl h
 ·exact .inr ⟨g,cap,cur,rfl,h1,(hb.block g (Array.getElem?_eq_some_iff.1 h2).1).trans h2,h3⟩
def tx (L:List ByteArray)(i:Nat):ByteArray:=L.getD i ⟨#[]⟩
theorem sta_own {L:List ByteArray}(ho:W.ownsRow base 9 1 v k (valsS L)):∃a cap,v=.slice a k cap∧StA W a k (tx L):=by
 have hl:L.length=k:=by simpa[valsS] using ho.1
 rcases ho.2 with⟨rfl,rfl⟩|⟨g,cap,cur,rfl,h1,hg,h3⟩
 ·exact⟨none,0,rfl,.inl rfl⟩
 ·refine⟨_,cap,rfl,.inr ⟨g,0,rfl,(Array.getElem?_eq_some_iff.1 hg).1,fun i hi=>?_⟩⟩;rw[Nat.zero_add,ho.cellAt i (by omega)];have hi':i<L.length:=by omega
  simp[valsS,tx,List.getD,List.getElem?_eq_getElem hi']
theorem run_mvP (X:World)(a:Act)(i d:Nat)(t:TypeId)(p:String)(f:Array Edge)(he:a.eval (.tmp i)=v):(execOp a.eval { dst:=some d,op:=.move (.tmp i),type:=t,pos:=p,after:=f,guard:=none }).run Tryz.prog X=.ok (.value v) X:=by
 subst he;simp only[execOp];go_simp
theorem run_ix (X:World)(a:Act)(s:ByteArray)(i d:Nat)(t:TypeId)(p:String)(f:Array Edge)(hs:s.size=1024)(he:a.eval (.tmp i)=.string s):(execOp a.eval { dst:=some d,op:=.index 9 (.tmp i) (.const (.int .i64 4)),type:=t,pos:=p,after:=f,guard:=none }).run Tryz.prog X=.ok (.value (.int .u8 (byt s 4))) X:=by
 have g0:=byt_get (show 4<s.size by omega);have h1:(4:Int)<(s.size:Int):=by omega
 simp only[execOp,he];go_simp
theorem run_cv (X:World)(a:Act)(s:ByteArray)(i d:Nat)(t:TypeId)(p:String)(f:Array Edge)(he:a.eval (.tmp i)=.int .u8 (byt s 4)):(execOp a.eval { dst:=some d,op:=.convert 5 3 (.tmp i),type:=t,pos:=p,after:=f,guard:=none }).run Tryz.prog X=.ok (.value (.int .i64 (byt s 4))) X:=by
 have g0:=byt_lt s 4;have e1:IntKind.i64.wrap ((byt s 4:Nat):Int)=((byt s 4:Nat):Int):=wrap_i64n _ (by omega);simp only[execOp,he];go_simp
theorem run_f4 (X:World)(a:Act)(i d:Nat)(t:TypeId)(p:String)(f:Array Edge)(hu:a.eval (.tmp i)=u):(execOp a.eval { dst:=some d,op:=.call { callee:=.value (.func 69),args:=#[.tmp i,.const (.int .i64 8)],argTypes:=#[9,3]},type:=t,pos:=p,after:=f,guard:=none }).run Tryz.prog X=.ok (.enter 69 #[u,.int .i64 8]) X:=by
 subst hu;simp only[execOp];go_simp
theorem run_cl (X:World)(a:Act)(i d:Nat)(t:TypeId)(p:String)(f:Array Edge)(hu:a.eval (.tmp i)=u):(execOp a.eval { dst:=some d,op:=.call { callee:=.value (.func 70),args:=#[.tmp i],argTypes:=#[9]},type:=t,pos:=p,after:=f,guard:=none }).run Tryz.prog X=.ok (.enter 70 #[u]) X:=by
 subst hu;simp only[execOp];go_simp
theorem run_bd (X:World)(a:Act)(i j k d:Nat)(t:TypeId)(p:String)(f:Array Edge){x y:Int}{g:Option Addr}(hi:a.eval (.tmp i)=.int .i64 x)(hj:a.eval (.tmp j)=.int .i64 y)(hk:a.eval (.tmp k)=.slice g n c):(execOp a.eval { dst:=some d,op:=.build 82 #[(0,.tmp i),(1,.tmp j),(2,.tmp k)],type:=t,pos:=p,after:=f,guard:=none }).run Tryz.prog X=.ok (.value (.agg #[.int .i64 x,.int .i64 y,.slice g n c])) X:=by
 have hi':a.tmps[i]?.getD undef=.int .i64 x:=by simpa[Act.eval] using hi
 have hj':a.tmps[j]?.getD undef=.int .i64 y:=by simpa[Act.eval] using hj
 have hk':a.tmps[k]?.getD undef=.slice g n c:=by simpa[Act.eval] using hk
 clear hi hj hk;simp only[execOp];go_simp
theorem run_alP (X:World)(a:Act)(d:Nat)(t:TypeId)(p:String)(f:Array Edge):(execOp a.eval { dst:=some d,op:=.alloc 82,type:=t,pos:=p,after:=f,guard:=none }).run Tryz.prog X=.ok (.value (.pointer (some ⟨X.heap.size,0,none⟩))) (X.alloc (.cells #[.int .i64 0,.int .i64 0,.slice none 0 0] 82)):=by
 simp only[execOp];go_simp
theorem run_stP (X:World)(a:Act)(b i j:Nat)(t:TypeId)(p:String)(f:Array Edge){x y x' y':Int}{g g':Option Addr}{k' c':Nat}(hb:Bx3 X b (.int .i64 x) (.int .i64 y) (.slice g k c))(he:a.eval (.tmp i)=.pointer (some ⟨b,0,none⟩))(hv:a.eval (.tmp j)=.agg #[.int .i64 x',.int .i64 y',.slice g' k' c']):(execOp a.eval { dst:=none,op:=.store 82 (.tmp i) (.tmp j),type:=t,pos:=p,after:=f,guard:=none }).run Tryz.prog X=.ok .skip (((X.setCell ⟨b,0,none⟩ (.int .i64 x')).setCell ⟨b,1,none⟩ (.int .i64 y')).setCell ⟨b,2,none⟩ (.slice g' k' c')):=by
 have x0:=hb.c0;have x1:=hb.c1;have x2:=hb.c2;have z0:=hb.fz 0;have z1:=hb.fz 1;have z2:=hb.fz 2;simp only[execOp,he,hv];go_simp
def Wo (wc:World)(s:ByteArray)(L:Nat→Bool)(a:Act)(X:World):Prop:=
 Below wc.heap.size wc X ∧
 (L 0=true→a.eval (.tmp 11)=.string s)∧(L 1=true→a.eval (.tmp 12)=.int .u8 (byt s 4))∧(L 2=true→a.eval (.tmp 13)=.int .i64 (byt s 4)) ∧
 (L 3=true→a.eval (.tmp 14)=.string s)∧(L 4=true→a.eval (.tmp 15)=.int .i64 (four s 8))∧(L 5=true→a.eval (.tmp 16)=.string s) ∧
 (L 6=true→∃v,a.eval (.tmp 17)=v∧X.ownsRow wc.heap.size 9 1 v (rd s (many s) 0 1024).length (valsS (rd s (many s) 0 1024))) ∧
 (L 7=true→∃v,a.eval (.tmp 18)=.agg #[.int .i64 (byt s 4),.int .i64 (four s 8),v]∧X.ownsRow wc.heap.size 9 1 v (rd s (many s) 0 1024).length (valsS (rd s (many s) 0 1024))) ∧
 (L 8=true→∃b,a.eval (.tmp 4)=.pointer (some ⟨b,0,none⟩)∧wc.heap.size≤b∧Bx3 X b (.int .i64 0) (.int .i64 0) (.slice none 0 0))
def Io (wc:World)(s:ByteArray)(a0:Act)(L:Nat→Bool)(a:Act)(X:World):Prop:=
 Fr [11,12,13,14,15,16,17,18,4] a0 a∧(L 9=true→∀q,q<9→L q=true) ∧
 (L 9=true→∃b v,a.eval (.tmp 4)=.pointer (some ⟨b,0,none⟩)∧wc.heap.size≤b∧Bx3 X b (.int .i64 (byt s 4)) (.int .i64 (four s 8)) v∧Below wc.heap.size wc X∧X.ownsRow wc.heap.size 9 1 v (rd s (many s) 0 1024).length (valsS (rd s (many s) 0 1024))) ∧
 (L 9=false→Wo wc s L a X)
theorem regO {a0:Act}{wc:World}(s:ByteArray)(hs1:s.size=1024)(hsz:18<a0.tmps.size)(e0:a0.eval (.tmp 0)=.string s){t0 t1 t2 t3 t4 t5 t6 t7 t8 t9:TypeId}{p0 p1 p2 p3 p4 p5 p6 p7 p8 p9:String}{f0 f1 f2 f3 f4 f5 f6 f7 f8 f9:Array Edge}(hops:ops=#[⟨some 11,.move (.tmp 0),t0,p0,f0,none⟩,⟨some 12,.index 9 (.tmp 11) (.const (.int .i64 4)),t1,p1,f1,none⟩,⟨some 13,.convert 5 3 (.tmp 12),t2,p2,f2,none⟩,⟨some 14,.move (.tmp 0),t3,p3,f3,none⟩,⟨some 15,.call { callee:=.value (.func 69),args:=#[.tmp 14,.const (.int .i64 8)],argTypes:=#[9,3]},t4,p4,f4,none⟩,⟨some 16,.move (.tmp 0),t5,p5,f5,none⟩,⟨some 17,.call { callee:=.value (.func 70),args:=#[.tmp 16],argTypes:=#[9]},t6,p6,f6,none⟩,⟨some 18,.build 82 #[(0,.tmp 13),(1,.tmp 15),(2,.tmp 17)],t7,p7,f7,none⟩,⟨some 4,.alloc 82,t8,p8,f8,none⟩,⟨none,.store 82 (.tmp 4) (.tmp 18),t9,p9,f9,none⟩])(hb:backB ops=true)(d1:depB f1 [0]=true)(d2:depB f2 [1]=true)(d4:depB f4 [3]=true)(d6:depB f6 [5]=true)(d7:depB f7 [2,4,6]=true)(d9:depB f9 [0,1,2,3,4,5,6,7,8]=true)(hm:Tryz.prog.follows .mixedOrders=true)(hQ:∀(u11 u12 u13 u14 u15 u16 u17 u18:Value) b v X,wc.heap.size≤b→Bx3 X b (.int .i64 (byt s 4)) (.int .i64 (four s 8)) v→Below wc.heap.size wc X→X.ownsRow wc.heap.size 9 1 v (rd s (many s) 0 1024).length (valsS (rd s (many s) 0 1024))→Q .normal ⟨sets [(11,u11),(12,u12),(13,u13),(14,u14),(15,u15),(16,u16),(17,u17),(18,u18),(4,.pointer (some ⟨b,0,none⟩))] a0.tmps,a0.defers⟩ X):(Code.region id ops true).wp Tryz.prog Q a0 wc:=by
 refine wp_region_inv hm (Io wc s) (backB_spec hb) ?_ ?_ ?_
 ·refine⟨Fr.refl _ _,fun h=>absurd h (by decide),fun h=>absurd h (by decide),fun _=>⟨(Below.refl _ _).drew,?_⟩⟩;refine⟨?_,?_,?_,?_,?_,?_,?_,?_,?_⟩<;>intro h<;>exact absurd h (by decide)
 ·intro L a X hI q o ho hL hd;obtain⟨hF,hA,-,hW⟩:=hI;have hs:a.tmps.size=a0.tmps.size:=hF.2.1;have E0:a.eval (.tmp 0)=.string s:=by rw[hF.eval (by decide),e0]
  have h9:L 9=false:=by
   cases h:L 9 with
   | false=>rfl
   | true =>
    by_cases e:q=9
    ·rw[e,h] at hL;cases hL
    ·subst hops;have hq:q<10:=(Array.getElem?_eq_some_iff.1 ho).1;rw[hA h q (by omega)] at hL;cases hL
  have hno:L 9=true→False:=fun h=>by rw[h9] at h;cases h
  obtain⟨hB,g0,g1,g2,g3,g4,g5,g6,g7,g8⟩:=hW h9;clear hW hA;subst hops;obtain _|_|_|_|_|_|_|_|_|_|q:=q
  ·cases ho;refine wpOp_value rfl rfl (run_mvP X a 0 11 _ _ _ E0) ?_;show Io _ _ a0 (upd L 0) (a.put (some 11) _) _;exact⟨hF.put (by decide) _,fun h=>(hno h).elim,fun h=>(hno h).elim,fun _=>⟨hB,(fun _=>eval_put_same (by omega) _),(fun h=>by rw[eval_put_ne (by decide)];exact g1 h),(fun h=>by rw[eval_put_ne (by decide)];exact g2 h),(fun h=>by rw[eval_put_ne (by decide)];exact g3 h),(fun h=>by rw[eval_put_ne (by decide)];exact g4 h),(fun h=>by rw[eval_put_ne (by decide)];exact g5 h),(fun h=>by obtain⟨v,e,r⟩:=g6 h;exact⟨v,by rw[eval_put_ne (by decide)];exact e,r⟩),(fun h=>by obtain⟨v,e,r⟩:=g7 h;exact⟨v,by rw[eval_put_ne (by decide)];exact e,r⟩),(fun h=>by obtain⟨b,e,z,r⟩:=g8 h;exact⟨b,by rw[eval_put_ne (by decide)];exact e,z,r⟩)⟩⟩
  ·cases ho;have hdj:=depB_spec d1 hd;refine wpOp_value rfl rfl (run_ix X a s 11 12 _ _ _ hs1 (g0 (hdj 0 (by decide)))) ?_;show Io _ _ a0 (upd L 1) (a.put (some 12) _) _;exact⟨hF.put (by decide) _,fun h=>(hno h).elim,fun h=>(hno h).elim,fun _=>⟨hB,(fun h=>by rw[eval_put_ne (by decide)];exact g0 h),(fun _=>eval_put_same (by omega) _),(fun h=>by rw[eval_put_ne (by decide)];exact g2 h),(fun h=>by rw[eval_put_ne (by decide)];exact g3 h),(fun h=>by rw[eval_put_ne (by decide)];exact g4 h),(fun h=>by rw[eval_put_ne (by decide)];exact g5 h),(fun h=>by obtain⟨v,e,r⟩:=g6 h;exact⟨v,by rw[eval_put_ne (by decide)];exact e,r⟩),(fun h=>by obtain⟨v,e,r⟩:=g7 h;exact⟨v,by rw[eval_put_ne (by decide)];exact e,r⟩),(fun h=>by obtain⟨b,e,z,r⟩:=g8 h;exact⟨b,by rw[eval_put_ne (by decide)];exact e,z,r⟩)⟩⟩
  ·cases ho;have hdj:=depB_spec d2 hd;refine wpOp_value rfl rfl (run_cv X a s 12 13 _ _ _ (g1 (hdj 1 (by decide)))) ?_;show Io _ _ a0 (upd L 2) (a.put (some 13) _) _;exact⟨hF.put (by decide) _,fun h=>(hno h).elim,fun h=>(hno h).elim,fun _=>⟨hB,(fun h=>by rw[eval_put_ne (by decide)];exact g0 h),(fun h=>by rw[eval_put_ne (by decide)];exact g1 h),(fun _=>eval_put_same (by omega) _),(fun h=>by rw[eval_put_ne (by decide)];exact g3 h),(fun h=>by rw[eval_put_ne (by decide)];exact g4 h),(fun h=>by rw[eval_put_ne (by decide)];exact g5 h),(fun h=>by obtain⟨v,e,r⟩:=g6 h;exact⟨v,by rw[eval_put_ne (by decide)];exact e,r⟩),(fun h=>by obtain⟨v,e,r⟩:=g7 h;exact⟨v,by rw[eval_put_ne (by decide)];exact e,r⟩),(fun h=>by obtain⟨b,e,z,r⟩:=g8 h;exact⟨b,by rw[eval_put_ne (by decide)];exact e,z,r⟩)⟩⟩
  ·cases ho;refine wpOp_value rfl rfl (run_mvP X a 0 14 _ _ _ E0) ?_;show Io _ _ a0 (upd L 3) (a.put (some 14) _) _;exact⟨hF.put (by decide) _,fun h=>(hno h).elim,fun h=>(hno h).elim,fun _=>⟨hB,(fun h=>by rw[eval_put_ne (by decide)];exact g0 h),(fun h=>by rw[eval_put_ne (by decide)];exact g1 h),(fun h=>by rw[eval_put_ne (by decide)];exact g2 h),(fun _=>eval_put_same (by omega) _),(fun h=>by rw[eval_put_ne (by decide)];exact g4 h),(fun h=>by rw[eval_put_ne (by decide)];exact g5 h),(fun h=>by obtain⟨v,e,r⟩:=g6 h;exact⟨v,by rw[eval_put_ne (by decide)];exact e,r⟩),(fun h=>by obtain⟨v,e,r⟩:=g7 h;exact⟨v,by rw[eval_put_ne (by decide)];exact e,r⟩),(fun h=>by obtain⟨b,e,z,r⟩:=g8 h;exact⟨b,by rw[eval_put_ne (by decide)];exact e,z,r⟩)⟩⟩
  ·cases ho;have hdj:=depB_spec d4 hd;refine wpOp_call (R:=fun u X'=>u=.int .i64 (four s 8)∧Below X.heap.size X X') rfl rfl (run_f4 X a 14 15 _ _ _ (g3 (hdj 3 (by decide)))) ((cfourq s 8 X (by omega) (by omega)).mono fun e X' h=>?_) ?_
   ·obtain⟨h1,nq,h2⟩:=h;exact⟨_,h1,rfl,by rw[h2];exact below_drewN (Below.refl _ _) nq⟩
   rintro u X'⟨rfl,hb'⟩;show Io _ _ a0 (upd L 4) (a.put (some 15) _) _;exact⟨hF.put (by decide) _,fun h=>(hno h).elim,fun h=>(hno h).elim,fun _=>⟨(hB.trans (hb'.mono hB.size)),(fun h=>by rw[eval_put_ne (by decide)];exact g0 h),(fun h=>by rw[eval_put_ne (by decide)];exact g1 h),(fun h=>by rw[eval_put_ne (by decide)];exact g2 h),(fun h=>by rw[eval_put_ne (by decide)];exact g3 h),(fun _=>eval_put_same (by omega) _),(fun h=>by rw[eval_put_ne (by decide)];exact g5 h),(fun h=>by obtain⟨v,e,r⟩:=g6 h;exact⟨v,by rw[eval_put_ne (by decide)];exact e,own_below r hb'⟩),(fun h=>by obtain⟨v,e,r⟩:=g7 h;exact⟨v,by rw[eval_put_ne (by decide)];exact e,own_below r hb'⟩),(fun h=>by obtain⟨b,e,z,r⟩:=g8 h;exact⟨b,by rw[eval_put_ne (by decide)];exact e,z,r.below hb'⟩)⟩⟩
  ·cases ho;refine wpOp_value rfl rfl (run_mvP X a 0 16 _ _ _ E0) ?_;show Io _ _ a0 (upd L 5) (a.put (some 16) _) _;exact⟨hF.put (by decide) _,fun h=>(hno h).elim,fun h=>(hno h).elim,fun _=>⟨hB,(fun h=>by rw[eval_put_ne (by decide)];exact g0 h),(fun h=>by rw[eval_put_ne (by decide)];exact g1 h),(fun h=>by rw[eval_put_ne (by decide)];exact g2 h),(fun h=>by rw[eval_put_ne (by decide)];exact g3 h),(fun h=>by rw[eval_put_ne (by decide)];exact g4 h),(fun _=>eval_put_same (by omega) _),(fun h=>by obtain⟨v,e,r⟩:=g6 h;exact⟨v,by rw[eval_put_ne (by decide)];exact e,r⟩),(fun h=>by obtain⟨v,e,r⟩:=g7 h;exact⟨v,by rw[eval_put_ne (by decide)];exact e,r⟩),(fun h=>by obtain⟨b,e,z,r⟩:=g8 h;exact⟨b,by rw[eval_put_ne (by decide)];exact e,z,r⟩)⟩⟩
  ·cases ho;have hdj:=depB_spec d6 hd;refine wpOp_call (R:=fun u X'=>X'.ownsRow X.heap.size 9 1 u (rd s (many s) 0 1024).length (valsS (rd s (many s) 0 1024))∧Below X.heap.size X X') rfl rfl (run_cl X a 16 17 _ _ _ (g5 (hdj 5 (by decide)))) ((ccells s X hs1).mono fun e X' h=>?_) ?_
   ·obtain⟨v,h1,h2,h3⟩:=h;exact⟨v,h1,h2,h3⟩
   rintro u X'⟨ho',hb'⟩;have ho2:X'.ownsRow wc.heap.size 9 1 u (rd s (many s) 0 1024).length (valsS (rd s (many s) 0 1024)):=by
    refine⟨ho'.1,?_⟩;rcases ho'.2 with h | ⟨g,cap,cur,h1,h2,h3⟩
    ·exact .inl h
    ·exact .inr ⟨g,cap,cur,h1,Nat.le_trans hB.size h2,h3⟩
   show Io _ _ a0 (upd L 6) (a.put (some 17) _) _;exact⟨hF.put (by decide) _,fun h=>(hno h).elim,fun h=>(hno h).elim,fun _=>⟨(hB.trans (hb'.mono hB.size)),(fun h=>by rw[eval_put_ne (by decide)];exact g0 h),(fun h=>by rw[eval_put_ne (by decide)];exact g1 h),(fun h=>by rw[eval_put_ne (by decide)];exact g2 h),(fun h=>by rw[eval_put_ne (by decide)];exact g3 h),(fun h=>by rw[eval_put_ne (by decide)];exact g4 h),(fun h=>by rw[eval_put_ne (by decide)];exact g5 h),(fun _=>⟨u,eval_put_same (by omega) _,ho2⟩),(fun h=>by obtain⟨v,e,r⟩:=g7 h;exact⟨v,by rw[eval_put_ne (by decide)];exact e,own_below r hb'⟩),(fun h=>by obtain⟨b,e,z,r⟩:=g8 h;exact⟨b,by rw[eval_put_ne (by decide)];exact e,z,r.below hb'⟩)⟩⟩
  ·cases ho;have hdj:=depB_spec d7 hd;obtain⟨v,x17,ho'⟩:=g6 (hdj 6 (by decide));obtain⟨ga,gc,rfl,-⟩:=sta_own ho';refine wpOp_value rfl rfl (run_bd X a 13 15 17 18 _ _ _ (g2 (hdj 2 (by decide))) (g4 (hdj 4 (by decide))) x17) ?_;show Io _ _ a0 (upd L 7) (a.put (some 18) _) _;exact⟨hF.put (by decide) _,fun h=>(hno h).elim,fun h=>(hno h).elim,fun _=>⟨hB,(fun h=>by rw[eval_put_ne (by decide)];exact g0 h),(fun h=>by rw[eval_put_ne (by decide)];exact g1 h),(fun h=>by rw[eval_put_ne (by decide)];exact g2 h),(fun h=>by rw[eval_put_ne (by decide)];exact g3 h),(fun h=>by rw[eval_put_ne (by decide)];exact g4 h),(fun h=>by rw[eval_put_ne (by decide)];exact g5 h),(fun h=>by obtain⟨v,e,r⟩:=g6 h;exact⟨v,by rw[eval_put_ne (by decide)];exact e,r⟩),(fun _=>⟨_,eval_put_same (by omega) _,ho'⟩),(fun h=>by obtain⟨b,e,z,r⟩:=g8 h;exact⟨b,by rw[eval_put_ne (by decide)];exact e,z,r⟩)⟩⟩
  ·cases ho;have hb':Below X.heap.size X (X.alloc (.cells #[.int .i64 0,.int .i64 0,.slice none 0 0] 82)):=(Below.refl _ _).alloc (Nat.le_refl _) _;refine wpOp_value rfl rfl (run_alP X a 4 _ _ _) ?_;show Io _ _ a0 (upd L 8) (a.put (some 4) _) _;exact⟨hF.put (by decide) _,fun h=>(hno h).elim,fun h=>(hno h).elim,fun _=>⟨(hB.trans (hb'.mono hB.size)),(fun h=>by rw[eval_put_ne (by decide)];exact g0 h),(fun h=>by rw[eval_put_ne (by decide)];exact g1 h),(fun h=>by rw[eval_put_ne (by decide)];exact g2 h),(fun h=>by rw[eval_put_ne (by decide)];exact g3 h),(fun h=>by rw[eval_put_ne (by decide)];exact g4 h),(fun h=>by rw[eval_put_ne (by decide)];exact g5 h),(fun h=>by obtain⟨v,e,r⟩:=g6 h;exact⟨v,by rw[eval_put_ne (by decide)];exact e,own_below r hb'⟩),(fun h=>by obtain⟨v,e,r⟩:=g7 h;exact⟨v,by rw[eval_put_ne (by decide)];exact e,own_below r hb'⟩),(fun _=>⟨X.heap.size,eval_put_same (by omega) _,hB.size,Bx3.new _ _ _ _⟩)⟩⟩
  ·cases ho;have hdj:=depB_spec d9 hd;obtain⟨v,x18,ho'⟩:=g7 (hdj 7 (by decide));obtain⟨b,x4,zb,hbx⟩:=g8 (hdj 8 (by decide));obtain⟨ga,gc,rfl,-⟩:=sta_own ho';refine wpOp_skip rfl rfl (run_stP X a b 4 18 _ _ _ hbx x4 x18) ?_;show Io _ _ a0 (upd L 9) a _;refine⟨hF,fun _ q hq=>?_,fun _=>⟨b,_,x4,zb,hbx.put _ _ _,((hB.setCell zb _).setCell zb _).setCell zb _,own_put hbx ho' _ _ _⟩,fun h=>by rw[upd_same] at h;cases h⟩;rw[upd_ne _ (by omega)];exact hdj q (by simp;omega)
  ·cases ho
 ·intro L a X hI hall;subst hops;obtain⟨hF,-,hfin,-⟩:=hI;obtain⟨b,v,x4,l1,l2,l3,l4⟩:=hfin (hall 9 (by simp));have hs:a.tmps.size=a0.tmps.size:=hF.2.1;rw[hF.eq [(11,a.eval (.tmp 11)),(12,a.eval (.tmp 12)),(13,a.eval (.tmp 13)),(14,a.eval (.tmp 14)),(15,a.eval (.tmp 15)),(16,a.eval (.tmp 16)),(17,a.eval (.tmp 17)),(18,a.eval (.tmp 18)),(4,.pointer (some ⟨b,0,none⟩))] (by simp) (by simp[x4];omega)];exact hQ _ _ _ _ _ _ _ _ b v X l1 l2 l3 l4
def cls (s:ByteArray):List ByteArray:=rd s (many s) 0 1024
theorem extract_le (s:ByteArray)(a b:Nat)(h:s.size=1024):(s.extract a b).size≤1024:=by
 rw[ByteArray.size_extract];omega
theorem rd_size (hs:s.size=1024):∀f i e,∀x∈rd s f i e,x.size≤1024
 | 0,_,_,x,h=>by cases h
 | f + 1, i, e, x, h => by
  unfold rd at h;split at h
  ·cases h
  ·rcases List.mem_cons.1 h with rfl|h
   ·exact extract_le s _ _ hs
   ·exact rd_size hs f _ _ x h
theorem len_le (h:∀i,(S i).size≤1024):∀n,len S n≤1024*n
 | 0=>Nat.le_refl _
 | n + 1 => by
  have:=len_le h n;have:=h n;show len S n+(S n).size≤_;omega
theorem cls_used (hs:s.size=1024):4*(cls s).length+len (tx (cls s)) (cls s).length≤1099511627776:=by
 have h1:(cls s).length≤253:=Nat.le_trans (rd_len s _ _ _) (Nat.min_le_right _ _);have h2:=len_le (S:=tx (cls s)) (fun i=>by
  unfold tx;rw[List.getD_eq_getElem?_getD];cases h:(cls s)[i]? with
  | none=>exact Nat.zero_le _
  | some x=>exact rd_size hs _ _ _ x (List.mem_of_getElem? h)) (cls s).length
 omega
theorem str_neq {a b:ByteArray}(h:¬a=b):(a.toList == b.toList)=false:=by
 rw[beq_eq_false_iff_ne,ByteArray.toList_eq,ByteArray.toList_eq];intro e;apply h;cases a;cases b
 congr 1
 exact Array.ext' e
theorem own_mono {base':Nat}(ho:W.ownsRow base 9 1 v k xs)(h:base'≤base):W.ownsRow base' 9 1 v k xs:=by
 refine⟨ho.1,?_⟩;rcases ho.2 with h' | ⟨g,cap,cur,h1,h2,h3⟩
 ·exact .inl h'
 ·exact .inr ⟨g,cap,cur,h1,Nat.le_trans h h2,h3⟩
def good (s:ByteArray):Prop:=(1≤byt s 4∧byt s 4≤5∧four s 8≤2147483647)∧4*(cls s).length+len (tx (cls s)) (cls s).length≤1012∧(⟨(sealed (byt s 4) (four s 8) (cls s).length (tx (cls s))).toArray⟩:ByteArray)=s
theorem copenq (s:ByteArray)(w:World)(hs:s.size=1024):Calls Tryz.prog 28 #[.string s] w fun e w'=>((good s∧∃v,e=.returned (.tuple #[.agg #[.int .i64 (byt s 4),.int .i64 (four s 8),v],.int .i64 0])∧w'.ownsRow w.heap.size 9 1 v (cls s).length (valsS (cls s)))∨(¬good s∧e=.returned (.tuple #[.agg #[.int .i64 0,.int .i64 0,.slice none 0 0],.int .i64 4])))∧Below w.heap.size w w':=by
 go_enter Tryz.func28,Tryz.ntmps28
 go_upto_region 3 with fail
 have hw0:Below w.heap.size w (w.alloc (.cells #[.int .i64 0,.int .i64 0,.slice none 0 0] 82)):=((Below.refl _ _).alloc (Nat.le_refl _) _);refine regO s hs ?_ rfl rfl (by kernel_rfl) (by kernel_rfl) (by kernel_rfl) (by kernel_rfl) (by kernel_rfl) (by kernel_rfl) (by kernel_rfl) (by kernel_rfl) ?_
 ·simp
 intro u11 u12 u13 u14 u15 u16 u17 u18 b v X zb hbx hB ho;obtain⟨ga,gc,rfl,hst⟩:=sta_own ho;have HO:Hid _:=ho;have HX:Hid _:=hbx;have HB:Hid (Below w.heap.size w X):=hw0.trans (hB.mono hw0.size);have hR:Bx3 X w.heap.size (.int .i64 0) (.int .i64 0) (.slice none 0 0):=(Bx3.new w _ _ _).below hB;have HR:Hid _:=hR;have b0:=hbx.c0;have b1:=hbx.c1;have b2:=hbx.c2;have HS:Hid (StA X ga (cls s).length (tx (cls s))):=hst;clear ho hbx hB hw0 hR hst;simp only[sets,List.setIfInBounds_toArray,List.set_cons_zero,List.set_cons_succ];go_wp2_with fail
 refine(cseal (byt s 4) (four s 8) ga (cls s).length gc (tx (cls s)) X HS.out (cls_used hs)).mono ?_;rintro e W1⟨h,hb1⟩;rcases h with⟨rfl,hbad⟩ | ⟨rfl,hk,hbig⟩ | ⟨rfl,hk,hsm⟩
 ·skip
  have HG:Hid (¬good s):=fun h=>hbad (by have:=h.1;omega)
  have HB1:Hid (Below w.heap.size w W1):=HB.out.trans (hb1.mono HB.out.size);have hR1:Bx3 W1 w.heap.size (.int .i64 0) (.int .i64 0) (.slice none 0 0):=Bx3.below HR.out hb1;have r0:=hR1.c0;have r1:=hR1.c1;have r2:=hR1.c2;have z0:=hR1.fz 0;have z1:=hR1.fz 1;have z2:=hR1.fz 2;clear hR1 hb1;go_wp2;refine bodyPost_ret (v:=.tuple #[.agg #[.int .i64 0,.int .i64 0,.slice none 0 0],.int .i64 4]) (by simp[results,Tryz.results28,go_sem, *]) rfl ⟨.inr ⟨HG.out,rfl⟩,?_⟩;exact((HB1.out.setCell (Nat.le_refl _) _).setCell (Nat.le_refl _) _).setCell (Nat.le_refl _) _
 ·skip
  have HG:Hid (¬good s):=fun h=>by have:=h.2.1;omega
  have HB1:Hid (Below w.heap.size w W1):=HB.out.trans (hb1.mono HB.out.size);have hR1:Bx3 W1 w.heap.size (.int .i64 0) (.int .i64 0) (.slice none 0 0):=Bx3.below HR.out hb1;have r0:=hR1.c0;have r1:=hR1.c1;have r2:=hR1.c2;have z0:=hR1.fz 0;have z1:=hR1.fz 1;have z2:=hR1.fz 2;clear hR1 hb1;go_wp2;refine bodyPost_ret (v:=.tuple #[.agg #[.int .i64 0,.int .i64 0,.slice none 0 0],.int .i64 4]) (by simp[results,Tryz.results28,go_sem, *]) rfl ⟨.inr ⟨HG.out,rfl⟩,?_⟩;exact((HB1.out.setCell (Nat.le_refl _) _).setCell (Nat.le_refl _) _).setCell (Nat.le_refl _) _
 ·by_cases hE:(⟨(sealed (byt s 4) (four s 8) (cls s).length (tx (cls s))).toArray⟩:ByteArray)=s
  ·have HG:Hid (good s):=⟨by omega,hsm,hE⟩;have HE:Hid ((⟨(sealed (byt s 4) (four s 8) (cls s).length (tx (cls s))).toArray⟩:ByteArray)=s):=hE;have HB1:Hid (Below w.heap.size w W1):=HB.out.trans (hb1.mono HB.out.size);have hR1:Bx3 W1 w.heap.size (.int .i64 0) (.int .i64 0) (.slice none 0 0):=Bx3.below HR.out hb1;have r0:=hR1.c0;have r1:=hR1.c1;have r2:=hR1.c2;have z0:=hR1.fz 0;have z1:=hR1.fz 1;have z2:=hR1.fz 2;have hX1:Bx3 W1 b (.int .i64 (byt s 4)) (.int .i64 (four s 8)) (.slice ga (cls s).length gc):=Bx3.below HX.out hb1;have b0':=hX1.c0;have b1':=hX1.c1;have b2':=hX1.c2;have HO1:Hid _:=own_put hR1 (own_below HO.out hb1) (.int .i64 (byt s 4)) (.int .i64 (four s 8)) (.slice ga (cls s).length gc);simp only[Int.toNat_natCast];rw[HE.out];clear hR1 hb1 hX1 b0 b1 b2 hE;go_wp2;refine bodyPost_ret (v:=.tuple #[.agg #[.int .i64 (byt s 4),.int .i64 (four s 8),.slice ga (cls s).length gc],.int .i64 0]) (by simp[results,Tryz.results28,go_sem, *]) rfl ⟨.inl ⟨HG.out,_,rfl,own_mono HO1.out (by simp)⟩,?_⟩;exact((HB1.out.setCell (Nat.le_refl _) _).setCell (Nat.le_refl _) _).setCell (Nat.le_refl _) _
  ·have hE':=str_neq hE;have HG:Hid (¬good s):=fun h=>hE h.2.2
   have HB1:Hid (Below w.heap.size w W1):=HB.out.trans (hb1.mono HB.out.size);have hR1:Bx3 W1 w.heap.size (.int .i64 0) (.int .i64 0) (.slice none 0 0):=Bx3.below HR.out hb1;have r0:=hR1.c0;have r1:=hR1.c1;have r2:=hR1.c2;have z0:=hR1.fz 0;have z1:=hR1.fz 1;have z2:=hR1.fz 2;clear hR1 hb1;simp only[Int.toNat_natCast];generalize (⟨(sealed (byt s 4) (four s 8) (cls s).length (tx (cls s))).toArray⟩:ByteArray)=T at *;go_wp2;refine bodyPost_ret (v:=.tuple #[.agg #[.int .i64 0,.int .i64 0,.slice none 0 0],.int .i64 4]) (by simp[results,Tryz.results28,go_sem, *]) rfl ⟨.inr ⟨HG.out,rfl⟩,?_⟩;exact((HB1.out.setCell (Nat.le_refl _) _).setCell (Nat.le_refl _) _).setCell (Nat.le_refl _) _
def vw (l:List UInt8)(i:Nat):Nat:=(l.getD i 0).toNat
theorem get_mk (l:List UInt8)(i:Nat):(⟨l.toArray⟩:ByteArray)[i]! = l.getD i 0:=by
 by_cases h:i<l.length
 ·rw[getElem!_pos _ i (show i<(⟨l.toArray⟩:ByteArray).size from by simpa[ByteArray.size] using h)];rw[List.getD_eq_getElem?_getD,List.getElem?_eq_getElem h];rfl
 ·rw[getElem!_neg _ i (show ¬i<(⟨l.toArray⟩:ByteArray).size from by simpa[ByteArray.size] using h)];rw[List.getD_eq_getElem?_getD,List.getElem?_eq_none (by omega)];rfl
theorem byt_mk (l:List UInt8)(i:Nat):byt ⟨l.toArray⟩ i=vw l i:=by
 unfold byt vw;rw[get_mk]
theorem vw_set {a:Nat}(ha:a<l.length)(x:UInt8)(i:Nat):vw (l.set a x) i=if i=a then x.toNat else vw l i:=by
 unfold vw;rw[List.getD_eq_getElem?_getD,List.getD_eq_getElem?_getD];by_cases h:i=a
 ·subst h;rw[if_pos rfl,List.getElem?_set_self ha];rfl
 ·rw[if_neg h,List.getElem?_set_ne (Ne.symm h)]
theorem vw_put2 {a:Nat}(ha:a+1<l.length)(n i:Nat):vw (put2 l a n) i=if i=a+1 then n%256 else if i=a then n/256%256 else vw l i:=by
 unfold put2;rw[vw_set (by rw[List.length_set];exact ha),vw_set (by omega)];simp
theorem vw_spl {o:Nat}{t:ByteArray}(h:o+t.size≤l.length)(i:Nat):vw (spl l o t) i=if o≤i∧i<o+t.size then byt t (i-o) else vw l i:=by
 have ht:t.data.toList.length=t.size:=rfl;have e:t=⟨t.data.toList.toArray⟩:=by cases t;simp
 unfold spl;by_cases h1:i<o
 ·rw[if_neg (by omega)];unfold vw;rw[List.getD_eq_getElem?_getD,List.getD_eq_getElem?_getD,List.append_assoc,List.getElem?_append_left (by simp;omega),List.getElem?_take_of_lt h1]
 ·by_cases h2:i<o+t.size
  ·rw[if_pos (by omega)];have hb:byt t (i-o)=vw t.data.toList (i-o):=by
    rw[←byt_mk]
   rw[hb];unfold vw;rw[List.getD_eq_getElem?_getD,List.getD_eq_getElem?_getD,List.getElem?_append_left (by simp;omega),List.getElem?_append_right (by simp;omega)]
   congr 3
   simp;omega
  ·rw[if_neg (by omega)];unfold vw;rw[List.getD_eq_getElem?_getD,List.getD_eq_getElem?_getD,List.getElem?_append_right (by simp;omega),List.getElem?_drop]
   congr 3
   simp;omega
theorem two_mk (l:List UInt8)(i:Nat):two ⟨l.toArray⟩ i=vw l i*256+vw l (i+1):=by unfold two;rw[byt_mk,byt_mk]
theorem lay_len (hl:l.length=1024)(hn:4*n+len S n≤1012):∀k,k≤n→(lay S l k).length=1024
 | 0,_=>hl
 | k + 1, hk => by
  have ih:=lay_len hl hn k (by omega);have h1:=len_mono S hk;have h2:len S (k+1)=len S k+(S k).size:=rfl;have e:(put2 (put2 (lay S l k) (12+2*k) (at' S (k+1))) (at' S (k+1)) (S k).size).length=1024:=by rw[put2_len,put2_len,ih]
  show(spl _ _ _).length=1024;rw[spl_len _ _ _ (by rw[e];unfold at';omega),e]
theorem lay_step (hl:l.length=1024)(hn:4*n+len S n≤1012)(hk:k+1≤n)(i:Nat):vw (lay S l (k+1)) i=if at' S (k+1)+2≤i∧i<at' S (k+1)+2+(S k).size then byt (S k) (i-(at' S (k+1)+2)) else if i=at' S (k+1)+1 then(S k).size%256 else if i=at' S (k+1) then(S k).size/256%256 else if i=12+2*k+1 then at' S (k+1)%256 else if i=12+2*k then at' S (k+1)/256%256 else vw (lay S l k) i:=by
 have ih:=lay_len (S:=S) hl hn k (by omega);have h1:=len_mono S hk;have h2:len S (k+1)=len S k+(S k).size:=rfl;show vw (spl _ _ _) i=_;rw[vw_spl (by rw[put2_len,put2_len,ih];unfold at';omega),vw_put2 (by rw[put2_len,ih];unfold at';omega),vw_put2 (by rw[ih];omega)]
theorem at_s (hn:4*n+len S n≤1012)(hk:k+1≤n):at' S (k+1)+2+(S k).size=at' S k∧12+2*n≤at' S (k+1)∧at' S k≤1024:=by
 have h1:=len_mono S hk;have h2:len S (k+1)=len S k+(S k).size:=rfl;unfold at';omega
theorem lay_same (hl:l.length=1024)(hn:4*n+len S n≤1012)(hk:k+1≤n)(h1:i<12+2*k∨12+2*k+2≤i)(h2:i<at' S (k+1)∨at' S k≤i):vw (lay S l (k+1)) i=vw (lay S l k) i:=by
 obtain⟨a1,a2,a3⟩:=at_s hn hk;rw[lay_step hl hn hk,if_neg (by omega),if_neg (by omega),if_neg (by omega),if_neg (by omega),if_neg (by omega)]
theorem at_mono (hjk:j≤k):at' S k≤at' S j:=by
 have:=len_mono S hjk;unfold at';omega
theorem lay_keep (hl:l.length=1024)(hn:4*n+len S n≤1012)(h:i<12+2*j∨at' S j≤i):∀{k:Nat},j≤k→k≤n→vw (lay S l k) i=vw (lay S l j) i:=by
 intro k hjk hk
 induction k with
 | zero =>
  have:j=0:=by omega
  subst this;rfl
 | succ k ih =>
  by_cases e:j=k+1
  ·subst e;rfl
  ·obtain⟨a1,a2,a3⟩:=at_s hn hk;have a4:=at_mono (S:=S) (show j≤k by omega);rw[lay_same hl hn hk (by omega) (by omega),ih (by omega) (by omega)]
theorem body_len (hn:4*n+len S n≤1012):(body K Lk n S).length=1024:=lay_len (head_lenq _ _ _) hn n (Nat.le_refl _)
theorem sealed_len (hn:4*n+len S n≤1012):(sealed K Lk n S).length=1024:=by unfold sealed;rw[put4_len,body_len hn]
theorem vw_put4 {a:Nat}(ha:a+3<l.length)(m i:Nat):vw (put4 l a m) i=if i=a+3 then m%256 else if i=a+2 then m/256%256 else if i=a+1 then m/65536%256 else if i=a then m/65536/256%256 else vw l i:=by
 unfold put4;rw[vw_put2 (by rw[put2_len];omega),vw_put2 (by omega)]
theorem vw_head (i:Nat):vw (head K Lk n) i=if i=11 then Lk%256 else if i=10 then Lk/256%256 else if i=9 then Lk/65536%256 else if i=8 then Lk/65536/256%256 else if i=7 then n%256 else if i=6 then n/256%256 else if i=4 then K%256 else vw blankq i:=by
 unfold head;rw[vw_put4 (by rw[put2_len,List.length_set,blank_lenq];omega),vw_put2 (by rw[List.length_set,blank_lenq];omega),vw_set (by rw[blank_lenq];omega)];simp
theorem vw_sealed (hn:4*n+len S n≤1012)(hi:4≤i):vw (sealed K Lk n S) i=vw (body K Lk n S) i:=by
 unfold sealed;rw[vw_put4 (by rw[body_len hn];omega),if_neg (by omega),if_neg (by omega),if_neg (by omega),if_neg (by omega)]
theorem vw_low (hn:4*n+len S n≤1012)(h4:4≤i)(hi:i<12):vw (sealed K Lk n S) i=vw (head K Lk n) i:=by
 rw[vw_sealed hn h4];exact lay_keep (head_lenq _ _ _) hn (j:=0) (by omega) (Nat.zero_le _) (Nat.le_refl _)
theorem sealed_kind (hn:4*n+len S n≤1012)(hK:K≤5):byt ⟨(sealed K Lk n S).toArray⟩ 4=K:=by
 rw[byt_mk,vw_low hn (by omega) (by omega),vw_head];simp;omega
theorem sealed_many (hn:4*n+len S n≤1012):two ⟨(sealed K Lk n S).toArray⟩ 6=n:=by
 rw[two_mk,vw_low hn (by omega) (by omega),vw_low hn (by omega) (by omega),vw_head,vw_head];simp;omega
theorem sealed_link (hn:4*n+len S n≤1012)(hL:Lk≤2147483647):four ⟨(sealed K Lk n S).toArray⟩ 8=Lk:=by
 unfold four;rw[two_mk,two_mk,vw_low hn (by omega) (by omega),vw_low hn (by omega) (by omega),vw_low hn (by omega) (by omega),vw_low hn (by omega) (by omega),vw_head,vw_head,vw_head,vw_head];simp;omega
theorem sealed_at (hn:4*n+len S n≤1012)(hk:k+1≤n):two ⟨(sealed K Lk n S).toArray⟩ (12+2*k)=at' S (k+1):=by
 obtain⟨a1,a2,a3⟩:=at_s hn hk;rw[two_mk,vw_sealed hn (by omega),vw_sealed hn (by omega)];have e1:vw (body K Lk n S) (12+2*k)=at' S (k+1)/256%256:=by
  refine(lay_keep (head_lenq _ _ _) hn (j:=k+1) (by omega) hk (Nat.le_refl _)).trans ?_;rw[lay_step (head_lenq _ _ _) hn hk,if_neg (by omega),if_neg (by omega),if_neg (by omega),if_neg (by omega),if_pos rfl]
 have e2:vw (body K Lk n S) (12+2*k+1)=at' S (k+1)%256:=by
  refine(lay_keep (head_lenq _ _ _) hn (j:=k+1) (by omega) hk (Nat.le_refl _)).trans ?_;rw[lay_step (head_lenq _ _ _) hn hk,if_neg (by omega),if_neg (by omega),if_neg (by omega),if_pos rfl]
 rw[e1,e2];omega
theorem sealed_size (hn:4*n+len S n≤1012)(hk:k+1≤n):two ⟨(sealed K Lk n S).toArray⟩ (at' S (k+1))=(S k).size:=by
 obtain⟨a1,a2,a3⟩:=at_s hn hk;rw[two_mk,vw_sealed hn (by omega),vw_sealed hn (by omega)];have e1:vw (body K Lk n S) (at' S (k+1))=(S k).size/256%256:=by
  refine(lay_keep (head_lenq _ _ _) hn (j:=k+1) (by omega) hk (Nat.le_refl _)).trans ?_;rw[lay_step (head_lenq _ _ _) hn hk,if_neg (by omega),if_neg (by omega),if_pos rfl]
 have e2:vw (body K Lk n S) (at' S (k+1)+1)=(S k).size%256:=by
  refine(lay_keep (head_lenq _ _ _) hn (j:=k+1) (by omega) hk (Nat.le_refl _)).trans ?_;rw[lay_step (head_lenq _ _ _) hn hk,if_neg (by omega),if_pos rfl]
 rw[e1,e2];omega
theorem sealed_cell (hn:4*n+len S n≤1012)(hk:k+1≤n)(hi:i<(S k).size):vw (sealed K Lk n S) (at' S (k+1)+2+i)=byt (S k) i:=by
 obtain⟨a1,a2,a3⟩:=at_s hn hk;rw[vw_sealed hn (by omega)];refine(lay_keep (head_lenq _ _ _) hn (j:=k+1) (by omega) hk (Nat.le_refl _)).trans ?_;rw[lay_step (head_lenq _ _ _) hn hk,if_pos (by omega)]
 congr 1
 omega
theorem byt_ext {a b:ByteArray}(hs:a.size=b.size)(h:∀i,i<a.size→byt a i=byt b i):a=b:=by
 cases a with | mk a =>
 cases b with | mk b =>
 congr 1
 apply Array.ext hs;intro i h1 h2;have e:=h i h1;unfold byt at e;rw[getElem!_pos _ i (show i<(⟨a⟩:ByteArray).size from h1),getElem!_pos _ i (show i<(⟨b⟩:ByteArray).size from h2)] at e;exact UInt8.toNat_inj.1 e
theorem byt_extract {a b:Nat}(hb:b≤s.size)(hi:i<b-a):byt (s.extract a b) i=byt s (a+i):=by
 have hz:(s.extract a b).size=b-a:=by rw[ByteArray.size_extract];omega
 have h1:i<(s.extract a b).size:=by omega
 have h2:a+i<s.size:=by omega
 unfold byt;rw[getElem!_pos _ i h1,getElem!_pos _ (a+i) h2,ByteArray.getElem_extract]
theorem size_mk (l:List UInt8):(⟨l.toArray⟩:ByteArray).size=l.length:=by simp[ByteArray.size]
theorem sealed_extract (hn:4*n+len S n≤1012)(hk:k+1≤n):(⟨(sealed K Lk n S).toArray⟩:ByteArray).extract (at' S (k+1)+2) (at' S k)=S k:=by
 obtain⟨a1,a2,a3⟩:=at_s hn hk;have hz:(⟨(sealed K Lk n S).toArray⟩:ByteArray).size=1024:=by rw[size_mk,sealed_len hn]
 have hs:((⟨(sealed K Lk n S).toArray⟩:ByteArray).extract (at' S (k+1)+2) (at' S k)).size=(S k).size:=by
  rw[ByteArray.size_extract];omega
 refine byt_ext hs fun i hi=>?_
 rw[hs] at hi;rw[byt_extract (by omega) (by omega),byt_mk,sealed_cell hn hk hi]
theorem sealed_rd (hn:4*n+len S n≤1012):∀f k,k+f=n→rd ⟨(sealed K Lk n S).toArray⟩ f k (at' S k)=(List.range' k f).map S
 | 0,k,_=>rfl
 | f + 1, k, hk => by
  obtain⟨a1,a2,a3⟩:=at_s hn (show k+1≤n by omega);have e1:=sealed_at (K:=K) (Lk:=Lk) hn (show k+1≤n by omega);have e2:=sealed_size (K:=K) (Lk:=Lk) hn (show k+1≤n by omega);rw[rd_go (by rw[e1,e2];omega),e1,sealed_extract hn (show k+1≤n by omega),sealed_rd hn f (k+1) (by omega)];rfl
theorem sealed_cls (hn:4*n+len S n≤1012):cls ⟨(sealed K Lk n S).toArray⟩=(List.range n).map S:=by
 unfold cls many;rw[sealed_many hn,Nat.min_eq_left (by omega)];have:=sealed_rd (K:=K) (Lk:=Lk) hn n 0 (by omega);rw[show at' S 0=1024 from rfl] at this;rw[this,List.range_eq_range']
theorem len_congr {T:Nat→ByteArray}:∀{k:Nat},(∀i,i<k→S i=T i)→len S k=len T k
 | 0,_=>rfl
 | k + 1, h => by
  show len S k+(S k).size=len T k+(T k).size;rw[len_congr (fun i hi=>h i (by omega)),h k (by omega)]
theorem at_congr {T:Nat→ByteArray}(h:∀i,i<k→S i=T i):at' S k=at' T k:=by
 unfold at';rw[len_congr h]
theorem lay_congr {T:Nat→ByteArray}(l:List UInt8):∀{k:Nat},(∀i,i<k→S i=T i)→lay S l k=lay T l k
 | 0,_=>rfl
 | k + 1, h => by
  show spl _ _ (S k)=spl _ _ (T k);rw[lay_congr l (fun i hi=>h i (by omega)),at_congr h,h k (by omega)]
theorem sealed_congr {T:Nat→ByteArray}(h:∀i,i<n→S i=T i):sealed K Lk n S=sealed K Lk n T:=by
 unfold sealed body;rw[lay_congr _ h]
theorem tx_range (S:Nat→ByteArray)(hi:i<n):tx ((List.range n).map S) i=S i:=by
 unfold tx;rw[List.getD_eq_getElem?_getD,List.getElem?_map,List.getElem?_range hi];rfl
theorem sealed_good (hK:1≤K∧K≤5)(hL:Lk≤2147483647)(hn:4*n+len S n≤1012):good ⟨(sealed K Lk n S).toArray⟩:=by
 have e1:=sealed_kind (K:=K) (Lk:=Lk) hn hK.2;have e2:=sealed_link (K:=K) (Lk:=Lk) hn hL;have e3:=sealed_cls (K:=K) (Lk:=Lk) hn;have hl:((List.range n).map S).length=n:=by simp
 have hc:∀i,i<n→tx ((List.range n).map S) i=S i:=fun i hi=>tx_range S hi
 unfold good;rw[e1,e2,e3,hl,len_congr hc,sealed_congr hc];exact⟨⟨hK.1,hK.2,hL⟩,hn,rfl⟩
end Go.Proofs.YtiaibgfhigdgdaaGreat
