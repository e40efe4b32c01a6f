/- package pool: begin; Open of a new disk, and of what a crash left -/
import Derived.Test.YtmgjdjjfeapcdaaGreatPoQ
import Derived.Test.YtmgjdjjfeapcdaaGreatMgAA
import Derived.Test.YtmgjdjjfeapcdaaGreatMgAE
namespace Go.Proofs.YtmgjdjjfeapcdaaGreat
open Go.RowKit Go.Lib Go.Maps Go.Sort Go.Shelf
attribute [local go_sem ↓] Go.wp_at_zero Go.wp_at_succ
def L00:LS:=⟨⟨0,1,0,0⟩,0,fun _=>none,fun _=>none⟩
def K00:Pgs:=wth noP 0 (pgB 4 0)
theorem new_cm:∃ L1 S1,cmL L00 newS ((0:Nat):Int) (pgB 4 0) ((1:Nat):Int)=(0,L1,S1)∧L1.last.pages=1∧Inv L1 S1 K00 K00 1∧NoF S1∧okS S1 8:=by
  have hn:NoF newS:=⟨rfl,rfl⟩
  have hnf:=cmL_nf (L:=L00) hn ((0:Nat):Int) (pgB 4 0) ((1:Nat):Int)
  have hok:=cmL_ok (L:=L00) (S:=newS) (k:=4) ⟨⟨by decide,by decide⟩,by decide,by decide,by decide⟩ ((0:Nat):Int) (pgB 4 0) ((1:Nat):Int)
  rcases cm_out (n:=0) (pg:=1) inv_new (by omega) (by omega) (pgB_size 4 0) (by omega) (by omega) with ⟨L1,S1,e1,d1,-⟩ | ⟨L1,S1,e1,d1,p1,I1⟩
  · exfalso
    have e1:cmL L00 newS ((0:Nat):Int) (pgB 4 0) ((1:Nat):Int)=(2,L1,S1):=e1
    rw [e1] at hnf
    have:=hnf.2
    rw [d1] at this
    cases this
  · have e1:cmL L00 newS ((0:Nat):Int) (pgB 4 0) ((1:Nat):Int)=(0,L1,S1):=e1
    rw [e1] at hnf hok
    exact ⟨L1,S1,e1,p1,I1,hnf,hok⟩
set_option maxRecDepth 20000 in
set_option maxHeartbeats 1000000 in
theorem cbegin_new {W:World} {B D G bp bf:Nat} (h:PL W B D G bp bf 60000 L00 newS) (hB:B≤W.heap.size) {L1:LS} {S1:DS} (hc:cmL L00 newS ((0:Nat):Int) (pgB 4 0) ((1:Nat):Int)=(0,L1,S1)) (hI:Inv L1 S1 K00 K00 1) :
    Calls Tryz.prog 26 #[(.pointer (some ⟨G,0,none⟩))] W fun e w'=>e=.returned (.int .i64 0)∧PL w' B D G bp bf 60000 L1 S1∧Below B W w':=by
  have HC:=hide (cpages W B D G bp bf 60000 L00 newS h)
  have HP:=hide (h)
  have HB:=hide (hB)
  have HM:=hide (hc)
  have HI:=hide (hI)
  clear h hB hc hI
  go_enter Tryz.func26,Tryz.ntmps26
  go_wp2_with fail
  refine HC.out.mono ?_
  rintro e w1 ⟨rfl,hw⟩;rw [hw];clear hw
  have e0:((L00.last.pages:Nat):Int)=0:=rfl
  rw [e0]
  go_wp2_with fail
  refine (csealB (K:=4) (Lk:=0) ⟨by decide,by decide⟩ (by decide) none 0 _).mono ?_
  rintro e w2 ⟨rfl,b2⟩
  have HP2:=hide (HP.out.below b2)
  have HB2:=hide (show B≤w2.heap.size from Nat.le_trans HB.out b2.size)
  have HBW:=hide (show Below B W w2 from b2.mono HB.out)
  have HCM:=hide (ccommit ((0:Nat):Int) (pgB 4 0) ((1:Nat):Int) w2 B D G bp bf 60000 4 L00 newS HP2.out HB2.out (by decide) ⟨⟨by decide,by decide⟩,by decide,by decide,by decide⟩ (by decide) (by decide) inv_new.pre.tp.ok)
  rw [HM.out] at HCM
  clear b2
  go_wp2_with fail
  refine HCM.out.mono ?_
  rintro e w3 ⟨rfl,p3,b3⟩
  have HP3:=hide (p3.small HI.out.pos HI.out.posF)
  have HB3:=hide (HBW.out.trans b3.toBelow)
  clear p3 b3 HCM
  go_wp2
  go_ret
  exact ⟨rfl,HP3.out,HB3.out⟩
/- a pool over a new disk -/
theorem copen_first {X:World} {B D:Nat} (h:PDs X B D newD) (hB:B≤X.heap.size) :
    Calls Tryz.prog 6 #[(.pointer (some ⟨D,0,none⟩)),.int .i64 8] X fun e w'=>∃ Gp V,e=.returned (.tuple #[(.pointer (some ⟨Gp,0,none⟩)),.int .i64 0])∧PO w' B D Gp V K00 K00 1 1∧NoF V.S∧V.P.pages=1∧V.P.free=0∧Below B X w':=by
  obtain ⟨L1,S1,hc,p1,hI,hnf,hok⟩:=new_cm
  obtain ⟨T1,T2,T3,hS⟩:=beg_new
  have:=copenP (X:=X) (B:=B) (D:=D) (Z:=B) (L0:=L00) (L:=L1) (S0:=newS) (S:=S1) (F:=K00) (j:=1) (k:=8) (m:=1) (fr:=0) 8 ⟨by decide,by decide⟩
    ((copen_new X B D 0 newD T1 T2 T3 newS h hB ⟨⟨by decide,by decide⟩,by decide,by decide,by decide⟩ (by decide) rfl new_last 0 rfl hS).mono (by
      rintro e w' ⟨G,bp,bf,rfl,hL,hb⟩
      exact ⟨G,bp,bf,rfl,hL.mono (by omega),hb.toBelow⟩))
    (fun G bp bf W hW hBW=>(cbegin_new hW hBW hc hI).mono (by
      rintro e w' ⟨rfl,hL,hb⟩
      exact ⟨rfl,hL,hb,hb.mono (by omega)⟩))
    hB hB hI (Nat.le_refl _) (by decide) hok (by decide) ⟨by omega,by omega⟩ (fun n n0 n1=>⟨pgB 4 0,by
      have:n=0:=by omega
      subst this
      exact wth_at _ _ _,pgB_size _ _⟩) (by decide) (wth_at _ _ _) hnf.2
  refine this.mono ?_
  rintro e w' ⟨Gp,V,rfl,q1,q2,q3,q4,q5⟩
  rw [p1] at q1 q3
  exact ⟨Gp,V,rfl,q1,by rw [q2];exact hnf,q3,q4,q5⟩
end Go.Proofs.YtmgjdjjfeapcdaaGreat
namespace Go.Proofs.YtmgjdjjfeapcdaaGreat
open Go.RowKit Go.Lib
attribute [local go_sem ↓] Go.wp_at_zero Go.wp_at_succ
def kS (c:ByteArray):Nat:=1+bytS c 0
theorem kS_in (c:ByteArray):1≤kS c∧kS c≤256:=by have:=bytS_lt c 0;unfold kS;omega
def keyB (c:ByteArray):ByteArray:=c.extract 1 (kS c)
def restB (c:ByteArray):ByteArray:=c.extract (kS c) c.size
set_option maxRecDepth 20000 in
theorem ckeySize (c:ByteArray) (w:World) (hc:0<c.size) (hs:c.size≤1099511627776):Calls Tryz.prog 178 #[.string c] w fun e w'=>e=.returned (.int .i64 (kS c:Nat))∧w'=w:=by
  have h2:(0:Int)<(c.size:Int):=by omega
  have b0:=bytS_lt c 0
  have g0:=bytS_get hc
  have hk:((kS c:Nat):Int)=1+(bytS c 0:Int):=by unfold kS;omega
  rw [hk]
  go_enter Tryz.func178,Tryz.ntmps178
  go_wp2
  go_ret
  exact ⟨rfl,rfl⟩
set_option maxRecDepth 20000 in
theorem ckeyOf (c:ByteArray) (w:World) (hc:kS c≤c.size) (hs:c.size≤1099511627776):Calls Tryz.prog 149 #[.string c] w fun e w'=>e=.returned (.string (keyB c))∧w'=w:=by
  have hk:=kS_in c
  have hsl:=fun X=>slice_lit c 1 (kS c) hk.1 hc X
  go_enter Tryz.func149,Tryz.ntmps149
  go_wp2_with fail
  refine (ckeySize c _ (by omega) hs).mono ?_
  rintro e w1 ⟨rfl,rfl⟩
  go_wp2_with fail
  go_ret
  exact ⟨rfl,rfl⟩
set_option maxRecDepth 20000 in
theorem crestOf (c:ByteArray) (w:World) (hc:kS c≤c.size) (hs:c.size≤1099511627776):Calls Tryz.prog 176 #[.string c] w fun e w'=>e=.returned (.string (restB c))∧w'=w:=by
  have hk:=kS_in c
  go_enter Tryz.func176,Tryz.ntmps176
  go_wp2_with fail
  refine (ckeySize c _ (by omega) hs).mono ?_
  rintro e w1 ⟨rfl,rfl⟩
  go_wp2_with fail
  go_ret
  exact ⟨rfl,rfl⟩
theorem cfourT (n:Nat) (w:World):Calls Tryz.prog 183 #[.int .i64 n] w fun e w'=>e=.returned (.string (fourB n))∧Below w.heap.size w w':=by
  have ht:=four_text w n
  go_enter Tryz.func183,Tryz.ntmps183
  go_wp2
  go_ret
  exact ⟨rfl,(Below.refl _ _).alloc (Nat.le_refl _) _⟩
theorem cmayBe (k:ByteArray) (w:World) (hs:k.size≤1099511627776):Calls Tryz.prog 50 #[.string k] w fun e w'=>e=.returned (.bool (decide (0<k.size∧k.size≤200)))∧w'=w:=by
  by_cases h1:0<k.size
  · have k1:(0:Int)<(k.size:Int):=by omega
    by_cases h2:k.size≤200
    · have k2:(k.size:Int)≤200:=by omega
      rw [decide_eq_true ⟨h1,h2⟩]
      go_enter Tryz.func50,Tryz.ntmps50
      go_wp2
      go_ret
      exact ⟨rfl,rfl⟩
    · have k2:¬ (k.size:Int)≤200:=by omega
      rw [decide_eq_false (fun h=>h2 h.2)]
      go_enter Tryz.func50,Tryz.ntmps50
      go_wp2
      go_ret
      exact ⟨rfl,rfl⟩
  · have k1:¬ (0:Int)<(k.size:Int):=by omega
    rw [decide_eq_false (fun h=>h1 h.1)]
    go_enter Tryz.func50,Tryz.ntmps50
    go_wp2
    go_ret
    exact ⟨rfl,rfl⟩
theorem cfits (k:ByteArray) (n:Nat) (w:World) (hs:k.size≤1099511627776) (hn:n≤1099511627776):Calls Tryz.prog 152 #[.string k,.int .i64 (n:Int)] w fun e w'=>e=.returned (.bool (decide (2+k.size+n≤240)))∧w'=w:=by
  by_cases h1:2+k.size+n≤240
  · have k1:(2:Int)+(k.size:Int)+(n:Int)≤240:=by omega
    rw [decide_eq_true h1]
    go_enter Tryz.func152,Tryz.ntmps152
    go_wp2
    go_ret
    exact ⟨rfl,rfl⟩
  · have k1:¬ (2:Int)+(k.size:Int)+(n:Int)≤240:=by omega
    rw [decide_eq_false h1]
    go_enter Tryz.func152,Tryz.ntmps152
    go_wp2
    go_ret
    exact ⟨rfl,rfl⟩
set_option maxRecDepth 20000 in
theorem cpageOf (c:ByteArray) (w:World) (hc:4≤c.size) (hs:c.size≤1099511627776):Calls Tryz.prog 161 #[.string c] w fun e w'=>e=.returned (.int .i64 (numB c (c.size - 4):Nat))∧w'=w:=by
  obtain ⟨p,hp⟩:∃ p,c.size=p+4:=⟨c.size - 4,by omega⟩
  have hp2:c.size - 4=p:=by omega
  have hp3:wrap64 ((c.size:Int) - 4)=(p:Int):=by unfold wrap64;omega
  rw [hp2]
  go_enter Tryz.func161,Tryz.ntmps161
  go_wp2
  go_loop [3,4] (fun x y=>∃ i:Nat,x=.int .i64 (numK c p i:Nat)∧y=.int .i64 ((p+i:Nat):Int)∧i≤4) (fun _ y=>p+4 - (intOf y).toNat)
  case atStart=>exact ⟨0,rfl,by go_num,by omega⟩
  case round =>
    obtain ⟨k,rfl,rfl,hk⟩:=hrel
    by_cases h0:k<4
    · have h1:((p+k:Nat):Int)<(c.size:Int):=by omega
      have hks:p+k<c.size:=by omega
      have b0:=bytS_lt c (p+k)
      have g0:=bytS_get hks
      have u0:=numK_7 c p (show k≤4 by omega)
      have h3:numK c p (k+1)=numK c p k * 256+bytS c (p+k):=rfl
      have hj:=join_i64 (numK c p k) (bytS c (p+k)) b0 u0
      go_wp2
      go_round
      case rel=>exact ⟨k+1,by rw [h3];first | rfl | go_num,by go_num,by omega⟩
      case measure=>simp [intOf];omega
    · obtain rfl:k=4:=by omega
      have h1:¬ ((p+4:Nat):Int)<(c.size:Int):=by omega
      go_wp2
      go_ret
      exact ⟨rfl,rfl⟩
def isKeyedB (c:ByteArray):Bool:=decide (0<c.size∧0<bytS c 0∧bytS c 0≤200∧kS c≤c.size)
set_option maxRecDepth 20000 in
theorem cisKeyed (c:ByteArray) (w:World) (hs:c.size≤1099511627776):Calls Tryz.prog 212 #[.string c] w fun e w'=>e=.returned (.bool (isKeyedB c))∧w'=w:=by
  unfold isKeyedB
  by_cases h1:0<c.size
  · have k1:(0:Int)<(c.size:Int):=by omega
    have g0:=bytS_get h1
    have b0:=bytS_lt c 0
    by_cases h2:0<bytS c 0
    · have k2:(0:Int)<(bytS c 0:Int):=by omega
      by_cases h3:bytS c 0≤200
      · have k3:(bytS c 0:Int)≤200:=by omega
        by_cases h4:kS c≤c.size
        · have k4:((kS c:Nat):Int)≤(c.size:Int):=by omega
          rw [decide_eq_true ⟨h1,h2,h3,h4⟩]
          go_enter Tryz.func212,Tryz.ntmps212
          go_wp2_with fail
          refine (ckeySize c _ h1 hs).mono ?_
          rintro e w1 ⟨rfl,rfl⟩
          go_wp2_with fail
          go_ret
          exact ⟨rfl,rfl⟩
        · have k4:¬ ((kS c:Nat):Int)≤(c.size:Int):=by omega
          rw [decide_eq_false (fun h=>h4 h.2.2.2)]
          go_enter Tryz.func212,Tryz.ntmps212
          go_wp2_with fail
          refine (ckeySize c _ h1 hs).mono ?_
          rintro e w1 ⟨rfl,rfl⟩
          go_wp2_with fail
          go_ret
          exact ⟨rfl,rfl⟩
      · have k3:¬ (bytS c 0:Int)≤200:=by omega
        rw [decide_eq_false (fun h=>h3 h.2.2.1)]
        go_enter Tryz.func212,Tryz.ntmps212
        go_wp2_with fail
        go_ret
        exact ⟨rfl,rfl⟩
    · have k2:¬ (0:Int)<(bytS c 0:Int):=by omega
      rw [decide_eq_false (fun h=>h2 h.2.1)]
      go_enter Tryz.func212,Tryz.ntmps212
      go_wp2_with fail
      go_ret
      exact ⟨rfl,rfl⟩
  · have k1:¬ (0:Int)<(c.size:Int):=by omega
    rw [decide_eq_false (fun h=>h1 h.1)]
    go_enter Tryz.func212,Tryz.ntmps212
    go_wp2_with fail
    go_ret
    exact ⟨rfl,rfl⟩
end Go.Proofs.YtmgjdjjfeapcdaaGreat
namespace Go.Proofs.YtmgjdjjfeapcdaaGreat
open Go
theorem bl_irr:∀ l:List UInt8,Op.bytesLess l l=false
  | []=>rfl
  | a :: l=>by simp [Op.bytesLess,bl_irr l]
theorem bl_tr:∀ {a b c:List UInt8},Op.bytesLess a b=true→Op.bytesLess b c=true→Op.bytesLess a c=true
  | [],[],_,h,_=>by simp [Op.bytesLess] at h
  | [],_ :: _,[],_,h=>by simp [Op.bytesLess] at h
  | [],_ :: _,_ :: _,_,_=>by simp [Op.bytesLess]
  | _ :: _,[],_,h,_=>by simp [Op.bytesLess] at h
  | _ :: _,_ :: _,[],_,h=>by simp [Op.bytesLess] at h
  | a :: x,b :: y,c :: z,h,k=>by
    simp only [Op.bytesLess,Bool.or_eq_true,decide_eq_true_eq,Bool.and_eq_true,beq_iff_eq] at h k ⊢
    rcases h with h | ⟨rfl,h⟩
    · rcases k with k | ⟨rfl,k⟩
      · exact .inl (UInt8.lt_trans h k)
      · exact .inl h
    · rcases k with k | ⟨rfl,k⟩
      · exact .inl k
      · exact .inr ⟨rfl,bl_tr h k⟩
theorem bl_tri:∀ a b:List UInt8,Op.bytesLess a b=true∨a=b∨Op.bytesLess b a=true
  | [],[]=>.inr (.inl rfl)
  | [],_ :: _=>.inl (by simp [Op.bytesLess])
  | _ :: _,[]=>.inr (.inr (by simp [Op.bytesLess]))
  | a :: x,b :: y=>by
    simp only [Op.bytesLess,Bool.or_eq_true,decide_eq_true_eq,Bool.and_eq_true,beq_iff_eq]
    by_cases h1:a<b
    · exact .inl (.inl h1)
    · by_cases h2:b<a
      · exact .inr (.inr (.inl h2))
      · have e:a=b:=by
          apply UInt8.toNat_inj.1
          have a1:¬ a.toNat<b.toNat:=fun h=>h1 (UInt8.lt_iff_toNat_lt.2 h)
          have a2:¬ b.toNat<a.toNat:=fun h=>h2 (UInt8.lt_iff_toNat_lt.2 h)
          omega
        subst e
        rcases bl_tri x y with h | h | h
        · exact .inl (.inr ⟨rfl,h⟩)
        · exact .inr (.inl (by rw [h]))
        · exact .inr (.inr (.inr ⟨rfl,h⟩))
/- the order of keys -/
def klt (a b:ByteArray):Bool:=Op.bytesLess a.toList b.toList
theorem toList_inj {a b:ByteArray} (h:a.toList=b.toList):a=b:=by
  rw [ByteArray.toList_eq,ByteArray.toList_eq] at h
  cases a;cases b
  simp at h
  rw [h]
theorem klt_irr (a:ByteArray):klt a a=false:=bl_irr _
theorem klt_tr {a b c:ByteArray} (h:klt a b=true) (k:klt b c=true):klt a c=true:=bl_tr h k
theorem klt_tri (a b:ByteArray):klt a b=true∨a=b∨klt b a=true:=(bl_tri a.toList b.toList).imp id (fun h=>h.imp toList_inj id)
theorem klt_asy {a b:ByteArray} (h:klt a b=true):klt b a=false:=by
  cases k:klt b a with
  | false=>rfl
  | true=>have:=klt_tr h k;rw [klt_irr] at this;cases this
/- not above: a ≤ b ≤ .. -/
theorem kle_lt {a b c:ByteArray} (h:klt b a=false) (k:klt b c=true):klt a c=true:=by
  rcases klt_tri a b with e | e | e
  · exact klt_tr e k
  · rw [e];exact k
  · rw [h] at e;cases e
theorem klt_le {a b c:ByteArray} (h:klt a b=true) (k:klt c b=false):klt a c=true:=by
  rcases klt_tri b c with e | e | e
  · exact klt_tr h e
  · rw [← e];exact h
  · rw [k] at e;cases e
theorem kle_tr {a b c:ByteArray} (h:klt b a=false) (k:klt c b=false):klt c a=false:=by
  cases e:klt c a with
  | false=>rfl
  | true=>have:=klt_le e h;rw [k] at this;cases this
/- below an end: the empty text is none -/
def ltB (k h:ByteArray):Prop:=h=⟨#[]⟩∨klt k h=true
abbrev Ent:=ByteArray × ByteArray
structure It where
  key:ByteArray
  val:ByteArray
  pgs:List Nat
structure PgV where
  kind:Nat
  link:Nat
  cells:List ByteArray
structure Lf where
  num:Nat
  link:Nat
  its:List It
structure Inn (α:Type) where
  num:Nat
  kids:List (ByteArray × α)
@[reducible] def T:Nat→Type
  | 0=>Lf
  | d+1=>Inn (T d)
def keyedB (k:ByteArray):ByteArray:=⟨#[k.size.toUInt8]⟩ ++ k
def inlineB (k v:ByteArray):ByteArray:=keyedB k ++ ⟨#[0]⟩ ++ v
def longB (k:ByteArray) (size n:Nat):ByteArray:=keyedB k ++ ⟨#[1,(size / 256).toUInt8,size.toUInt8]⟩ ++ fourB n
def childB (k:ByteArray) (n:Nat):ByteArray:=keyedB k ++ fourB n
def cellI (i:It):ByteArray:=match i.pgs with
  | []=>inlineB i.key i.val
  | p :: _=>longB i.key i.val.size p
def numT:(d:Nat)→T d→Nat
  | 0,t=>t.num
  | _+1,t=>t.num
def cellsT:(d:Nat)→T d→List ByteArray
  | 0,t=>t.its.map cellI
  | d+1,t=>t.kids.tail.map fun p=>childB p.1 (numT d p.2)
def linkT:(d:Nat)→T d→Nat
  | 0,t=>t.link
  | d+1,t=>match t.kids with
    | []=>0
    | p :: _=>numT d p.2
def kindT:Nat→Nat
  | 0=>1
  | _+1=>2
def pgT (d:Nat) (t:T d):PgV:=⟨kindT d,linkT d t,cellsT d t⟩
def usedC (l:List ByteArray):Nat:=(l.map fun c=>4+c.size).sum
/- the pages of a long value -/
def valN:List Nat→List ByteArray→List (Nat × PgV)
  | p :: ps,c :: cs=>(p,⟨5,ps.headD 0,[c]⟩) :: valN ps cs
  | _,_=>[]
def cuts (v:ByteArray):Nat→Nat→List ByteArray
  | _,0=>[]
  | a,n+1=>v.extract a (min (a+1008) v.size) :: cuts v (a+1008) n
def piecesV (v:ByteArray):List ByteArray:=cuts v 0 ((v.size+1007) / 1008)
def nodI (i:It):List (Nat × PgV):=valN i.pgs (piecesV i.val)
/- all pages of a tree -/
def nodT:(d:Nat)→T d→List (Nat × PgV)
  | 0,t=>(t.num,pgT 0 t) :: t.its.flatMap nodI
  | d+1,t=>(t.num,pgT (d+1) t) :: t.kids.flatMap fun p=>nodT d p.2
def entT:(d:Nat)→T d→List Ent
  | 0,t=>t.its.map fun i=>(i.key,i.val)
  | d+1,t=>t.kids.flatMap fun p=>entT d p.2
def lvsT:(d:Nat)→T d→List (Nat × Nat)
  | 0,t=>[(t.num,t.link)]
  | d+1,t=>t.kids.flatMap fun p=>lvsT d p.2
def okK (k:ByteArray):Prop:=0<k.size∧k.size≤200
structure okI (i:It):Prop where
  key:okK i.key
  val:i.val.size≤3000
  pgs:i.pgs.length=if 2+i.key.size+i.val.size≤240 then 0 else (i.val.size+1007) / 1008
/- the bounds of a list of items, of a list of children -/
def BI (lo:ByteArray):List It→ByteArray→Prop
  | [],_=>True
  | i :: r,hi=>okI i∧klt i.key lo=false∧ltB i.key hi∧(∀ j ∈ r,klt i.key j.key=true)∧BI lo r hi
def nxt {α:Type} (s:List (ByteArray × α)) (hi:ByteArray):ByteArray:=match s with
  | []=>hi
  | p :: _=>p.1
def BS {α:Type} (B:ByteArray→ByteArray→α→Prop):List (ByteArray × α)→ByteArray→Prop
  | [],_=>True
  | p :: r,hi=>ltB p.1 (nxt r hi)∧B p.1 (nxt r hi) p.2∧(∀ q ∈ r,okK q.1)∧BS B r hi
def Bnd:(d:Nat)→ByteArray→ByteArray→T d→Prop
  | 0,lo,hi,t=>BI lo t.its hi
  | d+1,lo,hi,t=>(∃ p r,t.kids=p :: r∧p.1=lo)∧BS (Bnd d) t.kids hi
/- how full nodes are -/
def FilN:(d:Nat)→T d→Prop
  | 0,t=>180≤usedC (cellsT 0 t)∧usedC (cellsT 0 t)≤1012
  | d+1,t=>(180≤usedC (cellsT (d+1) t)∧usedC (cellsT (d+1) t)≤1012)∧∀ p ∈ t.kids,FilN d p.2
def FilK:(d:Nat)→T d→Prop
  | 0,_=>True
  | d+1,t=>∀ p ∈ t.kids,FilN d p.2
theorem FilN_iff (d:Nat) (t:T d):FilN d t ↔ (180≤usedC (cellsT d t)∧usedC (cellsT d t)≤1012)∧FilK d t:=by
  cases d with
  | zero=>exact ⟨fun h=>⟨h,trivial⟩,fun h=>h.1⟩
  | succ d=>exact Iff.rfl
/- a place in a tree: all that stands around it -/
inductive Cx:Nat→Type where
  | top (d:Nat):Cx d
  | up {d:Nat} (num:Nat) (s1:List (ByteArray × T d)) (k:ByteArray) (s2:List (ByteArray × T d)) (c:Cx (d+1)):Cx d
def frm {d:Nat} (num:Nat) (s1:List (ByteArray × T d)) (k:ByteArray) (x:T d) (s2:List (ByteArray × T d)):T (d+1):=⟨num,s1 ++ (k,x) :: s2⟩
def entS {d:Nat} (s:List (ByteArray × T d)):List Ent:=s.flatMap fun p=>entT d p.2
def lvsS {d:Nat} (s:List (ByteArray × T d)):List (Nat × Nat):=s.flatMap fun p=>lvsT d p.2
def nodS {d:Nat} (s:List (ByteArray × T d)):List (Nat × PgV):=s.flatMap fun p=>nodT d p.2
def Cx.pre:{d:Nat}→Cx d→List Ent
  | _,.top _=>[]
  | _,.up _ s1 _ _ c=>c.pre ++ entS s1
def Cx.suf:{d:Nat}→Cx d→List Ent
  | _,.top _=>[]
  | _,.up _ _ _ s2 c=>entS s2 ++ c.suf
def Cx.lpre:{d:Nat}→Cx d→List (Nat × Nat)
  | _,.top _=>[]
  | _,.up _ s1 _ _ c=>c.lpre ++ lvsS s1
def Cx.lsuf:{d:Nat}→Cx d→List (Nat × Nat)
  | _,.top _=>[]
  | _,.up _ _ _ s2 c=>lvsS s2 ++ c.lsuf
def Cx.root:{d:Nat}→Cx d→Nat→Nat
  | _,.top _,n=>n
  | _,.up num _ _ _ c,_=>c.root num
/- how deep the whole tree is -/
def Cx.dep:{d:Nat}→Cx d→Nat
  | d,.top _=>d
  | _,.up _ _ _ _ c=>c.dep
/- a frame's own page, where the child that is left out has the number n -/
def frP {d:Nat} (s1:List (ByteArray × T d)) (k:ByteArray) (s2:List (ByteArray × T d)) (n:Nat):PgV:=
  let l:=s1.map (fun p=>(p.1,numT d p.2)) ++ (k,n) :: s2.map (fun p=>(p.1,numT d p.2))
  ⟨2,(l.headD (k,n)).2,l.tail.map fun p=>childB p.1 p.2⟩
theorem frP_eq {d:Nat} (num:Nat) (s1:List (ByteArray × T d)) (k:ByteArray) (x:T d) (s2:List (ByteArray × T d)):frP s1 k s2 (numT d x)=pgT (d+1) (frm num s1 k x s2):=by
  cases s1 with
  | nil=>simp [frP,pgT,kindT,linkT,cellsT,frm]
  | cons p r=>simp [frP,pgT,kindT,linkT,cellsT,frm,Function.comp_def]
def Cx.nod:{d:Nat}→Cx d→Nat→List (Nat × PgV)
  | _,.top _,_=>[]
  | _,.up num s1 k s2 c,n=>(num,frP s1 k s2 n) :: (nodS s1 ++ nodS s2) ++ c.nod num
def Cx.bnd:{d:Nat}→Cx d→ByteArray→ByteArray→Prop
  | _,.top _,lo,hi=>lo=⟨#[]⟩∧hi=⟨#[]⟩
  | d,.up _ s1 k s2 c,lo,hi=>∃ lo' hi',c.bnd lo' hi'∧lo=k∧hi=nxt s2 hi'∧BS (Bnd d) s1 k∧BS (Bnd d) s2 hi'∧ltB k (nxt s2 hi')∧nxt s1 k=lo'∧(∀ q ∈ s2,okK q.1)∧(∀ q ∈ s1.tail,okK q.1)∧(s1=[]∨okK k)
def Cx.isTop:{d:Nat}→Cx d→Bool
  | _,.top _=>true
  | _,_=>false
def Cx.fil:{d:Nat}→Cx d→Prop
  | _,.top _=>True
  | d,.up _ s1 k s2 c=>(∀ p ∈ s1,FilN d p.2)∧(∀ p ∈ s2,FilN d p.2)∧((c.isTop=true∨180≤usedC (frP s1 k s2 0).cells)∧usedC (frP s1 k s2 0).cells≤1012)∧c.fil
/- each frame has another child -/
def Cx.two:{d:Nat}→Cx d→Prop
  | _,.top _=>True
  | _,.up _ s1 _ s2 c=>¬ (s1=[]∧s2=[])∧c.two
/- the leaves' links -/
def hdL (l:List (Nat × Nat)) (nx:Nat):Nat:=match l with
  | []=>nx
  | p :: _=>p.1
def lk:List (Nat × Nat)→Nat→Prop
  | [],_=>True
  | p :: r,nx=>p.2=hdL r nx∧lk r nx
theorem lk_app:∀ (a b:List (Nat × Nat)) (nx:Nat),lk (a ++ b) nx ↔ lk a (hdL b nx)∧lk b nx
  | [],b,nx=>by simp [lk]
  | p :: r,b,nx=>by
    have e:hdL (r ++ b) nx=hdL r (hdL b nx):=by cases r <;> rfl
    simp only [List.cons_append,lk,lk_app r b nx,e]
    constructor
    · rintro ⟨h1,h2,h3⟩;exact ⟨⟨h1,h2⟩,h3⟩
    · rintro ⟨⟨h1,h2⟩,h3⟩;exact ⟨h1,h2,h3⟩
theorem hdL_app (a b:List (Nat × Nat)) (nx:Nat):hdL (a ++ b) nx=hdL a (hdL b nx):=by cases a <;> rfl
theorem usedC_app (a b:List ByteArray):usedC (a ++ b)=usedC a+usedC b:=by simp [usedC]
theorem usedC_cons (a:ByteArray) (b:List ByteArray):usedC (a :: b)=4+a.size+usedC b:=by simp [usedC]
theorem nxt_app {α:Type} (a b:List (ByteArray × α)) (hi:ByteArray):nxt (a ++ b) hi=nxt a (nxt b hi):=by cases a <;> rfl
theorem BS_app {α:Type} {B:ByteArray→ByteArray→α→Prop}:∀ (a b:List (ByteArray × α)) (hi:ByteArray),BS B (a ++ b) hi ↔ BS B a (nxt b hi)∧BS B b hi∧(a=[]∨∀ q ∈ b,okK q.1)
  | [],b,hi=>by simp [BS]
  | p :: r,b,hi=>by
    simp only [List.cons_append,BS,BS_app r b hi,nxt_app,List.mem_append]
    constructor
    · rintro ⟨h1,h2,h3,h4,h5,h6⟩
      exact ⟨⟨h1,h2,fun q hq=>h3 q (.inl hq),h4⟩,h5,.inr fun q hq=>h3 q (.inr hq)⟩
    · rintro ⟨⟨h1,h2,h3,h4⟩,h5,h6⟩
      have h6:∀ q ∈ b,okK q.1:=h6.resolve_left (by simp)
      exact ⟨h1,h2,fun q hq=>hq.elim (h3 q) (h6 q),h4,h5,.inr h6⟩
theorem BI_app {lo:ByteArray}:∀ (a b:List It) (hi:ByteArray),BI lo (a ++ b) hi ↔ BI lo a hi∧BI lo b hi∧∀ x ∈ a,∀ y ∈ b,klt x.key y.key=true
  | [],b,hi=>by simp [BI]
  | p :: r,b,hi=>by
    simp only [List.cons_append,BI,BI_app r b hi,List.mem_append,List.mem_cons]
    constructor
    · rintro ⟨h1,h2,h3,h4,h5,h6,h7⟩
      exact ⟨⟨h1,h2,h3,fun j hj=>h4 j (.inl hj),h5⟩,h6,fun x hx y hy=>by
        rcases hx with rfl | hx
        · exact h4 y (.inr hy)
        · exact h7 x hx y hy⟩
    · rintro ⟨⟨h1,h2,h3,h4,h5⟩,h6,h7⟩
      exact ⟨h1,h2,h3,fun j hj=>hj.elim (h4 j) (fun hj=>h7 p (.inl rfl) j hj),h5,h6,fun x hx y hy=>h7 x (.inr hx) y hy⟩
theorem BI_mem {lo:ByteArray}:∀ {l:List It} {hi:ByteArray},BI lo l hi→∀ i ∈ l,okI i∧klt i.key lo=false∧ltB i.key hi
  | _ :: _,hi,⟨h1,h2,h3,_,h5⟩,i,hm=>by
    rcases List.mem_cons.1 hm with rfl | hm
    · exact ⟨h1,h2,h3⟩
    · exact BI_mem h5 i hm
/- other bounds -/
theorem BI_re {lo lo' hi hi':ByteArray}:∀ {l:List It},BI lo l hi→(∀ i ∈ l,klt i.key lo'=false∧ltB i.key hi')→BI lo' l hi'
  | [],_,_=>trivial
  | p :: _,⟨h1,_,_,h4,h5⟩,h=>⟨h1,(h p (List.mem_cons_self ..)).1,(h p (List.mem_cons_self ..)).2,h4,BI_re h5 fun i hi=>h i (List.mem_cons_of_mem _ hi)⟩
/- the keys of a tree stand within its bounds -/
theorem ltB_ne {a b:ByteArray} (h:ltB a b) (hb:okK b):klt a b=true:=h.resolve_left (fun e=>by rw [e] at hb;exact absurd hb.1 (by decide))
mutual
theorem ent_in:∀ (d:Nat) (lo hi:ByteArray) (t:T d),Bnd d lo hi t→∀ e ∈ entT d t,klt e.1 lo=false∧ltB e.1 hi∧okK e.1
  | 0,lo,hi,t,h,e,he=>by
    simp only [entT,List.mem_map] at he
    obtain ⟨i,hi',rfl⟩:=he
    have:=BI_mem h i hi'
    exact ⟨this.2.1,this.2.2,this.1.key⟩
  | d+1,lo,hi,t,⟨⟨p,r,hk,hp⟩,hb⟩,e,he=>by
    have:=entS_in d t.kids hi hb e he
    rw [hk] at this
    have h1:klt e.1 p.1=false:=this.1
    rw [hp] at h1
    exact ⟨h1,this.2⟩
theorem entS_in:∀ (d:Nat) (s:List (ByteArray × T d)) (hi:ByteArray),BS (Bnd d) s hi→∀ e ∈ s.flatMap (fun p=>entT d p.2),klt e.1 (nxt s hi)=false∧ltB e.1 hi∧okK e.1
  | d,p :: r,hi,⟨h1,h2,h3,h4⟩,e,he=>by
    rw [List.flatMap_cons,List.mem_append] at he
    rcases he with he | he
    · have:=ent_in d p.1 (nxt r hi) p.2 h2 e he
      refine ⟨this.1,?_,this.2.2⟩
      cases r with
      | nil=>exact this.2.1
      | cons q r =>
        have hq:klt e.1 q.1=true:=ltB_ne this.2.1 (h3 q (List.mem_cons_self ..))
        have hq':ltB q.1 hi:=bs_ltB d (q :: r) hi h4 (by simp)
        exact hq'.imp id (fun k=>klt_tr hq k)
    · have:=entS_in d r hi h4 e he
      refine ⟨?_,this.2⟩
      cases r with
      | nil=>simp at he
      | cons q r =>
        have hq:klt p.1 q.1=true:=ltB_ne h1 (h3 q (List.mem_cons_self ..))
        have h9:klt e.1 q.1=false:=this.1
        exact kle_tr (klt_asy hq) h9
theorem bs_ltB:∀ (d:Nat) (s:List (ByteArray × T d)) (hi:ByteArray),BS (Bnd d) s hi→¬ s=[]→ltB (nxt s hi) hi
  | d,[p],hi,⟨h1,_⟩,_=>h1
  | d,p :: q :: r,hi,⟨h1,_,h3,h4⟩,_=>by
    have hq:klt p.1 q.1=true:=ltB_ne h1 (h3 q (List.mem_cons_self ..))
    have h5:ltB q.1 hi:=bs_ltB d (q :: r) hi h4 (by simp)
    exact h5.imp id (fun k=>klt_tr hq k)
end
end Go.Proofs.YtmgjdjjfeapcdaaGreat
namespace Go.Proofs.YtmgjdjjfeapcdaaGreat
open Go
/- all but how full the place and its children are -/
structure WfB {d:Nat} (c:Cx d) (x:T d) (es:List Ent):Prop where
  bnd:∃ lo hi,c.bnd lo hi∧Bnd d lo hi x
  fil:c.fil
  ent:c.pre ++ entT d x ++ c.suf=es
  lks:lk (c.lpre ++ lvsT d x ++ c.lsuf) 0
theorem entS_app {d:Nat} (a b:List (ByteArray × T d)):entS (a ++ b)=entS a ++ entS b:=by simp [entS]
theorem lvsS_app {d:Nat} (a b:List (ByteArray × T d)):lvsS (a ++ b)=lvsS a ++ lvsS b:=by simp [lvsS]
theorem nodS_app {d:Nat} (a b:List (ByteArray × T d)):nodS (a ++ b)=nodS a ++ nodS b:=by simp [nodS]
theorem entT_s {d:Nat} (t:T (d+1)):entT (d+1) t=entS t.kids:=rfl
theorem lvsT_s {d:Nat} (t:T (d+1)):lvsT (d+1) t=lvsS t.kids:=rfl
theorem entS_cons {d:Nat} (p:ByteArray × T d) (b:List (ByteArray × T d)):entS (p :: b)=entT d p.2 ++ entS b:=by simp [entS]
theorem lvsS_cons {d:Nat} (p:ByteArray × T d) (b:List (ByteArray × T d)):lvsS (p :: b)=lvsT d p.2 ++ lvsS b:=by simp [lvsS]
theorem nodS_cons {d:Nat} (p:ByteArray × T d) (b:List (ByteArray × T d)):nodS (p :: b)=nodT d p.2 ++ nodS b:=by simp [nodS]
theorem nodT_eq:∀ (d:Nat) (t:T d),nodT d t=(numT d t,pgT d t) :: (nodT d t).tail
  | 0,_=>rfl
  | _+1,_=>rfl
theorem nodT_s {d:Nat} (t:T (d+1)):(nodT (d+1) t).tail=nodS t.kids:=rfl
theorem fourB_sz (n:Nat):(fourB n).size=4:=by unfold fourB;rfl
theorem keyedB_sz (k:ByteArray):(keyedB k).size=1+k.size:=by unfold keyedB;rw [ByteArray.size_append];rfl
theorem childB_sz (k:ByteArray) (n:Nat):(childB k n).size=5+k.size:=by unfold childB;rw [ByteArray.size_append,keyedB_sz,fourB_sz];omega
/- one level up -/
theorem WfB.up {d:Nat} {num:Nat} {s1 s2:List (ByteArray × T d)} {k:ByteArray} {c:Cx (d+1)} {x:T d} {es:List Ent} (h:WfB (.up num s1 k s2 c) x es):WfB c (frm num s1 k x s2) es:=by
  obtain ⟨lo,hi,⟨lo',hi',b1,e1,e2,b2,b3,b4,b5,b6,b7,b8⟩,hx⟩:=h.bnd
  rw [e1,e2] at hx
  refine ⟨⟨lo',hi',b1,?_,?_⟩,h.fil.2.2.2,?_,?_⟩
  · cases s1 with
    | nil=>exact ⟨(k,x),s2,rfl,b5⟩
    | cons p r=>exact ⟨p,r ++ (k,x) :: s2,rfl,b5⟩
  · show BS (Bnd d) (s1 ++ (k,x) :: s2) hi'
    rw [BS_app]
    refine ⟨b2,⟨b4,hx,b6,b3⟩,?_⟩
    rcases b8 with b8 | b8
    · exact .inl b8
    · exact .inr fun q hq=>by
        rcases List.mem_cons.1 hq with rfl | hq
        · exact b8
        · exact b6 q hq
  · rw [entT_s]
    show c.pre ++ entS (s1 ++ (k,x) :: s2) ++ c.suf=es
    rw [← h.ent,entS_app,entS_cons]
    simp [Cx.pre,Cx.suf]
  · have:=h.lks
    simp only [Cx.lpre,Cx.lsuf] at this
    rw [lvsT_s]
    show lk (c.lpre ++ lvsS (s1 ++ (k,x) :: s2) ++ c.lsuf) 0
    rw [lvsS_app,lvsS_cons]
    simpa using this
/- .. and down, where the node is not too full, nor too empty -/
theorem WfB.down {d:Nat} {num:Nat} {s1 s2:List (ByteArray × T d)} {k:ByteArray} {c:Cx (d+1)} {x:T d} {es:List Ent} (h:WfB c (frm num s1 k x s2) es) (hk:∀ p ∈ s1 ++ (k,x) :: s2,FilN d p.2) (h1:(c.isTop=true∨180≤usedC (cellsT (d+1) (frm num s1 k x s2)))∧usedC (cellsT (d+1) (frm num s1 k x s2))≤1012):WfB (.up num s1 k s2 c) x es:=by
  obtain ⟨lo',hi',b1,⟨p0,r0,e0,b5⟩,hb⟩:=h.bnd
  have hb:BS (Bnd d) (s1 ++ (k,x) :: s2) hi':=hb
  rw [BS_app] at hb
  obtain ⟨b2,⟨b4,hx,b6,b3⟩,b8⟩:=hb
  have e0:s1 ++ (k,x) :: s2=p0 :: r0:=e0
  have hu:∀ n m,usedC (frP s1 k s2 n).cells=usedC (frP s1 k s2 m).cells:=fun n m=>by
    have hc:∀ q:ByteArray,(childB q n).size=(childB q m).size:=fun q=>by rw [childB_sz,childB_sz]
    cases s1 with
    | nil=>simp [frP,usedC]
    | cons p r=>simp [frP,usedC,hc]
  have hq:usedC (frP s1 k s2 0).cells=usedC (cellsT (d+1) (frm num s1 k x s2)):=by
    rw [hu 0 (numT d x),frP_eq num]
    rfl
  refine ⟨⟨k,nxt s2 hi',⟨lo',hi',b1,rfl,rfl,b2,b3,b4,?_,b6,?_,?_⟩,hx⟩,⟨fun p hp=>hk p (by simp [hp]),fun p hp=>hk p (by simp [hp]),by rw [hq];exact h1,h.fil⟩,?_,?_⟩
  · cases s1 with
    | nil=>simp at e0;rw [← b5,← e0.1];rfl
    | cons p r=>simp at e0;rw [← b5,← e0.1];rfl
  · intro q hq
    cases s1 with
    | nil=>simp at hq
    | cons p r=>exact b2.2.2.1 q hq
  · rcases b8 with b8 | b8
    · exact .inl b8
    · exact .inr (b8 (k,x) (List.mem_cons_self ..))
  · have:=h.ent
    rw [entT_s] at this
    have this:c.pre ++ entS (s1 ++ (k,x) :: s2) ++ c.suf=es:=this
    rw [← this,entS_app,entS_cons]
    simp [Cx.pre,Cx.suf]
  · have:=h.lks
    rw [lvsT_s] at this
    have this:lk (c.lpre ++ lvsS (s1 ++ (k,x) :: s2) ++ c.lsuf) 0:=this
    rw [lvsS_app,lvsS_cons] at this
    simpa [Cx.lpre,Cx.lsuf] using this
/- some children of a node are others -/
theorem WfB.repl {d:Nat} {num:Nat} {s1 g m s2:List (ByteArray × T d)} {c:Cx (d+1)} {es:List Ent} (h:WfB c (⟨num,s1 ++ g ++ s2⟩:Inn (T d)) es) (hg:¬ g=[]) (hm:¬ m=[]) (hn:∀ hi,nxt m hi=nxt g hi) (hb:∀ hi,BS (Bnd d) g hi→BS (Bnd d) m hi) (hk:∀ q ∈ m.tail,okK q.1) (he:entS m=entS g) (hl:∀ nx,lk (lvsS g) nx→lk (lvsS m) nx∧hdL (lvsS m) nx=hdL (lvsS g) nx):WfB c (⟨num,s1 ++ m ++ s2⟩:Inn (T d)) es:=by
  obtain ⟨lo',hi',b1,⟨p0,r0,e0,b5⟩,h2⟩:=h.bnd
  have h2:BS (Bnd d) (s1 ++ g ++ s2) hi':=h2
  rw [List.append_assoc,BS_app,BS_app] at h2
  obtain ⟨a1,⟨a2,a3,a4⟩,a5⟩:=h2
  have a4:∀ q ∈ s2,okK q.1:=a4.resolve_left hg
  have hfirst:∀ hi,nxt (s1 ++ m ++ s2) hi=nxt (s1 ++ g ++ s2) hi:=fun hi=>by
    rw [nxt_app,nxt_app,nxt_app,nxt_app,hn]
  refine ⟨⟨lo',hi',b1,?_,?_⟩,h.fil,?_,?_⟩
  · have e0:s1 ++ g ++ s2=p0 :: r0:=e0
    have:=hfirst ⟨#[]⟩
    rw [e0] at this
    show ∃ p r,s1 ++ m ++ s2=p :: r∧p.1=lo'
    cases hq:s1 ++ m ++ s2 with
    | nil=>simp at hq;exact absurd hq.2.1 hm
    | cons p r =>
      rw [hq] at this
      exact ⟨p,r,rfl,by rw [← b5];exact this⟩
  · show BS (Bnd d) (s1 ++ m ++ s2) hi'
    rw [List.append_assoc,BS_app,BS_app]
    refine ⟨?_,⟨hb _ a2,a3,.inr a4⟩,?_⟩
    · rw [nxt_app,hn,← nxt_app];exact a1
    · rcases a5 with a5 | a5
      · exact .inl a5
      · refine .inr fun q hq=>?_
        rcases List.mem_append.1 hq with hq | hq
        · cases m with
          | nil=>exact absurd rfl hm
          | cons p r =>
            rcases List.mem_cons.1 hq with rfl | hq
            · cases g with
              | nil=>exact absurd rfl hg
              | cons p' r' =>
                have e:=hn ⟨#[]⟩
                have e:q.1=p'.1:=e
                rw [e]
                exact a5 p' (by simp)
            · exact hk q hq
        · exact a4 q hq
  · rw [← h.ent,entT_s,entT_s]
    show c.pre ++ entS (s1 ++ m ++ s2) ++ c.suf=c.pre ++ entS (s1 ++ g ++ s2) ++ c.suf
    rw [entS_app,entS_app,entS_app,entS_app,he]
  · have:=h.lks
    rw [lvsT_s] at this ⊢
    have this:lk (c.lpre ++ lvsS (s1 ++ g ++ s2) ++ c.lsuf) 0:=this
    show lk (c.lpre ++ lvsS (s1 ++ m ++ s2) ++ c.lsuf) 0
    simp only [lvsS_app,List.append_assoc,lk_app,hdL_app] at this ⊢
    obtain ⟨l1,l2,l3,l4⟩:=this
    obtain ⟨m1,m2⟩:=hl _ l3
    rw [m2]
    exact ⟨l1,l2,m1,l4⟩
/- a node is split: how many cells stay, the number of the right half -/
def splT:(d:Nat)→Nat→Nat→T d→T d × ByteArray × T d
  | 0,m,r,x=>(⟨x.num,r,x.its.take m⟩,((x.its.drop m).head?.map (·.key)).getD ⟨#[]⟩,⟨r,x.link,x.its.drop m⟩)
  | _+1,m,r,x=>(⟨x.num,x.kids.take (m+1)⟩,((x.kids.drop (m+1)).head?.map (·.1)).getD ⟨#[]⟩,⟨r,x.kids.drop (m+1)⟩)
def mrgT:(d:Nat)→T d→T d→T d
  | 0,a,b=>⟨a.num,b.link,a.its ++ b.its⟩
  | _+1,a,b=>⟨a.num,a.kids ++ b.kids⟩
theorem spl_num (d m r:Nat) (x:T d):numT d (splT d m r x).1=numT d x∧numT d (splT d m r x).2.2=r:=by
  cases d <;> exact ⟨rfl,rfl⟩
theorem mrg_num (d:Nat) (a b:T d):numT d (mrgT d a b)=numT d a:=by cases d <;> rfl
theorem BI_lt {lo hi:ByteArray} {a:List It} {i:It} {b:List It} (h:BI lo (a ++ i :: b) hi) (ha:¬ a=[]):klt lo i.key=true:=by
  cases a with
  | nil=>exact absurd rfl ha
  | cons j a =>
    have h1:=h.2.2.2.1 i (by simp)
    exact kle_lt h.2.1 h1
theorem spl_bnd (d m r:Nat) (x:T d) {k hi:ByteArray} (h:ltB k hi∧Bnd d k hi x) (hm:0<m∧m<(cellsT d x).length) :
    okK (splT d m r x).2.1∧BS (Bnd d) [(k,(splT d m r x).1),((splT d m r x).2.1,(splT d m r x).2.2)] hi:=by
  cases d with
  | zero =>
    obtain ⟨hk,hb⟩:=h
    have hl:m<x.its.length:=by simpa [cellsT] using hm.2
    have e:x.its=x.its.take m ++ x.its[m] :: x.its.drop (m+1):=by rw [← List.drop_eq_getElem_cons hl,List.take_append_drop]
    have hb:BI k x.its hi:=hb
    have hb2:=hb
    rw [e] at hb2
    have hlt:=BI_lt hb2 (fun h=>by have:=congrArg List.length h;simp at this;rcases this with this | this <;> (first | omega | (rw [this] at hl;simp at hl)))
    obtain ⟨b1,b2,b3⟩:=(BI_app _ _ _).1 hb2
    have hd:(splT 0 m r x).2.1=x.its[m].key:=by show ((x.its.drop m).head?.map (·.key)).getD _=_;rw [List.drop_eq_getElem_cons hl];rfl
    have hr:(splT 0 m r x).2.2=⟨r,x.link,x.its[m] :: x.its.drop (m+1)⟩:=by rw [← List.drop_eq_getElem_cons hl];rfl
    rw [hd,hr]
    refine ⟨b2.1.key,.inr hlt,?_,fun q hq=>?_,?_,?_,fun q hq=>by simp at hq,trivial⟩
    · refine BI_re b1 fun i hi'=>⟨(BI_mem b1 i hi').2.1,.inr (b3 i hi' _ (List.mem_cons_self ..))⟩
    · simp at hq;rw [hq];exact b2.1.key
    · exact b2.2.2.1
    · refine BI_re b2 fun i hi'=>⟨?_,(BI_mem b2 i hi').2.2⟩
      rcases List.mem_cons.1 hi' with rfl | hi'
      · exact klt_irr _
      · exact klt_asy (b2.2.2.2.1 i hi')
  | succ d =>
    obtain ⟨hk,⟨p0,r0,e0,hp0⟩,hb⟩:=h
    have hl:m+1<x.kids.length:=by have:=hm.2;simp [cellsT] at this;omega
    have e:x.kids=x.kids.take (m+1) ++ x.kids[m+1] :: x.kids.drop (m+1+1):=by rw [← List.drop_eq_getElem_cons hl,List.take_append_drop]
    have hd:(splT (d+1) m r x).2.1=x.kids[m+1].1:=by show ((x.kids.drop (m+1)).head?.map (·.1)).getD _=_;rw [List.drop_eq_getElem_cons hl];rfl
    have hr:(splT (d+1) m r x).2.2=(⟨r,x.kids[m+1] :: x.kids.drop (m+1+1)⟩:Inn (T d)):=by rw [← List.drop_eq_getElem_cons hl];rfl
    have hb:BS (Bnd d) x.kids hi:=hb
    have hb2:BS (Bnd d) (x.kids.take (m+1) ++ x.kids[m+1] :: x.kids.drop (m+1+1)) hi:=by rw [← e];exact hb
    rw [BS_app] at hb2
    obtain ⟨b1,b2,b3⟩:=hb2
    have hne:¬ x.kids.take (m+1)=[]:=fun h=>by have:=congrArg List.length h;simp at this;rw [this] at hl;simp at hl
    have b3:=b3.resolve_left hne
    have hok:=b3 _ (List.mem_cons_self ..)
    have hlo:∀ q:ByteArray,nxt (x.kids.take (m+1)) q=k:=fun q=>by rw [e0];exact hp0
    have hlo2:∃ p r,x.kids.take (m+1)=p :: r∧p.1=k:=⟨p0,r0.take m,by rw [e0];rfl,hp0⟩
    rw [hd,hr]
    refine ⟨hok,?_,⟨?_,b1⟩,fun q hq=>?_,?_,⟨⟨_,_,rfl,rfl⟩,b2⟩,fun q hq=>by simp at hq,trivial⟩
    · have:=bs_ltB d _ _ b1 hne
      rw [hlo] at this
      exact this
    · exact hlo2
    · simp at hq;rw [hq];exact hok
    · exact bs_ltB d _ _ b2 (List.cons_ne_nil _ _)
theorem spl_ent (d m r:Nat) (x:T d):entT d (splT d m r x).1 ++ entT d (splT d m r x).2.2=entT d x:=by
  cases d with
  | zero=>simp [splT,entT]
  | succ d=>rw [entT_s,entT_s,entT_s,← entS_app];simp [splT]
theorem spl_lvs (d m r:Nat) (x:T d) (nx:Nat) (h:lk (lvsT d x) nx):lk (lvsT d (splT d m r x).1 ++ lvsT d (splT d m r x).2.2) nx∧hdL (lvsT d (splT d m r x).1 ++ lvsT d (splT d m r x).2.2) nx=hdL (lvsT d x) nx:=by
  cases d with
  | zero=>exact ⟨⟨rfl,h.1,trivial⟩,rfl⟩
  | succ d =>
    have e:lvsT (d+1) (splT (d+1) m r x).1 ++ lvsT (d+1) (splT (d+1) m r x).2.2=lvsT (d+1) x:=by rw [lvsT_s,lvsT_s,lvsT_s,← lvsS_app];simp [splT]
    rw [e]
    exact ⟨h,rfl⟩
theorem mrg_bnd (d:Nat) (a b:T d) {ka kb hi:ByteArray} (h:BS (Bnd d) [(ka,a),(kb,b)] hi):BS (Bnd d) [(ka,mrgT d a b)] hi:=by
  obtain ⟨h1,h2,h3,h4,h5,-⟩:=h
  have hok:=h3 (kb,b) (by simp)
  have hab:klt ka kb=true:=ltB_ne h1 hok
  refine ⟨h4.imp id (fun k=>klt_tr hab k),?_,fun q hq=>by simp at hq,trivial⟩
  cases d with
  | zero =>
    have h2:BI ka a.its kb:=h2
    have h5:BI kb b.its hi:=h5
    show BI ka (a.its ++ b.its) hi
    rw [BI_app]
    refine ⟨BI_re h2 fun i hi'=>⟨(BI_mem h2 i hi').2.1,?_⟩,BI_re h5 fun i hi'=>⟨?_,(BI_mem h5 i hi').2.2⟩,fun x hx y hy=>?_⟩
    · have:=ltB_ne (BI_mem h2 i hi').2.2 hok
      exact h4.imp id (fun k=>klt_tr this k)
    · exact kle_tr (klt_asy hab) (BI_mem h5 i hi').2.1
    · exact klt_le (ltB_ne (BI_mem h2 x hx).2.2 hok) (BI_mem h5 y hy).2.1
  | succ d =>
    obtain ⟨⟨p,r,e,hp⟩,h2⟩:=h2
    obtain ⟨⟨p',r',e',hp'⟩,h5⟩:=h5
    refine ⟨⟨p,r ++ b.kids,by show a.kids ++ b.kids=_;rw [e];rfl,hp⟩,?_⟩
    show BS (Bnd d) (a.kids ++ b.kids) hi
    rw [BS_app]
    have hn:nxt b.kids hi=kb:=by rw [e'];exact hp'
    rw [hn]
    refine ⟨h2,h5,.inr fun q hq=>?_⟩
    rw [e'] at hq h5
    rcases List.mem_cons.1 hq with rfl | hq
    · rw [hp'];exact hok
    · exact h5.2.2.1 q hq
theorem mrg_ent (d:Nat) (a b:T d):entT d (mrgT d a b)=entT d a ++ entT d b:=by
  cases d with
  | zero=>simp [mrgT,entT]
  | succ d=>rw [entT_s,entT_s,entT_s,← entS_app];rfl
theorem mrg_lvs (d:Nat) (a b:T d) (nx:Nat) (h:lk (lvsT d a ++ lvsT d b) nx):lk (lvsT d (mrgT d a b)) nx∧hdL (lvsT d (mrgT d a b)) nx=hdL (lvsT d a ++ lvsT d b) nx:=by
  cases d with
  | zero=>exact ⟨⟨h.2.1,trivial⟩,rfl⟩
  | succ d =>
    have e:lvsT (d+1) (mrgT (d+1) a b)=lvsT (d+1) a ++ lvsT (d+1) b:=by rw [lvsT_s,lvsT_s,lvsT_s,← lvsS_app];rfl
    rw [e]
    exact ⟨h,rfl⟩
/- two leaves side by side: the left one's link -/
theorem lvs_link {a b:T 0} {nx:Nat} (h:lk (lvsT 0 a ++ lvsT 0 b) nx):a.link=b.num:=h.1
theorem WfB.split {d:Nat} {num:Nat} {s1 s2:List (ByteArray × T d)} {k:ByteArray} {c:Cx (d+1)} {x:T d} {es:List Ent} (h:WfB c (⟨num,s1 ++ [(k,x)] ++ s2⟩:Inn (T d)) es) (m r:Nat) (hm:0<m∧m<(cellsT d x).length) :
    WfB c (⟨num,s1 ++ [(k,(splT d m r x).1),((splT d m r x).2.1,(splT d m r x).2.2)] ++ s2⟩:Inn (T d)) es:=by
  have hok:okK (splT d m r x).2.1:=by
    obtain ⟨lo',hi',b1,_,hb⟩:=h.bnd
    have hb:BS (Bnd d) (s1 ++ [(k,x)] ++ s2) hi':=hb
    rw [List.append_assoc,BS_app] at hb
    exact (spl_bnd d m r x ⟨hb.2.1.1,hb.2.1.2.1⟩ hm).1
  refine h.repl (by simp) (by simp) (fun _=>rfl) (fun hi hb=>(spl_bnd d m r x ⟨hb.1,hb.2.1⟩ hm).2) (fun q hq=>by simp at hq;rw [hq];exact hok) ?_ (fun nx hl=>?_)
  · rw [entS_cons,entS_cons,entS_cons]
    have:=spl_ent d m r x
    simp only [entS,List.flatMap_nil,List.append_nil]
    exact this
  · rw [lvsS_cons,lvsS_cons,lvsS_cons] at *
    simp only [lvsS,List.flatMap_nil,List.append_nil] at *
    exact spl_lvs d m r x nx hl
theorem WfB.merge {d:Nat} {num:Nat} {s1 s2:List (ByteArray × T d)} {ka kb:ByteArray} {c:Cx (d+1)} {a b:T d} {es:List Ent} (h:WfB c (⟨num,s1 ++ [(ka,a),(kb,b)] ++ s2⟩:Inn (T d)) es):WfB c (⟨num,s1 ++ [(ka,mrgT d a b)] ++ s2⟩:Inn (T d)) es:=by
  refine h.repl (by simp) (by simp) (fun _=>rfl) (fun hi hb=>mrg_bnd d a b hb) (fun q hq=>by simp at hq) ?_ (fun nx hl=>?_)
  · rw [entS_cons,entS_cons,entS_cons]
    simp only [entS,List.flatMap_nil,List.append_nil]
    exact mrg_ent d a b
  · rw [lvsS_cons,lvsS_cons,lvsS_cons] at *
    simp only [lvsS,List.flatMap_nil,List.append_nil] at *
    exact mrg_lvs d a b nx hl
end Go.Proofs.YtmgjdjjfeapcdaaGreat
namespace Go.Proofs.YtmgjdjjfeapcdaaGreat
open Go
def restN {d:Nat} (c:Cx d) (x:T d):List (Nat × PgV):=(nodT d x).tail ++ c.nod (numT d x)
def updA (A:Nat→PgV) (n:Nat) (v:PgV):Nat→PgV:=fun x=>if x=n then v else A x
theorem updA_at (A:Nat→PgV) (n:Nat) (v:PgV):updA A n v n=v:=if_pos rfl
theorem updA_ne (A:Nat→PgV) {n x:Nat} (v:PgV) (h:¬ x=n):updA A n v x=A x:=if_neg h
/- a place in a tree whose own page is not written yet; os: pages of others -/
structure Sx (A:Nat→PgV) (fl:List Nat) (pages:Nat) (os:List Nat) {d:Nat} (c:Cx d) (x:T d) (es:List Ent):Prop where
  wf:WfB c x es
  rep:∀ p ∈ restN c x,A p.1=p.2
  perm:(0 :: (fl ++ (numT d x :: ((restN c x).map (·.1) ++ os)))).Perm (List.range pages)
section
variable {A:Nat→PgV} {fl os:List Nat} {pages d:Nat} {es:List Ent}
theorem Sx.nd {c:Cx d} {x:T d} (h:Sx A fl pages os c x es):(0 :: (fl ++ (numT d x :: ((restN c x).map (·.1) ++ os)))).Nodup:=h.perm.nodup_iff.2 List.nodup_range
theorem Sx.lt {c:Cx d} {x:T d} (h:Sx A fl pages os c x es) {n:Nat} (hn:n ∈ (0 :: (fl ++ (numT d x :: ((restN c x).map (·.1) ++ os))))):n<pages:=List.mem_range.1 (h.perm.mem_iff.1 hn)
theorem Sx.own {c:Cx d} {x:T d} (h:Sx A fl pages os c x es):numT d x<pages∧0<numT d x:=by
  refine ⟨h.lt (by simp),?_⟩
  have:=h.nd
  rw [List.nodup_cons] at this
  have h1:¬ numT d x=0:=fun e=>this.1 (by rw [← e];simp)
  omega
/- the pages of the others in the tree are other pages -/
theorem Sx.ne {c:Cx d} {x:T d} (h:Sx A fl pages os c x es) {p:Nat × PgV} (hp:p ∈ restN c x):¬ p.1=numT d x∧¬ p.1=0∧(∀ o ∈ os,¬ p.1=o)∧(∀ f ∈ fl,¬ p.1=f)∧p.1<pages:=by
  have hm:p.1 ∈ (restN c x).map (·.1):=List.mem_map_of_mem hp
  have hn:=h.nd
  rw [List.nodup_cons,List.nodup_append,List.nodup_cons,List.nodup_append] at hn
  obtain ⟨h0,h1,⟨h2,h3,h4,h5⟩,h6⟩:=hn
  refine ⟨fun e=>h2 (List.mem_append_left _ (e ▸ hm)),fun e=>h0 ?_,fun o ho e=>h5 p.1 hm o ho e,fun f hf e=>h6 f hf p.1 (List.mem_cons_of_mem _ (List.mem_append_left _ hm)) e.symm,h.lt (by simp;right;right;right;left;exact ⟨p.2,hp⟩)⟩
  rw [← e]
  exact List.mem_append_right _ (List.mem_cons_of_mem _ (List.mem_append_left _ hm))
theorem Sx.os_ne {c:Cx d} {x:T d} (h:Sx A fl pages os c x es) {o:Nat} (ho:o ∈ os):¬ o=numT d x∧¬ o=0∧¬ o ∈ fl∧o<pages:=by
  have hn:=h.nd
  rw [List.nodup_cons,List.nodup_append,List.nodup_cons,List.nodup_append] at hn
  obtain ⟨h0,h1,⟨h2,h3,h4,h5⟩,h6⟩:=hn
  refine ⟨fun e=>h2 (List.mem_append_right _ (e ▸ ho)),fun e=>h0 ?_,fun f=>h6 o f o (List.mem_cons_of_mem _ (List.mem_append_right _ ho)) rfl,h.lt (by simp [ho])⟩
  rw [← e]
  exact List.mem_append_right _ (List.mem_cons_of_mem _ (List.mem_append_right _ ho))
/- pages that are not of the tree may change -/
theorem Sx.congr {A':Nat→PgV} {c:Cx d} {x:T d} (h:Sx A fl pages os c x es) (hA:∀ p ∈ restN c x,A' p.1=A p.1):Sx A' fl pages os c x es:=⟨h.wf,fun p hp=>by rw [hA p hp];exact h.rep p hp,h.perm⟩
theorem Sx.upd {c:Cx d} {x:T d} (h:Sx A fl pages os c x es) {n:Nat} (hn:n=0∨n ∈ fl∨n ∈ os∨n=numT d x) (v:PgV):Sx (updA A n v) fl pages os c x es:=h.congr fun p hp=>by
  obtain ⟨h1,h2,h3,h4,-⟩:=h.ne hp
  refine updA_ne _ _ (fun e=>?_)
  rcases hn with hn | hn | hn | hn
  · exact h2 (e.trans hn)
  · exact h4 n hn e
  · exact h3 n hn e
  · exact h1 (e.trans hn)
end
theorem spl_nod (d m r:Nat) (x:T d):(nodT d (splT d m r x).1).tail ++ (nodT d (splT d m r x).2.2).tail=(nodT d x).tail:=by
  cases d with
  | zero=>show (x.its.take m).flatMap nodI ++ (x.its.drop m).flatMap nodI=x.its.flatMap nodI;rw [← List.flatMap_append,List.take_append_drop]
  | succ d=>rw [nodT_s,nodT_s,nodT_s,← nodS_app];simp [splT]
theorem mrg_nod (d:Nat) (a b:T d):(nodT d (mrgT d a b)).tail=(nodT d a).tail ++ (nodT d b).tail:=by
  cases d with
  | zero=>show (a.its ++ b.its).flatMap nodI=_;rw [List.flatMap_append];rfl
  | succ d=>rw [nodT_s,nodT_s,nodT_s,← nodS_app];rfl
/- the pages around a frame's children -/
theorem restN_up {d:Nat} {num:Nat} {s1 s2:List (ByteArray × T d)} {k:ByteArray} {c:Cx (d+1)} {x:T d}:restN (.up num s1 k s2 c) x=(nodT d x).tail ++ ((num,frP s1 k s2 (numT d x)) :: (nodS s1 ++ nodS s2) ++ c.nod num):=rfl
theorem restN_s {d:Nat} {num:Nat} {s:List (ByteArray × T d)} {c:Cx (d+1)}:restN c (⟨num,s⟩:Inn (T d))=nodS s ++ c.nod num:=rfl
section
variable {A:Nat→PgV} {fl os:List Nat} {pages d num:Nat} {es:List Ent} {s1 s2:List (ByteArray × T d)} {k:ByteArray} {c:Cx (d+1)} {x:T d}
/- the children of a frame are others: what is asked of the pages -/
theorem Sx.kids {A':Nat→PgV} {os':List Nat} {m:List (ByteArray × T d)} (h:Sx A fl pages os (.up num s1 k s2 c) x es) {t1 t2:List (ByteArray × T d)}
    (hw:WfB c (⟨num,t1 ++ m ++ t2⟩:Inn (T d)) es) (hrep:∀ p ∈ nodS t1 ++ nodS m ++ nodS t2 ++ c.nod num,A' p.1=p.2)
    (hp:((nodS t1 ++ nodS m ++ nodS t2).map (·.1) ++ os').Perm (((nodT d x ++ (nodS s1 ++ nodS s2)).map (·.1)) ++ os)) :
    Sx A' fl pages os' c (⟨num,t1 ++ m ++ t2⟩:Inn (T d)) es:=by
  have e1:restN c (⟨num,t1 ++ m ++ t2⟩:Inn (T d))=nodS t1 ++ nodS m ++ nodS t2 ++ c.nod num:=by rw [restN_s,nodS_app,nodS_app]
  refine ⟨hw,by rw [e1];exact hrep,?_⟩
  refine List.Perm.trans ?_ h.perm
  refine List.Perm.cons _ (List.Perm.append_left _ ?_)
  rw [e1,restN_up]
  show (num :: (((nodS t1 ++ nodS m ++ nodS t2) ++ c.nod num).map (·.1) ++ os')).Perm (numT d x :: (((nodT d x).tail ++ ((num,frP s1 k s2 (numT d x)) :: (nodS s1 ++ nodS s2) ++ c.nod num)).map (·.1) ++ os))
  have e2:(numT d x :: (((nodT d x).tail ++ ((num,frP s1 k s2 (numT d x)) :: (nodS s1 ++ nodS s2) ++ c.nod num)).map (·.1) ++ os))=(nodT d x).map (·.1) ++ (num :: ((nodS s1 ++ nodS s2).map (·.1) ++ ((c.nod num).map (·.1) ++ os))):=by
    rw [nodT_eq]
    simp
  rw [e2]
  refine List.Perm.trans ?_ List.perm_middle.symm
  refine List.Perm.cons _ ?_
  have q1:(((nodS t1 ++ nodS m ++ nodS t2) ++ c.nod num).map (·.1) ++ os').Perm ((c.nod num).map (·.1) ++ ((nodS t1 ++ nodS m ++ nodS t2).map (·.1) ++ os')):=by
    rw [List.map_append,List.append_assoc]
    have:=List.perm_append_comm (l₁:=(nodS t1 ++ nodS m ++ nodS t2).map (·.1)) (l₂:=(c.nod num).map (·.1))
    rw [← List.append_assoc,← List.append_assoc]
    exact this.append_right _
  have q2:((nodT d x).map (·.1) ++ ((nodS s1 ++ nodS s2).map (·.1) ++ ((c.nod num).map (·.1) ++ os))).Perm ((c.nod num).map (·.1) ++ (((nodT d x ++ (nodS s1 ++ nodS s2)).map (·.1)) ++ os)):=by
    have:=List.perm_append_comm (l₁:=(nodT d x ++ (nodS s1 ++ nodS s2)).map (·.1)) (l₂:=(c.nod num).map (·.1))
    have:=this.append_right os
    simpa using this
  exact q1.trans ((hp.append_left _).trans q2.symm)
/- up, the place's page being written -/
theorem Sx.up (h:Sx A fl pages os (.up num s1 k s2 c) x es) (hA:A (numT d x)=pgT d x):Sx A fl pages os c (frm num s1 k x s2) es:=by
  have e:frm num s1 k x s2=(⟨num,s1 ++ [(k,x)] ++ s2⟩:Inn (T d)):=by simp [frm]
  rw [e]
  have e1:nodS [(k,x)]=nodT d x:=by simp [nodS]
  refine h.kids (t1:=s1) (t2:=s2) (m:=[(k,x)]) (by rw [← e];exact h.wf.up) (fun p hp=>?_) ?_
  · rw [e1] at hp
    simp only [List.mem_append] at hp
    rw [nodT_eq,List.mem_cons] at hp
    rcases hp with ((hp | hp | hp) | hp) | hp
    · exact h.rep p (by rw [restN_up];simp [hp])
    · rw [hp];exact hA
    · exact h.rep p (by rw [restN_up];simp [hp])
    · exact h.rep p (by rw [restN_up];simp [hp])
    · exact h.rep p (by rw [restN_up];simp [hp])
  · rw [e1]
    refine List.Perm.append_right _ (List.Perm.map _ ?_)
    have:=List.perm_append_comm (l₁:=nodS s1) (l₂:=nodT d x)
    have:=this.append_right (nodS s2)
    simpa using this
/- a node is split; the right half gets the page r -/
theorem Sx.split {r:Nat} (h:Sx A fl pages (r :: os) (.up num s1 k s2 c) x es) (m:Nat) (hm:0<m∧m<(cellsT d x).length) :
    Sx (updA (updA A (numT d x) (pgT d (splT d m r x).1)) r (pgT d (splT d m r x).2.2)) fl pages os c (⟨num,s1 ++ [(k,(splT d m r x).1),((splT d m r x).2.1,(splT d m r x).2.2)] ++ s2⟩:Inn (T d)) es:=by
  have hw:WfB c (⟨num,s1 ++ [(k,x)] ++ s2⟩:Inn (T d)) es:=by have:=h.wf.up;rw [show frm num s1 k x s2=(⟨num,s1 ++ [(k,x)] ++ s2⟩:Inn (T d)) by simp [frm]] at this;exact this
  have hws:=hw.split m r hm
  have e1:nodS [(k,(splT d m r x).1),((splT d m r x).2.1,(splT d m r x).2.2)]=nodT d (splT d m r x).1 ++ nodT d (splT d m r x).2.2:=by simp [nodS]
  have hn:=spl_nod d m r x
  have hnum:=spl_num d m r x
  have hr:=h.os_ne (o:=r) (by simp)
  refine h.kids hws (fun p hp=>?_) ?_
  · rw [e1] at hp
    simp only [List.mem_append] at hp
    rw [nodT_eq d (splT d m r x).1,nodT_eq d (splT d m r x).2.2] at hp
    simp only [List.mem_cons] at hp
    have hk:p ∈ restN (.up num s1 k s2 c) x→updA (updA A (numT d x) (pgT d (splT d m r x).1)) r (pgT d (splT d m r x).2.2) p.1=p.2:=fun hp=>by
      obtain ⟨n1,n2,n3,-⟩:=h.ne hp
      rw [updA_ne _ _ (n3 r (by simp)),updA_ne _ _ n1]
      exact h.rep p hp
    have hsub:∀ p,p ∈ (nodT d (splT d m r x).1).tail∨p ∈ (nodT d (splT d m r x).2.2).tail→p ∈ (nodT d x).tail:=fun p hp=>by rw [← hn];exact List.mem_append.2 hp
    rcases hp with ((hp | (hp | hp) | hp | hp) | hp) | hp
    · exact hk (by rw [restN_up];simp [hp])
    · rw [hp]
      show updA _ r _ (numT d (splT d m r x).1)=_
      rw [hnum.1,updA_ne _ _ (fun e=>hr.1 e.symm),updA_at]
    · exact hk (by rw [restN_up];exact List.mem_append_left _ (hsub p (.inl hp)))
    · rw [hp]
      show updA _ r _ (numT d (splT d m r x).2.2)=_
      rw [hnum.2,updA_at]
    · exact hk (by rw [restN_up];exact List.mem_append_left _ (hsub p (.inr hp)))
    · exact hk (by rw [restN_up];simp [hp])
    · exact hk (by rw [restN_up];simp [hp])
  · rw [e1,nodT_eq d (splT d m r x).1,nodT_eq d (splT d m r x).2.2,nodT_eq d x,← hn]
    simp only [List.map_append,List.map_cons,hnum.1,hnum.2,List.cons_append,List.append_assoc]
    refine List.perm_middle.trans (List.Perm.cons _ ?_)
    have p1:((nodS s1).map (·.1) ++ ((nodT d (splT d m r x).1).tail.map (·.1) ++ r :: ((nodT d (splT d m r x).2.2).tail.map (·.1) ++ ((nodS s2).map (·.1) ++ os)))).Perm (r :: ((nodS s1).map (·.1) ++ ((nodT d (splT d m r x).1).tail.map (·.1) ++ ((nodT d (splT d m r x).2.2).tail.map (·.1) ++ ((nodS s2).map (·.1) ++ os))))):=by
      rw [← List.append_assoc]
      refine List.perm_middle.trans ?_
      rw [List.append_assoc]
    refine p1.trans ?_
    have p2:((nodT d (splT d m r x).1).tail.map (·.1) ++ ((nodT d (splT d m r x).2.2).tail.map (·.1) ++ ((nodS s1).map (·.1) ++ ((nodS s2).map (·.1) ++ r :: os)))).Perm (r :: ((nodT d (splT d m r x).1).tail.map (·.1) ++ ((nodT d (splT d m r x).2.2).tail.map (·.1) ++ ((nodS s1).map (·.1) ++ ((nodS s2).map (·.1) ++ os))))):=by
      have:∀ (a b c e o:List Nat),(a ++ (b ++ (c ++ (e ++ r :: o)))).Perm (r :: (a ++ (b ++ (c ++ (e ++ o))))):=fun a b c e o=>by
        have:=List.perm_middle (l₁:=a ++ b ++ c ++ e) (l₂:=o) (a:=r)
        simpa using this
      exact this _ _ _ _ _
    refine List.Perm.trans ?_ p2.symm
    refine List.Perm.cons _ ?_
    have:∀ (a b c e:List Nat),(a ++ (b ++ (c ++ e))).Perm (b ++ (c ++ (a ++ e))):=fun a b c e=>by
      have:=(List.perm_append_comm (l₁:=a) (l₂:=b ++ c)).append_right e
      simpa using this
    exact this _ _ _ _
end
end Go.Proofs.YtmgjdjjfeapcdaaGreat
namespace Go.Proofs.YtmgjdjjfeapcdaaGreat
open Go
theorem perm_pull (a b c:List Nat) (x y:Nat) (o:List Nat):(a ++ (x :: b ++ y :: c) ++ o).Perm (x :: y :: (a ++ (b ++ c) ++ o)):=by
  have h1:(a ++ (x :: b ++ y :: c) ++ o).Perm (x :: (a ++ (b ++ y :: c) ++ o)):=by
    simp
  refine h1.trans (List.Perm.cons _ ?_)
  have:=List.perm_middle (l₁:=a ++ b) (l₂:=c ++ o) (a:=y)
  simpa using this
section
variable {A:Nat→PgV} {fl os:List Nat} {pages d num:Nat} {es:List Ent} {s1 s2:List (ByteArray × T d)} {k:ByteArray} {c:Cx (d+1)} {x:T d} {t1 t2:List (ByteArray × T d)} {ka kb:ByteArray} {a b:T d}
theorem Sx.nums (h:Sx A fl pages os (.up num s1 k s2 c) x es):(((nodT d x ++ (nodS s1 ++ nodS s2)) ++ c.nod num).map (·.1) ++ os).Nodup:=by
  have hn:=h.nd
  rw [List.nodup_cons,List.nodup_append] at hn
  have hn:=hn.2.2.1
  rw [restN_up] at hn
  have e2:(numT d x :: (((nodT d x).tail ++ ((num,frP s1 k s2 (numT d x)) :: (nodS s1 ++ nodS s2) ++ c.nod num)).map (·.1) ++ os))=(nodT d x).map (·.1) ++ (num :: ((nodS s1 ++ nodS s2).map (·.1) ++ ((c.nod num).map (·.1) ++ os))):=by
    rw [nodT_eq]
    simp
  rw [e2] at hn
  have:=(List.perm_middle.nodup_iff.1 hn)
  rw [List.nodup_cons] at this
  simpa using this.2
/- all pages but those of the two -/
def restP (t1:List (ByteArray × T d)) (a b:T d) (t2:List (ByteArray × T d)) (l:List (Nat × PgV)):List (Nat × PgV):=nodS t1 ++ ((nodT d a).tail ++ (nodT d b).tail) ++ nodS t2 ++ l
theorem Sx.pairR (h:Sx A fl pages os (.up num s1 k s2 c) x es) (hp:(nodT d x ++ (nodS s1 ++ nodS s2)).Perm (nodS t1 ++ (nodT d a ++ nodT d b) ++ nodS t2)) (hx:x=a∨x=b) :
    (numT d a :: numT d b :: ((restP t1 a b t2 (c.nod num)).map (·.1) ++ os)).Nodup∧∀ p ∈ restP t1 a b t2 (c.nod num),A p.1=p.2:=by
  have hn:=h.nums
  have q:(((nodT d x ++ (nodS s1 ++ nodS s2)) ++ c.nod num).map (·.1) ++ os).Perm (numT d a :: numT d b :: ((restP t1 a b t2 (c.nod num)).map (·.1) ++ os)):=by
    have h1:=((hp.append_right (c.nod num)).map (·.1)).append_right os
    refine h1.trans ?_
    rw [nodT_eq d a,nodT_eq d b]
    have:=perm_pull ((nodS t1).map (·.1)) ((nodT d a).tail.map (·.1)) ((nodT d b).tail.map (·.1)) (numT d a) (numT d b) ((nodS t2 ++ c.nod num).map (·.1) ++ os)
    simpa [restP] using this
  have hnd:=q.nodup_iff.1 hn
  refine ⟨hnd,fun p hpm=>?_⟩
  have hm:p.1 ∈ (restP t1 a b t2 (c.nod num)).map (·.1):=List.mem_map_of_mem hpm
  rw [List.nodup_cons,List.nodup_cons] at hnd
  have n1:¬ p.1=numT d a:=fun e=>hnd.1 (by rw [← e];exact List.mem_cons_of_mem _ (List.mem_append_left _ hm))
  have n2:¬ p.1=numT d b:=fun e=>hnd.2.1 (by rw [← e];exact List.mem_append_left _ hm)
  have hin:p ∈ nodT d x ++ (nodS s1 ++ nodS s2)∨p ∈ c.nod num:=by
    unfold restP at hpm
    rcases List.mem_append.1 hpm with hpm | hpm
    · left
      rw [hp.mem_iff,nodT_eq d a,nodT_eq d b]
      simp only [List.mem_append,List.mem_cons] at hpm ⊢
      rcases hpm with (hpm | hpm | hpm) | hpm
      · exact .inl (.inl hpm)
      · exact .inl (.inr (.inl (.inr hpm)))
      · exact .inl (.inr (.inr (.inr hpm)))
      · exact .inr hpm
    · exact .inr hpm
  refine h.rep p ?_
  rw [restN_up]
  rcases hin with hin | hin
  · rw [nodT_eq d x,List.cons_append,List.mem_cons] at hin
    rcases hin with hin | hin
    · refine absurd (congrArg Prod.fst hin) ?_
      rcases hx with rfl | rfl
      · exact n1
      · exact n2
    · simp only [List.mem_append,List.mem_cons] at hin ⊢
      rcases hin with hin | hin | hin
      · exact .inl hin
      · exact .inr (.inl (.inr (.inl hin)))
      · exact .inr (.inl (.inr (.inr hin)))
  · simp [hin]
theorem Sx.merge (h:Sx A fl pages os (.up num s1 k s2 c) x es) (hp:(nodT d x ++ (nodS s1 ++ nodS s2)).Perm (nodS t1 ++ (nodT d a ++ nodT d b) ++ nodS t2)) (hx:x=a∨x=b) (hw:WfB c (⟨num,t1 ++ [(ka,a),(kb,b)] ++ t2⟩:Inn (T d)) es) :
    Sx (updA A (numT d a) (pgT d (mrgT d a b))) fl pages (numT d b :: os) c (⟨num,t1 ++ [(ka,mrgT d a b)] ++ t2⟩:Inn (T d)) es:=by
  obtain ⟨hnd,hrep⟩:=h.pairR hp hx
  rw [List.nodup_cons] at hnd
  have e1:nodS [(ka,mrgT d a b)]=nodT d (mrgT d a b):=by simp [nodS]
  have hA:∀ p ∈ restP t1 a b t2 (c.nod num),updA A (numT d a) (pgT d (mrgT d a b)) p.1=p.2:=fun p hpm=>by
    rw [updA_ne]
    · exact hrep p hpm
    · exact fun e=>hnd.1 (by rw [← e];exact List.mem_cons_of_mem _ (List.mem_append_left _ (List.mem_map_of_mem hpm)))
  refine h.kids hw.merge (fun p hpm=>?_) ?_
  · rw [e1,nodT_eq,mrg_nod] at hpm
    simp only [List.mem_append,List.mem_cons] at hpm
    rcases hpm with ((hpm | hpm | hpm | hpm) | hpm) | hpm
    · exact hA p (by simp [restP,hpm])
    · rw [hpm,mrg_num];exact updA_at _ _ _
    · exact hA p (by simp [restP,hpm])
    · exact hA p (by simp [restP,hpm])
    · exact hA p (by simp [restP,hpm])
    · exact hA p (by simp [restP,hpm])
  · refine List.Perm.trans ?_ ((hp.map (·.1)).append_right os).symm
    rw [e1,nodT_eq d (mrgT d a b),mrg_nod,mrg_num,nodT_eq d a,nodT_eq d b]
    have h1:=perm_pull ((nodS t1).map (·.1)) ((nodT d a).tail.map (·.1)) ((nodT d b).tail.map (·.1)) (numT d a) (numT d b) ((nodS t2).map (·.1) ++ os)
    have h2:((nodS t1).map (·.1) ++ (numT d a :: ((nodT d a).tail.map (·.1) ++ (nodT d b).tail.map (·.1))) ++ ((nodS t2).map (·.1) ++ numT d b :: os)).Perm (numT d a :: numT d b :: ((nodS t1).map (·.1) ++ ((nodT d a).tail.map (·.1) ++ (nodT d b).tail.map (·.1)) ++ ((nodS t2).map (·.1) ++ os))):=by
      have g1:=List.perm_middle (l₁:=(nodS t1).map (·.1)) (l₂:=((nodT d a).tail.map (·.1) ++ (nodT d b).tail.map (·.1)) ++ ((nodS t2).map (·.1) ++ numT d b :: os)) (a:=numT d a)
      have g2:=List.perm_middle (l₁:=(nodS t1).map (·.1) ++ ((nodT d a).tail.map (·.1) ++ (nodT d b).tail.map (·.1)) ++ (nodS t2).map (·.1)) (l₂:=os) (a:=numT d b)
      have g3:((nodS t1).map (·.1) ++ (numT d a :: ((nodT d a).tail.map (·.1) ++ (nodT d b).tail.map (·.1))) ++ ((nodS t2).map (·.1) ++ numT d b :: os)).Perm (numT d a :: ((nodS t1).map (·.1) ++ (((nodT d a).tail.map (·.1) ++ (nodT d b).tail.map (·.1)) ++ ((nodS t2).map (·.1) ++ numT d b :: os)))):=by
        rw [List.append_assoc]
        exact g1
      refine g3.trans (List.Perm.cons _ ?_)
      have g4:=g2
      simp only [List.append_assoc] at g4 ⊢
      exact g4
    have h3:=h2.trans h1.symm
    simpa using h3
theorem Sx.share (h:Sx A fl pages os (.up num s1 k s2 c) x es) (hp:(nodT d x ++ (nodS s1 ++ nodS s2)).Perm (nodS t1 ++ (nodT d a ++ nodT d b) ++ nodS t2)) (hx:x=a∨x=b) (hw:WfB c (⟨num,t1 ++ [(ka,a),(kb,b)] ++ t2⟩:Inn (T d)) es) (m:Nat) (hm:0<m∧m<(cellsT d (mrgT d a b)).length) :
    Sx (updA (updA A (numT d a) (pgT d (splT d m (numT d b) (mrgT d a b)).1)) (numT d b) (pgT d (splT d m (numT d b) (mrgT d a b)).2.2)) fl pages os c (⟨num,t1 ++ [(ka,(splT d m (numT d b) (mrgT d a b)).1),((splT d m (numT d b) (mrgT d a b)).2.1,(splT d m (numT d b) (mrgT d a b)).2.2)] ++ t2⟩:Inn (T d)) es:=by
  obtain ⟨hnd,hrep⟩:=h.pairR hp hx
  rw [List.nodup_cons,List.nodup_cons] at hnd
  have hws:=hw.merge.split m (numT d b) hm
  have hn:=spl_nod d m (numT d b) (mrgT d a b)
  have hnum:=spl_num d m (numT d b) (mrgT d a b)
  rw [mrg_nod] at hn
  rw [mrg_num] at hnum
  generalize (splT d m (numT d b) (mrgT d a b)).1=x1 at *
  generalize (splT d m (numT d b) (mrgT d a b)).2.1=k2 at *
  generalize (splT d m (numT d b) (mrgT d a b)).2.2=x2 at *
  have e1:nodS [(ka,x1),(k2,x2)]=nodT d x1 ++ nodT d x2:=by simp [nodS]
  have hA:∀ p ∈ restP t1 a b t2 (c.nod num),updA (updA A (numT d a) (pgT d x1)) (numT d b) (pgT d x2) p.1=p.2:=fun p hpm=>by
    have hm:p.1 ∈ (restP t1 a b t2 (c.nod num)).map (·.1):=List.mem_map_of_mem hpm
    rw [updA_ne,updA_ne]
    · exact hrep p hpm
    · exact fun e=>hnd.1 (by rw [← e];exact List.mem_cons_of_mem _ (List.mem_append_left _ hm))
    · exact fun e=>hnd.2.1 (by rw [← e];exact List.mem_append_left _ hm)
  have hab:¬ numT d a=numT d b:=fun e=>hnd.1 (by rw [e];exact List.mem_cons_self ..)
  have hsub:∀ p,p ∈ (nodT d x1).tail∨p ∈ (nodT d x2).tail→p ∈ (nodT d a).tail∨p ∈ (nodT d b).tail:=fun p hpm=>by
    rw [← List.mem_append,← hn]
    exact List.mem_append.2 hpm
  refine h.kids hws (fun p hpm=>?_) ?_
  · rw [e1,nodT_eq d x1,nodT_eq d x2] at hpm
    simp only [List.mem_append,List.mem_cons] at hpm
    rcases hpm with ((hpm | (hpm | hpm) | hpm | hpm) | hpm) | hpm
    · exact hA p (by simp [restP,hpm])
    · rw [hpm,hnum.1,updA_ne _ _ hab];exact updA_at _ _ _
    · exact hA p (by rcases hsub p (.inl hpm) with q | q <;> simp [restP,q])
    · rw [hpm,hnum.2];exact updA_at _ _ _
    · exact hA p (by rcases hsub p (.inr hpm) with q | q <;> simp [restP,q])
    · exact hA p (by simp [restP,hpm])
    · exact hA p (by simp [restP,hpm])
  · refine List.Perm.trans ?_ ((hp.map (·.1)).append_right os).symm
    rw [e1,nodT_eq d x1,nodT_eq d x2,nodT_eq d a,nodT_eq d b,hnum.1,hnum.2]
    have h1:=perm_pull ((nodS t1).map (·.1)) ((nodT d a).tail.map (·.1)) ((nodT d b).tail.map (·.1)) (numT d a) (numT d b) ((nodS t2).map (·.1) ++ os)
    have h2:=perm_pull ((nodS t1).map (·.1)) ((nodT d x1).tail.map (·.1)) ((nodT d x2).tail.map (·.1)) (numT d a) (numT d b) ((nodS t2).map (·.1) ++ os)
    rw [← List.map_append,hn,List.map_append] at h2
    have h3:=h2.trans h1.symm
    simpa using h3
end
/- the two ways in which a place has another one beside it -/
theorem pair_left {d:Nat} (s1 s2:List (ByteArray × T d)) (ka:ByteArray) (a x:T d):(nodT d x ++ (nodS (s1 ++ [(ka,a)]) ++ nodS s2)).Perm (nodS s1 ++ (nodT d a ++ nodT d x) ++ nodS s2):=by
  rw [nodS_app]
  have e:nodS [(ka,a)]=nodT d a:=by simp [nodS]
  rw [e]
  have:=(List.perm_append_comm (l₁:=nodT d x) (l₂:=nodS s1 ++ nodT d a)).append_right (nodS s2)
  simpa using this
theorem pair_right {d:Nat} (s1 s2:List (ByteArray × T d)) (kb:ByteArray) (b x:T d):(nodT d x ++ (nodS s1 ++ nodS ((kb,b) :: s2))).Perm (nodS s1 ++ (nodT d x ++ nodT d b) ++ nodS s2):=by
  rw [nodS_cons]
  have:=(List.perm_append_comm (l₁:=nodT d x) (l₂:=nodS s1)).append_right (nodT d b ++ nodS s2)
  simpa using this
theorem WfB.left {d:Nat} {num:Nat} {s1 s2:List (ByteArray × T d)} {k ka:ByteArray} {c:Cx (d+1)} {a x:T d} {es:List Ent} (h:WfB (.up num (s1 ++ [(ka,a)]) k s2 c) x es):WfB c (⟨num,s1 ++ [(ka,a),(k,x)] ++ s2⟩:Inn (T d)) es:=by
  have:=h.up
  rw [show frm num (s1 ++ [(ka,a)]) k x s2=(⟨num,s1 ++ [(ka,a),(k,x)] ++ s2⟩:Inn (T d)) by simp [frm]] at this
  exact this
theorem WfB.right {d:Nat} {num:Nat} {s1 s2:List (ByteArray × T d)} {k kb:ByteArray} {c:Cx (d+1)} {b x:T d} {es:List Ent} (h:WfB (.up num s1 k ((kb,b) :: s2) c) x es):WfB c (⟨num,s1 ++ [(k,x),(kb,b)] ++ s2⟩:Inn (T d)) es:=by
  have:=h.up
  rw [show frm num s1 k x ((kb,b) :: s2)=(⟨num,s1 ++ [(k,x),(kb,b)] ++ s2⟩:Inn (T d)) by simp [frm]] at this
  exact this
/- the middle of cells: the first one with which half of the bytes are reached -/
def midC (l:List ByteArray):Nat:=(List.range l.length).countP fun i=>!decide (usedC l≤2 * usedC (l.take (i+1)))
theorem usedC_mono (l:List ByteArray) {i j:Nat} (h:i≤j):usedC (l.take i)≤usedC (l.take j):=by
  have:l.take j=l.take i ++ (l.take j).drop i:=by
    have:=List.take_append_drop i (l.take j)
    rw [List.take_take,Nat.min_eq_left h] at this
    exact this.symm
  rw [this,usedC_app]
  omega
theorem cnt_first:∀ (n:Nat) (p:Nat→Bool),(∀ i j,i≤j→p j=true→p i=true)→(∃ i,i<n∧p i=false)→(List.range n).countP p<n∧p ((List.range n).countP p)=false∧∀ i,i<(List.range n).countP p→p i=true
  | 0,_,_,⟨i,hi,_⟩=>absurd hi (Nat.not_lt_zero _)
  | n+1,p,hm,⟨i,hi,hp⟩=>by
    rw [List.range_succ,List.countP_append]
    by_cases h:∃ i,i<n∧p i=false
    · obtain ⟨a,b,c⟩:=cnt_first n p hm h
      obtain ⟨j,hj,hj'⟩:=h
      have hn:p n=false:=by
        cases q:p n with
        | false=>rfl
        | true=>have:=hm j n (by omega) q;rw [hj'] at this;cases this
      have e:(List.range n).countP p+[n].countP p=(List.range n).countP p:=by simp [hn]
      rw [e]
      exact ⟨by omega,b,c⟩
    · have hall:∀ i,i<n→p i=true:=fun i hi=>by
        cases q:p i with
        | true=>rfl
        | false=>exact absurd ⟨i,hi,q⟩ h
      have e0:i=n:=by
        by_cases e:i=n
        · exact e
        · have:=hall i (by omega);rw [hp] at this;cases this
      subst e0
      have e1:(List.range i).countP p=i:=by
        have:=List.countP_eq_length.2 (fun (a:Nat) (ha:a ∈ List.range i)=>hall a (List.mem_range.1 ha))
        rw [List.length_range] at this
        exact this
      have e:(List.range i).countP p+[i].countP p=i:=by rw [e1];simp [hp]
      rw [e]
      exact ⟨by omega,hp,hall⟩
theorem mid_in {l:List ByteArray} (h:0<usedC l):midC l<l.length∧2 * usedC (l.take (midC l))<usedC l∧usedC l≤2 * usedC (l.take (midC l+1)):=by
  have hn:∃ i,i<l.length∧(!decide (usedC l≤2 * usedC (l.take (i+1))))=false:=by
    cases l with
    | nil=>simp [usedC] at h
    | cons a l=>exact ⟨l.length,by simp,by simp;omega⟩
  obtain ⟨h1,h2,h3⟩:=cnt_first l.length (fun i=>!decide (usedC l≤2 * usedC (l.take (i+1)))) (fun i j hij hp=>by
    simp at hp ⊢
    have:=usedC_mono l (show i+1≤j+1 by omega)
    omega) hn
  refine ⟨h1,?_,by simpa [midC] using h2⟩
  cases hq:midC l with
  | zero=>simpa [usedC] using h
  | succ k =>
    have:=h3 k (by have:midC l=_:=rfl;unfold midC at hq;omega)
    simpa using this
theorem used_take {l:List ByteArray} (h:∀ c ∈ l,c.size≤240) (i:Nat):usedC (l.take (i+1))≤usedC (l.take i)+244:=by
  rw [List.take_add_one,usedC_app]
  cases hq:l[i]? with
  | none=>simp [usedC]
  | some c=>have:=h c (List.mem_of_getElem? hq);simp [usedC];omega
/- both sides of the middle are full enough, and not too full -/
theorem mid_ok {l:List ByteArray} (hs:∀ c ∈ l,c.size≤240) (h1:1012<usedC l) (h2:usedC l≤1500) :
    0<midC l∧midC l<l.length∧(180≤usedC (l.take (midC l))∧usedC (l.take (midC l))≤1012)∧(180≤usedC (l.drop (midC l))∧usedC (l.drop (midC l))≤1012)∧(180≤usedC (l.drop (midC l+1))∧usedC (l.drop (midC l+1))≤1012):=by
  obtain ⟨a,b,c⟩:=mid_in (l:=l) (by omega)
  have d:=used_take hs (midC l)
  have e:∀ i,usedC (l.take i)+usedC (l.drop i)=usedC l:=fun i=>by rw [← usedC_app,List.take_append_drop]
  have e1:=e (midC l)
  have e2:=e (midC l+1)
  refine ⟨?_,a,⟨by omega,by omega⟩,⟨by omega,by omega⟩,by omega,by omega⟩
  cases hq:midC l with
  | zero =>
    rw [hq] at c d
    have e0:usedC (l.take 0)=0:=rfl
    rw [e0] at d
    omega
  | succ k=>omega
theorem cells_spl (d m r:Nat) (x:T d):cellsT d (splT d m r x).1=(cellsT d x).take m∧cellsT d (splT d m r x).2.2=(cellsT d x).drop (m+kindT d - 1):=by
  cases d with
  | zero=>exact ⟨by simp [cellsT,splT,List.map_take],by simp [cellsT,splT,List.map_drop,kindT]⟩
  | succ d =>
    refine ⟨?_,?_⟩
    · simp only [cellsT,splT]
      cases x.kids with
      | nil=>simp
      | cons p r=>simp [List.map_take]
    · simp only [cellsT,splT,kindT]
      rw [List.map_tail,List.map_drop,List.map_tail]
      cases x.kids with
      | nil=>simp
      | cons p r=>simp
theorem cells_mrg0 (a b:T 0):cellsT 0 (mrgT 0 a b)=cellsT 0 a ++ cellsT 0 b:=by simp [cellsT,mrgT]
theorem cells_mrg1 {d:Nat} (a b:T (d+1)) {kb:ByteArray} (ha:¬ a.kids=[]) (hb:∃ p r,b.kids=p :: r∧p.1=kb):cellsT (d+1) (mrgT (d+1) a b)=cellsT (d+1) a ++ childB kb (linkT (d+1) b) :: cellsT (d+1) b:=by
  obtain ⟨p,r,e,rfl⟩:=hb
  simp only [cellsT,mrgT,linkT]
  rw [e]
  cases hq:a.kids with
  | nil=>exact absurd hq ha
  | cons q s=>simp
theorem filK_spl (d m r:Nat) (x:T d) (h:FilK d x):FilK d (splT d m r x).1∧FilK d (splT d m r x).2.2:=by
  cases d with
  | zero=>exact ⟨trivial,trivial⟩
  | succ d=>exact ⟨fun p hp=>h p (List.mem_of_mem_take hp),fun p hp=>h p (List.mem_of_mem_drop hp)⟩
theorem filK_mrg (d:Nat) (a b:T d) (ha:FilK d a) (hb:FilK d b):FilK d (mrgT d a b):=by
  cases d with
  | zero=>trivial
  | succ d=>exact fun p hp=>(List.mem_append.1 hp).elim (ha p) (hb p)
theorem cellI_sz {i:It} (h:okI i):(cellI i).size≤240:=by
  have hp:=h.pgs
  have hk:=h.key
  unfold cellI
  cases hq:i.pgs with
  | nil =>
    rw [hq] at hp
    have:2+i.key.size+i.val.size≤240:=by
      by_cases e:2+i.key.size+i.val.size≤240
      · exact e
      · rw [if_neg e] at hp;simp at hp;have:=hk.2;omega
    show (inlineB i.key i.val).size≤240
    unfold inlineB
    rw [ByteArray.size_append,ByteArray.size_append,keyedB_sz]
    have e1:(⟨#[0]⟩:ByteArray).size=1:=rfl
    rw [e1]
    omega
  | cons p r =>
    show (longB i.key i.val.size p).size≤240
    unfold longB
    rw [ByteArray.size_append,ByteArray.size_append,keyedB_sz,fourB_sz]
    have e1:∀ x y:UInt8,(⟨#[1,x,y]⟩:ByteArray).size=3:=fun _ _=>rfl
    rw [e1]
    have:=hk.2
    omega
theorem cells_sz (d:Nat) {lo hi:ByteArray} {x:T d} (h:Bnd d lo hi x):∀ c ∈ cellsT d x,c.size≤240:=by
  cases d with
  | zero =>
    intro c hc
    simp only [cellsT,List.mem_map] at hc
    obtain ⟨i,hi',rfl⟩:=hc
    exact cellI_sz (BI_mem h i hi').1
  | succ d =>
    intro c hc
    obtain ⟨⟨p,r,e,hp⟩,hb⟩:=h
    simp only [cellsT,List.mem_map] at hc
    obtain ⟨q,hq,rfl⟩:=hc
    rw [e] at hq hb
    have:=(hb.2.2.1 q hq).2
    rw [childB_sz]
    omega
theorem WfB.sz {d:Nat} {c:Cx d} {x:T d} {es:List Ent} (h:WfB c x es):∀ y ∈ cellsT d x,y.size≤240:=by
  obtain ⟨lo,hi,_,hb⟩:=h.bnd
  exact cells_sz d hb
theorem fil_spl (d r:Nat) (x:T d) (hs:∀ y ∈ cellsT d x,y.size≤240) (hf:FilK d x) (h1:1012<usedC (cellsT d x)) (h2:usedC (cellsT d x)≤1500):FilN d (splT d (midC (cellsT d x)) r x).1∧FilN d (splT d (midC (cellsT d x)) r x).2.2:=by
  obtain ⟨a1,a2,a3,a4,a5⟩:=mid_ok hs h1 h2
  obtain ⟨c1,c2⟩:=cells_spl d (midC (cellsT d x)) r x
  obtain ⟨f1,f2⟩:=filK_spl d (midC (cellsT d x)) r x hf
  rw [FilN_iff,FilN_iff,c1,c2]
  refine ⟨⟨a3,f1⟩,?_,f2⟩
  cases d with
  | zero=>exact a4
  | succ d=>exact a5
end Go.Proofs.YtmgjdjjfeapcdaaGreat
namespace Go.Proofs.YtmgjdjjfeapcdaaGreat
open Go
/- how full a node is that is written: the root may be emptier -/
structure OkN {d:Nat} (c:Cx d) (x:T d):Prop where
  kids:FilK d x
  low:c.isTop=true∨180≤usedC (cellsT d x)
  high:usedC (cellsT d x)≤1012
  some:d=0∨¬ cellsT d x=[]
/- a whole tree in the pages -/
structure Tr (A:Nat→PgV) (fl:List Nat) (pages:Nat) (os:List Nat) {d:Nat} (t:T d) (es:List Ent):Prop where
  sx:Sx A fl pages os (.top d) t es
  own:A (numT d t)=pgT d t
  ok:OkN (.top d) t
section
variable {A:Nat→PgV} {fl os:List Nat} {pages:Nat} {es:List Ent}
theorem fr_used {d:Nat} {num:Nat} {s1 s2:List (ByteArray × T d)} {k:ByteArray} (x:T d):usedC (frP s1 k s2 0).cells=usedC (cellsT (d+1) (frm num s1 k x s2)):=by
  have hu:∀ n m,usedC (frP s1 k s2 n).cells=usedC (frP s1 k s2 m).cells:=fun n m=>by
    have hc:∀ q:ByteArray,(childB q n).size=(childB q m).size:=fun q=>by rw [childB_sz,childB_sz]
    cases s1 with
    | nil=>simp [frP,usedC]
    | cons p r=>simp [frP,usedC,hc]
  rw [hu 0 (numT d x),frP_eq num]
  rfl
theorem frm_some {d:Nat} {num:Nat} {s1 s2:List (ByteArray × T d)} {k:ByteArray} {x:T d} (h:¬ (s1=[]∧s2=[])):¬ cellsT (d+1) (frm num s1 k x s2)=[]:=by
  intro e
  have:=congrArg List.length e
  simp [cellsT,frm] at this
  exact h ⟨this.1,this.2⟩
/- a place that is as it should be lies in a whole tree -/
theorem Sx.whole:∀ {d:Nat} (c:Cx d) (x:T d),Sx A fl pages os c x es→A (numT d x)=pgT d x→OkN c x→c.two→∃ (D:Nat) (t:T D),Tr A fl pages os t es∧numT D t=c.root (numT d x)
  | d,.top _,x,h,hA,hk,_=>⟨d,x,⟨h,hA,hk⟩,rfl⟩
  | d,.up num s1 k s2 c,x,h,hA,hk,ht=>by
    have hf:=h.wf.fil
    have hown:A num=pgT (d+1) (frm num s1 k x s2):=by
      have:=h.rep (num,frP s1 k s2 (numT d x)) (by rw [restN_up];simp)
      rw [frP_eq num] at this
      exact this
    have hx:FilN d x:=(FilN_iff d x).2 ⟨⟨hk.low.resolve_left (by simp [Cx.isTop]),hk.high⟩,hk.kids⟩
    have hu:=fr_used (num:=num) (s1:=s1) (s2:=s2) (k:=k) x
    refine Sx.whole c (frm num s1 k x s2) (h.up hA) hown ⟨fun p hp=>?_,by rw [← hu];exact hf.2.2.1.1,by rw [← hu];exact hf.2.2.1.2,.inr (frm_some ht.1)⟩ ht.2
    · have hp:p ∈ s1 ++ (k,x) :: s2:=hp
      simp only [List.mem_append,List.mem_cons] at hp
      rcases hp with hp | hp | hp
      · exact hf.1 p hp
      · rw [hp];exact hx
      · exact hf.2.1 p hp
/- from a node to one of its children -/
theorem Sx.down {d num:Nat} {s1 s2:List (ByteArray × T d)} {k:ByteArray} {c:Cx (d+1)} {x:T d} (h:Sx A fl pages os c (frm num s1 k x s2) es) (hA:A num=pgT (d+1) (frm num s1 k x s2)) (hk:OkN c (frm num s1 k x s2)):Sx A fl pages os (.up num s1 k s2 c) x es∧A (numT d x)=pgT d x∧OkN (.up num s1 k s2 c) x:=by
  have hw:=h.wf.down hk.kids ⟨hk.low,hk.high⟩
  have e:restN c (frm num s1 k x s2)=nodS s1 ++ (nodT d x ++ nodS s2) ++ c.nod num:=by
    show nodS (s1 ++ (k,x) :: s2) ++ c.nod num=_
    rw [nodS_app,nodS_cons]
  have hfx:FilN d x:=hk.kids (k,x) (by show _ ∈ s1 ++ (k,x) :: s2;simp)
  have hfx:=(FilN_iff d x).1 hfx
  have hown:A (numT d x)=pgT d x:=h.rep (numT d x,pgT d x) (by rw [e,nodT_eq];simp)
  refine ⟨⟨hw,fun p hp=>?_,?_⟩,hown,⟨hfx.2,.inr hfx.1.1,hfx.1.2,?_⟩⟩
  · rw [restN_up] at hp
    have hr:=h.rep p
    rw [e,nodT_eq] at hr
    simp only [List.mem_append,List.mem_cons] at hp hr
    rcases hp with hp | (hp | hp | hp) | hp
    · exact hr (.inl (.inr (.inl (.inr hp))))
    · rw [hp];show A num=_;rw [hA,frP_eq num]
    · exact hr (.inl (.inl hp))
    · exact hr (.inl (.inr (.inr hp)))
    · exact hr (.inr hp)
  · refine List.Perm.trans ?_ h.perm
    refine List.Perm.cons _ (List.Perm.append_left _ ?_)
    rw [e,restN_up]
    show (numT d x :: (((nodT d x).tail ++ ((num,frP s1 k s2 (numT d x)) :: (nodS s1 ++ nodS s2) ++ c.nod num)).map (·.1) ++ os)).Perm (num :: ((nodS s1 ++ (nodT d x ++ nodS s2) ++ c.nod num).map (·.1) ++ os))
    have e2:(numT d x :: (((nodT d x).tail ++ ((num,frP s1 k s2 (numT d x)) :: (nodS s1 ++ nodS s2) ++ c.nod num)).map (·.1) ++ os))=(nodT d x).map (·.1) ++ (num :: ((nodS s1 ++ nodS s2).map (·.1) ++ ((c.nod num).map (·.1) ++ os))):=by
      rw [nodT_eq]
      simp
    rw [e2]
    refine List.perm_middle.trans (List.Perm.cons _ ?_)
    have q:∀ a b c e:List Nat,(a ++ (b ++ c ++ e)).Perm (b ++ (a ++ c) ++ e):=fun a b c e=>by
      have:=(List.perm_append_comm (l₁:=a) (l₂:=b)).append_right (c ++ e)
      simpa using this
    have:=q ((nodT d x).map (·.1)) ((nodS s1).map (·.1)) ((nodS s2).map (·.1)) ((c.nod num).map (·.1) ++ os)
    simpa using this
  · cases d with
    | zero=>exact .inl rfl
    | succ d=>exact .inr fun e=>by have:=hfx.1.1;rw [e] at this;simp [usedC] at this
def renT:(d:Nat)→Nat→T d→T d
  | 0,n,x=>⟨n,x.link,x.its⟩
  | _+1,n,x=>⟨n,x.kids⟩
theorem ren_num (d n:Nat) (x:T d):numT d (renT d n x)=n:=by cases d <;> rfl
theorem ren_pg (d n:Nat) (x:T d):pgT d (renT d n x)=pgT d x:=by cases d <;> rfl
theorem ren_cells (d n:Nat) (x:T d):cellsT d (renT d n x)=cellsT d x:=by cases d <;> rfl
theorem ren_nod (d n:Nat) (x:T d):(nodT d (renT d n x)).tail=(nodT d x).tail:=by cases d <;> rfl
theorem ren_ent (d n:Nat) (x:T d):entT d (renT d n x)=entT d x:=by cases d <;> rfl
theorem ren_bnd (d n:Nat) (x:T d) (lo hi:ByteArray):Bnd d lo hi (renT d n x) ↔ Bnd d lo hi x:=by cases d <;> exact Iff.rfl
theorem ren_filK (d n:Nat) (x:T d):FilK d (renT d n x) ↔ FilK d x:=by cases d <;> exact Iff.rfl
theorem ren_lk (d n:Nat) (x:T d) (nx:Nat) (h:lk (lvsT d x) nx):lk (lvsT d (renT d n x)) nx:=by cases d <;> exact h
/- the root is too full: what it has gets a page of its own, below it -/
theorem Sx.grow {d n:Nat} {x:T d} (h:Sx A fl pages (n :: os) (.top d) x es):Sx (updA A (numT d x) (frP (d:=d) [] ⟨#[]⟩ [] n)) fl pages os (.up (numT d x) [] ⟨#[]⟩ [] (.top (d+1))) (renT d n x) es:=by
  obtain ⟨lo,hi,⟨rfl,rfl⟩,hb⟩:=h.wf.bnd
  have e1:restN (.top d) x=(nodT d x).tail:=by simp [restN,Cx.nod]
  refine ⟨⟨⟨⟨#[]⟩,⟨#[]⟩,⟨⟨#[]⟩,⟨#[]⟩,⟨rfl,rfl⟩,rfl,rfl,trivial,trivial,.inl rfl,rfl,by simp,by simp,.inl rfl⟩,(ren_bnd d n x _ _).2 hb⟩,⟨by simp,by simp,⟨.inl rfl,by simp [frP,usedC]⟩,trivial⟩,?_,?_⟩,fun p hp=>?_,?_⟩
  · rw [ren_ent];exact h.wf.ent
  · have:=h.wf.lks
    simp only [Cx.lpre,Cx.lsuf,lvsS,List.flatMap_nil,List.nil_append,List.append_nil] at this ⊢
    exact ren_lk d n x 0 this
  · rw [restN_up,ren_nod] at hp
    simp only [List.mem_append,List.mem_cons,nodS,Cx.nod,List.flatMap_nil,List.append_nil,List.not_mem_nil,or_false] at hp
    rcases hp with hp | hp
    · rw [updA_ne _ _ (h.ne (by rw [e1];exact hp)).1]
      exact h.rep p (by rw [e1];exact hp)
    · rw [hp,ren_num];exact updA_at _ _ _
  · refine List.Perm.trans ?_ h.perm
    refine List.Perm.cons _ (List.Perm.append_left _ ?_)
    rw [e1,restN_up,ren_nod,ren_num]
    simp only [nodS,Cx.nod,List.flatMap_nil,List.append_nil,List.map_append,List.map_cons,List.map_nil,List.cons_append,List.nil_append,List.append_assoc]
    have q:∀ (a o:List Nat) (u v:Nat),(u :: (a ++ v :: o)).Perm (v :: (a ++ u :: o)):=fun a o u v=>by
      refine (List.Perm.cons _ List.perm_middle).trans (List.Perm.trans (List.Perm.swap _ _ _) (List.Perm.cons _ List.perm_middle.symm))
    exact q _ _ _ _
theorem Sx.rootSplit {d n r:Nat} {x:T d} (h:Sx A fl pages (r :: n :: os) (.top d) x es) (m:Nat) (hm:0<m∧m<(cellsT d x).length) :
    Sx (updA (updA A n (pgT d (splT d m r (renT d n x)).1)) r (pgT d (splT d m r (renT d n x)).2.2)) fl pages os (.top (d+1)) (⟨numT d x,[(⟨#[]⟩,(splT d m r (renT d n x)).1),((splT d m r (renT d n x)).2.1,(splT d m r (renT d n x)).2.2)]⟩:Inn (T d)) es:=by
  have h1:Sx A fl pages (n :: r :: os) (.top d) x es:=⟨h.wf,h.rep,h.perm.symm.trans (List.Perm.cons _ (List.Perm.append_left _ (List.Perm.cons _ (List.Perm.append_left _ (List.Perm.swap _ _ _))))) |>.symm⟩
  have h2:=h1.grow.split (r:=r) m (by rw [ren_cells];exact hm)
  have hn:¬ n=numT d x:=(h1.os_ne (o:=n) (by simp)).1
  have hr:¬ r=numT d x:=(h1.os_ne (o:=r) (by simp)).1
  rw [ren_num] at h2
  refine h2.congr (fun p hp=>?_)
  have hne:=(h2.ne hp).1
  have hne:¬ p.1=numT d x:=hne
  unfold updA
  rw [if_neg hne]
/- the root has an only child: that one comes up -/
theorem Sx.shrink {d num:Nat} {lo:ByteArray} {y:T d} (h:Sx A fl pages os (.top (d+1)) (⟨num,[(lo,y)]⟩:Inn (T d)) es):Sx A fl pages (numT d y :: os) (.top d) (renT d num y) es:=by
  obtain ⟨lo',hi',⟨rfl,rfl⟩,⟨p,r,e,hp⟩,hb⟩:=h.wf.bnd
  have e:[(lo,y)]=p :: r:=e
  simp at e
  have hlo:lo=⟨#[]⟩:=by rw [← hp,← e.1]
  have hb:BS (Bnd d) [(lo,y)] ⟨#[]⟩:=hb
  have hby:=hb.2.1
  rw [hlo] at hby
  have e1:restN (.top (d+1)) (⟨num,[(lo,y)]⟩:Inn (T d))=nodT d y:=by simp [restN_s,nodS,Cx.nod]
  have e2:restN (.top d) (renT d num y)=(nodT d y).tail:=by simp [restN,Cx.nod,ren_nod]
  refine ⟨⟨⟨⟨#[]⟩,⟨#[]⟩,⟨rfl,rfl⟩,(ren_bnd d num y _ _).2 hby⟩,trivial,?_,?_⟩,fun p hp=>?_,?_⟩
  · have:=h.wf.ent
    rw [entT_s] at this
    rw [ren_ent]
    simpa [Cx.pre,Cx.suf,entS] using this
  · have:=h.wf.lks
    rw [lvsT_s] at this
    simp only [Cx.lpre,Cx.lsuf,lvsS,List.flatMap_cons,List.flatMap_nil,List.nil_append,List.append_nil] at this ⊢
    exact ren_lk d num y 0 this
  · rw [e2] at hp
    exact h.rep p (by rw [e1,nodT_eq];exact List.mem_cons_of_mem _ hp)
  · refine List.Perm.trans ?_ h.perm
    refine List.Perm.cons _ (List.Perm.append_left _ ?_)
    rw [e2,e1,ren_num,nodT_eq d y]
    show (num :: ((nodT d y).tail.map (·.1) ++ numT d y :: os)).Perm (num :: (numT d y :: (nodT d y).tail.map (·.1) ++ os))
    exact List.Perm.cons _ List.perm_middle
/- a leaf has other entries, its values other pages -/
theorem Sx.leaf {c:Cx 0} {x:T 0} {its:List It} {A':Nat→PgV} {os':List Nat} {fl':List Nat} {pages':Nat} {es':List Ent} (h:Sx A fl pages os c x es)
    (hb:∀ lo hi,c.bnd lo hi→BI lo x.its hi→BI lo its hi) (he:es'=c.pre ++ its.map (fun i=>(i.key,i.val)) ++ c.suf)
    (hA:∀ p ∈ its.flatMap nodI ++ c.nod x.num,A' p.1=p.2)
    (hp:(0 :: (fl' ++ (x.num :: ((its.flatMap nodI ++ c.nod x.num).map (·.1) ++ os')))).Perm (List.range pages')) :
    Sx A' fl' pages' os' c (⟨x.num,x.link,its⟩:Lf) es':=by
  obtain ⟨lo,hi,h1,h2⟩:=h.wf.bnd
  exact ⟨⟨⟨lo,hi,h1,hb lo hi h1 h2⟩,h.wf.fil,he.symm,h.wf.lks⟩,hA,hp⟩
end
/- how many entries a tree has, at the least -/
theorem many_in:∀ (d:Nat) (t:T d),FilN d t→2 ^ d≤(entT d t).length
  | 0,t,h=>by
    have:¬ t.its=[]:=fun e=>by have:=h.1;simp [cellsT,usedC,e] at this
    have:=List.length_pos_iff.2 this
    simp [entT]
    omega
  | d+1,t,h=>by
    match hq:t.kids with
    | []=>have:=h.1.1;simp [cellsT,usedC,hq] at this
    | [p]=>have:=h.1.1;simp [cellsT,usedC,hq] at this
    | p :: q :: r =>
      have h1:=many_in d p.2 (h.2 p (by rw [hq];simp))
      have h2:=many_in d q.2 (h.2 q (by rw [hq];simp))
      rw [entT_s,hq,entS_cons,entS_cons]
      simp only [List.length_append]
      rw [Nat.pow_succ]
      omega
theorem OkN.many {d:Nat} {t:T d} (h:OkN (.top d) t):d=0∨2 ^ d≤(entT d t).length:=by
  cases d with
  | zero=>exact .inl rfl
  | succ d =>
    right
    have hs:=h.some.resolve_left (by simp)
    match hq:t.kids with
    | []=>exact absurd (by simp [cellsT,hq]) hs
    | [p]=>exact absurd (by simp [cellsT,hq]) hs
    | p :: q :: r =>
      have h1:=many_in d p.2 (h.kids p (by rw [hq];simp))
      have h2:=many_in d q.2 (h.kids q (by rw [hq];simp))
      rw [entT_s,hq,entS_cons,entS_cons]
      simp only [List.length_append]
      rw [Nat.pow_succ]
      omega
end Go.Proofs.YtmgjdjjfeapcdaaGreat
namespace Go.Proofs.YtmgjdjjfeapcdaaGreat
open Go.RowKit Go.Lib
attribute [local go_sem ↓] Go.wp_at_zero Go.wp_at_succ
theorem ex_aux (a b:ByteArray):a.data.extract a.size (a.size+b.size) ++ b.data.extract 0 b.size=b.data:=by
  have h1:a.data.extract a.size (a.size+b.size)=#[]:=by
    apply Array.eq_empty_of_size_eq_zero
    rw [Array.size_extract]
    show min (a.size+b.size) a.size - a.size=0
    omega
  have h2:b.data.extract 0 b.size=b.data:=Array.extract_size
  rw [h1,h2,Array.empty_append]
theorem ex_mid (a b c:ByteArray):(a ++ b ++ c).extract a.size (a.size+b.size)=b:=by
  apply ByteArray.ext
  simp [ByteArray.data_extract,ByteArray.data_append,Array.extract_append]
  exact ex_aux a b
theorem ex_end (a b:ByteArray):(a ++ b).extract a.size (a ++ b).size=b:=by
  apply ByteArray.ext
  simp [ByteArray.data_extract,ByteArray.data_append,Array.extract_append]
  exact ex_aux a b
theorem bytS_one (x:UInt8) (r:ByteArray):bytS (⟨#[x]⟩ ++ r) 0=x.toNat:=by
  rw [byt_left (by show 0<1;decide)]
  rfl
theorem app_assoc (a b c:ByteArray):a ++ b ++ c=a ++ (b ++ c):=by
  apply ByteArray.ext
  simp [ByteArray.data_append]
theorem kS_keyed {k:ByteArray} (hk:k.size≤200) (r:ByteArray):kS (keyedB k ++ r)=1+k.size:=by
  unfold kS keyedB
  rw [app_assoc,bytS_one]
  have:(k.size.toUInt8).toNat=k.size % 256:=rfl
  rw [this]
  omega
theorem keyB_keyed {k:ByteArray} (hk:k.size≤200) (r:ByteArray):keyB (keyedB k ++ r)=k:=by
  unfold keyB
  rw [kS_keyed hk]
  exact ex_mid ⟨#[k.size.toUInt8]⟩ k r
theorem restB_keyed {k:ByteArray} (hk:k.size≤200) (r:ByteArray):restB (keyedB k ++ r)=r:=by
  unfold restB
  rw [kS_keyed hk,← keyedB_sz]
  exact ex_end (keyedB k) r
theorem keyedB_kS {k:ByteArray} (hk:okK k) (r:ByteArray):kS (keyedB k ++ r)≤(keyedB k ++ r).size∧isKeyedB (keyedB k ++ r)=true:=by
  have h1:=kS_keyed hk.2 r
  have h2:(keyedB k ++ r).size=1+k.size+r.size:=by rw [ByteArray.size_append,keyedB_sz]
  refine ⟨by omega,?_⟩
  unfold isKeyedB
  have h3:bytS (keyedB k ++ r) 0=k.size:=by unfold kS at h1;omega
  have:=hk.1
  have:=hk.2
  rw [h3,h1,h2]
  simp
  omega
/- what stands behind the key -/
def restI (i:It):ByteArray:=match i.pgs with
  | []=>⟨#[0]⟩ ++ i.val
  | p :: _=>⟨#[1,(i.val.size / 256).toUInt8,i.val.size.toUInt8]⟩ ++ fourB p
theorem cellI_eq (i:It):cellI i=keyedB i.key ++ restI i:=by
  unfold cellI restI
  cases i.pgs with
  | nil=>exact app_assoc _ _ _
  | cons p r=>exact app_assoc _ _ _
theorem cellI_key {i:It} (h:okI i):keyB (cellI i)=i.key∧kS (cellI i)≤(cellI i).size∧isKeyedB (cellI i)=true∧restB (cellI i)=restI i:=by
  rw [cellI_eq]
  exact ⟨keyB_keyed h.key.2 _,(keyedB_kS h.key _).1,(keyedB_kS h.key _).2,restB_keyed h.key.2 _⟩
theorem childB_key {k:ByteArray} (h:okK k) (n:Nat):keyB (childB k n)=k∧kS (childB k n)≤(childB k n).size∧isKeyedB (childB k n)=true∧restB (childB k n)=fourB n:=
  ⟨keyB_keyed h.2 _,(keyedB_kS h _).1,(keyedB_kS h _).2,restB_keyed h.2 _⟩
theorem num_four {n:Nat} (h:n<4294967296):numB (fourB n) 0=n:=by
  have b0:bytS (fourB n) 0=n / 16777216 % 256:=rfl
  have b1:bytS (fourB n) 1=n / 65536 % 256:=rfl
  have b2:bytS (fourB n) 2=n / 256 % 256:=rfl
  have b3:bytS (fourB n) 3=n % 256:=rfl
  show ((((0 * 256+bytS (fourB n) (0+0)) * 256+bytS (fourB n) (0+1)) * 256+bytS (fourB n) (0+2)) * 256+bytS (fourB n) (0+3))=n
  rw [b0,b1,b2,b3]
  omega
theorem num_end (a:ByteArray) {n:Nat} (h:n<4294967296):numB (a ++ fourB n) ((a ++ fourB n).size - 4)=n:=by
  have hs:(a ++ fourB n).size - 4=a.size:=by rw [ByteArray.size_append,fourB_sz];omega
  rw [hs]
  refine Eq.trans ?_ (num_four h)
  exact num_same fun i hi=>by rw [Nat.zero_add];exact byt_right
theorem num_child (k:ByteArray) {n:Nat} (h:n<4294967296):numB (childB k n) ((childB k n).size - 4)=n:=num_end _ h
theorem num_long (k:ByteArray) (s:Nat) {n:Nat} (h:n<4294967296):numB (longB k s n) ((longB k s n).size - 4)=n:=num_end _ h
def cellsU (l:List UInt8):Array Value:=(l.map fun b=>Value.int .u8 (b.toNat:Int)).toArray
theorem text_of (X:World) (l:List UInt8) (n:Nat) (hn:l.length=n) (cs:Array Value) (h:cs=cellsU l):(convert 59 9 (.slice (some ⟨X.heap.size,0,none⟩) n n)).run Tryz.prog (X.alloc (.cells cs 5))=.ok (.string ⟨l.toArray⟩) (X.alloc (.cells cs 5)):=by
  subst h hn
  have:=run_convert_bytes_back (P:=Tryz.prog) (X.alloc (.cells (cellsU l) 5)) 59 9 5 ⟨X.heap.size,0,none⟩ l.length l Tryz.underlying59 Tryz.underlying5 Tryz.underlying9 (fun j hj=>by
    rw [Addr.add_lit]
    have hc:(X.alloc (.cells (cellsU l) 5)).cell? ⟨X.heap.size,0+j,none⟩=(cellsU l)[j]?:=by simp only [World.cell?,World.alloc_heap_new];simp
    rw [hc]
    simp [cellsU,hj])
  exact this
theorem text_in {Y w1:World} (l:List UInt8) (n:Nat) (hn:l.length=n) (g:Nat) (hg:Y.heap[g]?=some (.cells (cellsU l) 5 (0,0))) (hb:Below Y.heap.size Y w1):(convert 59 9 (.slice (some ⟨g,0,none⟩) n n)).run Tryz.prog w1=.ok (.string ⟨l.toArray⟩) w1:=by
  subst hn
  refine run_convert_bytes_back (P:=Tryz.prog) w1 59 9 5 ⟨g,0,none⟩ l.length l Tryz.underlying59 Tryz.underlying5 Tryz.underlying9 (fun j hj=>?_)
  rw [Addr.add_lit]
  have hc:w1.cell? ⟨g,0+j,none⟩=(cellsU l)[j]?:=by
    have:=hb.block g (Array.getElem?_eq_some_iff.1 hg).1
    simp only [World.cell?,this,hg]
    simp
  rw [hc]
  simp [cellsU,hj]
theorem u8_of {n:Nat} (h:n<256):((n.toUInt8).toNat:Int)=(n:Int):=by
  have:(n.toUInt8).toNat=n % 256:=rfl
  rw [this]
  omega
set_option maxRecDepth 20000 in
theorem ckeyed (k:ByteArray) (w:World) (hk:k.size≤200):Calls Tryz.prog 182 #[.string k] w fun e w'=>e=.returned (.string (keyedB k))∧Below w.heap.size w w':=by
  have ht:=text_of w [k.size.toUInt8] 1 rfl #[.int .u8 (k.size:Int)] (by unfold cellsU;simp only [List.map_cons,List.map_nil];rw [u8_of (by omega)])
  go_enter Tryz.func182,Tryz.ntmps182
  go_wp2
  go_ret
  exact ⟨rfl,(Below.refl _ _).alloc (Nat.le_refl _) _⟩
set_option maxRecDepth 20000 in
set_option maxHeartbeats 1000000 in
theorem cchild (k:ByteArray) (p:Nat) (w:World) (hk:k.size≤200):Calls Tryz.prog 185 #[.string k,.int .i64 (p:Int)] w fun e w'=>e=.returned (.string (childB k p))∧Below w.heap.size w w':=by
  have sk:=keyedB_sz k
  have sf:=fourB_sz p
  go_enter Tryz.func185,Tryz.ntmps185
  go_wp2_with fail
  refine (ckeyed k _ hk).mono ?_
  rintro e w1 ⟨rfl,hb1⟩
  go_wp2_with fail
  refine (cfourT p _).mono ?_
  rintro e w2 ⟨rfl,hb2⟩
  go_wp2_with fail
  go_ret
  exact ⟨rfl,hb1.trans (hb2.mono hb1.size)⟩
set_option maxRecDepth 20000 in
theorem cisInPages (c:ByteArray) (w:World) (hc:kS c≤c.size) (hs:c.size≤1099511627776) (hr:0<(restB c).size):Calls Tryz.prog 159 #[.string c] w fun e w'=>e=.returned (.bool (bytS (restB c) 0 == 1))∧w'=w:=by
  have HC:=hide (crestOf c w hc hs)
  generalize restB c=r at *
  go_enter Tryz.func159,Tryz.ntmps159
  go_wp2_with fail
  refine HC.out.mono ?_
  rintro e w1 ⟨rfl,hw⟩;rw [hw];clear hw
  go_wp2_with fail
  go_ret
  exact ⟨by rw [bytS_get hr];cases hq:((bytS r 0:Int) == 1) <;> simp at hq ⊢ <;> omega,rfl⟩
set_option maxRecDepth 20000 in
theorem clongSize (c:ByteArray) (w:World) (hc:kS c≤c.size) (hs:c.size≤1099511627776) (hr:3≤(restB c).size):Calls Tryz.prog 188 #[.string c] w fun e w'=>e=.returned (.int .i64 ((bytS (restB c) 1 * 256+bytS (restB c) 2:Nat):Int))∧∃ q,w'=w.drewN q:=by
  have HC:=hide (crestOf c w hc hs)
  generalize restB c=r at *
  have b1:=bytS_lt r 1
  have b2:=bytS_lt r 2
  have g1:=bytS_get (show 1<r.size by omega)
  have g2:=bytS_get (show 2<r.size by omega)
  have hj:=join_i64 (bytS r 1) (bytS r 2) b2 (by omega)
  go_enter Tryz.func188,Tryz.ntmps188
  go_wp2_with fail
  refine HC.out.mono ?_
  rintro e w1 ⟨rfl,hw⟩;rw [hw];clear hw
  go_wp2_with fail
  go_quiet (fail)
  go_wp2_with fail
  go_ret
  exact ⟨by rw [Int.natCast_add,Int.natCast_mul];rfl,⟨_,rfl⟩⟩
end Go.Proofs.YtmgjdjjfeapcdaaGreat
namespace Go.Proofs.YtmgjdjjfeapcdaaGreat
open Go.RowKit Go.Lib
attribute [local go_sem ↓] Go.wp_at_zero Go.wp_at_succ
theorem rt_mv (X:World) (a:Act) (d:Nat) (t:TypeId) (p:String) (f:Array Edge) (i:Nat) {v:Value} (he:a.eval (.tmp i)=v):(execOp a.eval { dst:=some d,op:=.move (.tmp i),type:=t,pos:=p,after:=f,guard:=none }).run Tryz.prog X=.ok (.value v) X:=by
  subst he
  simp only [execOp]
  go_simp
theorem rt_as (X:World) (a:Act) (d:Nat) (t:TypeId) (p:String) (f:Array Edge) (i:Nat) {v:Value} (he:a.eval (.tmp i)=v):(execOp a.eval { dst:=some d,op:=.assign (.tmp i),type:=t,pos:=p,after:=f,guard:=none }).run Tryz.prog X=.ok (.value v) X:=by
  subst he
  simp only [execOp]
  go_simp
theorem rt_add (X:World) (a:Act) (d:Nat) (t:TypeId) (p:String) (f:Array Edge) (i j:Nat) (x y:ByteArray) (hz:x.size+y.size≤1000000) (hi:a.eval (.tmp i)=.string x) (hj:a.eval (.tmp j)=.string y):(execOp a.eval { dst:=some d,op:=.binOp .add 9 (.tmp i) (.tmp j) 9,type:=t,pos:=p,after:=f,guard:=none }).run Tryz.prog X=.ok (.value (.string (x ++ y))) X:=by
  have h1:(x.size:Int)+(y.size:Int)≤9223372036854775807:=by omega
  have h2:x.size+y.size≤9223372036854775807:=by omega
  simp only [execOp,hi,hj]
  go_simp
theorem rt_cK (X:World) (a:Act) (d:Nat) (t:TypeId) (p:String) (f:Array Edge) (i:Nat) {v:Value} (he:a.eval (.tmp i)=v):(execOp a.eval { dst:=some d,op:=.call { callee:=.value (.func 182),args:=#[.tmp i],argTypes:=#[9] },type:=t,pos:=p,after:=f,guard:=none }).run Tryz.prog X=.ok (.enter 182 #[v]) X:=by
  subst he
  simp only [execOp]
  go_simp
theorem rt_cF (X:World) (a:Act) (d:Nat) (t:TypeId) (p:String) (f:Array Edge) (i:Nat) {v:Value} (he:a.eval (.tmp i)=v):(execOp a.eval { dst:=some d,op:=.call { callee:=.value (.func 183),args:=#[.tmp i],argTypes:=#[3] },type:=t,pos:=p,after:=f,guard:=none }).run Tryz.prog X=.ok (.enter 183 #[v]) X:=by
  subst he
  simp only [execOp]
  go_simp
theorem rt_cv (X:World) (a:Act) (d:Nat) (t:TypeId) (p:String) (f:Array Edge) (i g n:Nat) (l:List UInt8) (hn:l.length=n) (hc:X.heap[g]?=some (.cells (cellsU l) 5 (0,0))) (he:a.eval (.tmp i)=.slice (some ⟨g,0,none⟩) n n):(execOp a.eval { dst:=some d,op:=.convert 59 9 (.tmp i),type:=t,pos:=p,after:=f,guard:=none }).run Tryz.prog X=.ok (.value (.string ⟨l.toArray⟩)) X:=by
  have h:=text_in l n hn g hc (Below.refl X.heap.size X)
  simp only [execOp,he,Sem.run_bind,h,Result.andThen_ok,Sem.run_pure]
theorem rt_b1 (X:World) (a:Act) (d:Nat) (t:TypeId) (p:String) (f:Array Edge):(execOp a.eval { dst:=some d,op:=.buildSlice 59 1 #[(0,.const (.int .u8 0))],type:=t,pos:=p,after:=f,guard:=none }).run Tryz.prog X=.ok (.value (.slice (some ⟨X.heap.size,0,none⟩) 1 1)) (X.alloc (.cells (cellsU [0]) 5)):=by
  simp only [execOp]
  go_simp
  rfl
theorem rt_b3 (X:World) (a:Act) (d:Nat) (t:TypeId) (p:String) (f:Array Edge) (i j x y:Nat) (hi:a.eval (.tmp i)=.int .u8 (x.toUInt8.toNat:Int)) (hj:a.eval (.tmp j)=.int .u8 (y.toUInt8.toNat:Int)):(execOp a.eval { dst:=some d,op:=.buildSlice 59 3 #[(0,.const (.int .u8 1)),(1,.tmp i),(2,.tmp j)],type:=t,pos:=p,after:=f,guard:=none }).run Tryz.prog X=.ok (.value (.slice (some ⟨X.heap.size,0,none⟩) 3 3)) (X.alloc (.cells (cellsU [1,x.toUInt8,y.toUInt8]) 5)):=by
  have hi':a.tmps[i]?.getD undef=.int .u8 (x.toUInt8.toNat:Int):=by simpa [Act.eval] using hi
  have hj':a.tmps[j]?.getD undef=.int .u8 (y.toUInt8.toNat:Int):=by simpa [Act.eval] using hj
  clear hi hj
  generalize x.toUInt8=x8 at *
  generalize y.toUInt8=y8 at *
  simp only [execOp]
  go_simp
  rfl
theorem rt_sh (X:World) (a:Act) (d:Nat) (t:TypeId) (p:String) (f:Array Edge) (i n:Nat) (he:a.eval (.tmp i)=.int .i64 (n:Int)):(execOp a.eval { dst:=some d,op:=.binOp .shr 3 (.tmp i) (.const (.int .u64 8)) 158,type:=t,pos:=p,after:=f,guard:=none }).run Tryz.prog X=.ok (.value (.int .i64 ((n / 256:Nat):Int))) X:=by
  simp only [execOp,he]
  go_simp
theorem rt_c8 (X:World) (a:Act) (d:Nat) (t:TypeId) (p:String) (f:Array Edge) (i n:Nat) (he:a.eval (.tmp i)=.int .i64 (n:Int)):(execOp a.eval { dst:=some d,op:=.convert 3 5 (.tmp i),type:=t,pos:=p,after:=f,guard:=none }).run Tryz.prog X=.ok (.value (.int .u8 (n.toUInt8.toNat:Int))) X:=by
  have e1:IntKind.u8.wrap ((n:Nat):Int)=(n.toUInt8.toNat:Int):=by
    have:n.toUInt8.toNat=n % 256:=rfl
    rw [IntKind.wrap_u8',this];omega
  simp only [execOp,he]
  go_simp
def WregI (wc:World) (k v:ByteArray) (L:Nat→Bool) (a:Act) (X:World):Prop:=
  Below wc.heap.size wc X ∧
  (L 0=true→a.eval (.tmp 5)=.string k) ∧
  (L 1=true→a.eval (.tmp 6)=.string (keyedB k)) ∧
  (L 2=true→∃ g,a.eval (.tmp 7)=.slice (some ⟨g,0,none⟩) 1 1∧g<X.heap.size∧X.heap[g]?=some (.cells (cellsU [0]) 5 (0,0))) ∧
  (L 3=true→a.eval (.tmp 8)=.string ⟨#[0]⟩) ∧
  (L 4=true→a.eval (.tmp 9)=.string (keyedB k ++ ⟨#[0]⟩)) ∧
  (L 5=true→a.eval (.tmp 10)=.string v) ∧
  (L 6=true→a.eval (.tmp 11)=.string (keyedB k ++ ⟨#[0]⟩ ++ v)) ∧
  (L 7=true→a.eval (.tmp 4)=.string (keyedB k ++ ⟨#[0]⟩ ++ v))
def IregI (wc:World) (k v:ByteArray) (a0:Act) (L:Nat→Bool) (a:Act) (X:World):Prop:=Fr [5,6,7,8,9,10,11,4] a0 a∧WregI wc k v L a X
set_option maxHeartbeats 4000000 in
theorem regI {Q:Exit→Act→World→Prop} {ops:Array Oper} {id:Nat} {a0:Act} {wc:World} (k v:ByteArray) (hk:k.size≤200) (hv:v.size≤3000)
    (hsz:11<a0.tmps.size) (e0:a0.eval (.tmp 0)=.string k) (e1:a0.eval (.tmp 1)=.string v)
    {t0 t1 t2 t3 t4 t5 t6 t7:TypeId} {p0 p1 p2 p3 p4 p5 p6 p7:String} {f0 f1 f2 f3 f4 f5 f6 f7:Array Edge}
    (hops:ops=#[⟨some 5,.move (.tmp 0),t0,p0,f0,none⟩,⟨some 6,.call { callee:=.value (.func 182),args:=#[.tmp 5],argTypes:=#[9] },t1,p1,f1,none⟩,⟨some 7,.buildSlice 59 1 #[(0,.const (.int .u8 0))],t2,p2,f2,none⟩,⟨some 8,.convert 59 9 (.tmp 7),t3,p3,f3,none⟩,⟨some 9,.binOp .add 9 (.tmp 6) (.tmp 8) 9,t4,p4,f4,none⟩,⟨some 10,.move (.tmp 1),t5,p5,f5,none⟩,⟨some 11,.binOp .add 9 (.tmp 9) (.tmp 10) 9,t6,p6,f6,none⟩,⟨some 4,.assign (.tmp 11),t7,p7,f7,none⟩])
    (hb:backB ops=true) (d1:depB f1 [0]=true) (d3:depB f3 [2]=true) (d4:depB f4 [1,3]=true) (d6:depB f6 [4,5]=true) (d7:depB f7 [6]=true) (hm:Tryz.prog.follows .mixedOrders=true)
    (hQ:∀ (u5 u6 u7 u8 u9 u10 u11:Value) X,Below wc.heap.size wc X→Q .normal ⟨sets [(5,u5),(6,u6),(7,u7),(8,u8),(9,u9),(10,u10),(11,u11),(4,.string (keyedB k ++ ⟨#[0]⟩ ++ v))] a0.tmps,a0.defers⟩ X) :
    (Code.region id ops true).wp Tryz.prog Q a0 wc:=by
  refine wp_region_inv hm (IregI wc k v) (backB_spec hb) ?_ ?_ ?_
  · refine ⟨Fr.refl _ _,(Below.refl _ _).drew,?_⟩
    refine ⟨?_,?_,?_,?_,?_,?_,?_,?_⟩ <;> intro h <;> exact absurd h (by decide)
  · intro L a X hI q o ho hL hd
    obtain ⟨hF,hB,g0,g1,g2,g3,g4,g5,g6,g7⟩:=hI
    have hs:a.tmps.size=a0.tmps.size:=hF.2.1
    have E0:a.eval (.tmp 0)=.string k:=by rw [hF.eval (by decide),e0]
    have E1:a.eval (.tmp 1)=.string v:=by rw [hF.eval (by decide),e1]
    subst hops
    obtain _ | _ | _ | _ | _ | _ | _ | _ | q:=q
    · cases ho
      refine wpOp_value rfl rfl (rt_mv X a 5 _ _ _ 0 E0) ?_
      show IregI _ _ _ a0 (upd L 0) (a.put (some 5) _) _
      exact ⟨hF.put (by decide) _,hB,(fun _=>eval_put_same (by omega) _),(fun h=>by rw [eval_put_ne (by decide)];exact g1 h),(fun h=>by obtain ⟨g,e,z,r⟩:=g2 h;exact ⟨g,by rw [eval_put_ne (by decide)];exact e,z,r⟩),(fun h=>by rw [eval_put_ne (by decide)];exact g3 h),(fun h=>by rw [eval_put_ne (by decide)];exact g4 h),(fun h=>by rw [eval_put_ne (by decide)];exact g5 h),(fun h=>by rw [eval_put_ne (by decide)];exact g6 h),(fun h=>by rw [eval_put_ne (by decide)];exact g7 h)⟩
    · cases ho
      have hdj:=depB_spec d1 hd
      refine wpOp_call (R:=fun u X'=>u=.string (keyedB k)∧Below X.heap.size X X') rfl rfl (rt_cK X a 6 _ _ _ 5 (g0 (hdj 0 (by decide)))) ((ckeyed k X hk).mono fun e X' h=>⟨_,h.1,rfl,h.2⟩) ?_
      rintro u X' ⟨rfl,hb'⟩
      show IregI _ _ _ a0 (upd L 1) (a.put (some 6) _) _
      exact ⟨hF.put (by decide) _,keepBelow hB hb',(fun h=>by rw [eval_put_ne (by decide)];exact g0 h),(fun _=>eval_put_same (by omega) _),(fun h=>by obtain ⟨g,e,z,r⟩:=g2 h;exact ⟨g,by rw [eval_put_ne (by decide)];exact e,keepSize hb' z,(hb'.block g z).trans r⟩),(fun h=>by rw [eval_put_ne (by decide)];exact g3 h),(fun h=>by rw [eval_put_ne (by decide)];exact g4 h),(fun h=>by rw [eval_put_ne (by decide)];exact g5 h),(fun h=>by rw [eval_put_ne (by decide)];exact g6 h),(fun h=>by rw [eval_put_ne (by decide)];exact g7 h)⟩
    · cases ho
      have hb':Below X.heap.size X (X.alloc (.cells (cellsU [0]) 5)):=(Below.refl _ _).alloc (Nat.le_refl _) _
      refine wpOp_value rfl rfl (rt_b1 X a 7 _ _ _) ?_
      show IregI _ _ _ a0 (upd L 2) (a.put (some 7) _) _
      exact ⟨hF.put (by decide) _,keepBelow hB hb',(fun h=>by rw [eval_put_ne (by decide)];exact g0 h),(fun h=>by rw [eval_put_ne (by decide)];exact g1 h),(fun _=>⟨X.heap.size,eval_put_same (by omega) _,by simp,World.alloc_heap_new X _⟩),(fun h=>by rw [eval_put_ne (by decide)];exact g3 h),(fun h=>by rw [eval_put_ne (by decide)];exact g4 h),(fun h=>by rw [eval_put_ne (by decide)];exact g5 h),(fun h=>by rw [eval_put_ne (by decide)];exact g6 h),(fun h=>by rw [eval_put_ne (by decide)];exact g7 h)⟩
    · cases ho
      have hdj:=depB_spec d3 hd
      obtain ⟨g,xg,zg,r0⟩:=g2 (hdj 2 (by decide))
      refine wpOp_value rfl rfl (rt_cv X a 8 _ _ _ 7 g 1 [0] rfl r0 xg) ?_
      show IregI _ _ _ a0 (upd L 3) (a.put (some 8) _) _
      exact ⟨hF.put (by decide) _,hB,(fun h=>by rw [eval_put_ne (by decide)];exact g0 h),(fun h=>by rw [eval_put_ne (by decide)];exact g1 h),(fun h=>by obtain ⟨g,e,z,r⟩:=g2 h;exact ⟨g,by rw [eval_put_ne (by decide)];exact e,z,r⟩),(fun _=>eval_put_same (by omega) _),(fun h=>by rw [eval_put_ne (by decide)];exact g4 h),(fun h=>by rw [eval_put_ne (by decide)];exact g5 h),(fun h=>by rw [eval_put_ne (by decide)];exact g6 h),(fun h=>by rw [eval_put_ne (by decide)];exact g7 h)⟩
    · cases ho
      have hdj:=depB_spec d4 hd
      refine wpOp_value rfl rfl (rt_add X a 9 _ _ _ 6 8 _ _ (by rw [keyedB_sz];show _+1≤_;omega) (g1 (hdj 1 (by decide))) (g3 (hdj 3 (by decide)))) ?_
      show IregI _ _ _ a0 (upd L 4) (a.put (some 9) _) _
      exact ⟨hF.put (by decide) _,hB,(fun h=>by rw [eval_put_ne (by decide)];exact g0 h),(fun h=>by rw [eval_put_ne (by decide)];exact g1 h),(fun h=>by obtain ⟨g,e,z,r⟩:=g2 h;exact ⟨g,by rw [eval_put_ne (by decide)];exact e,z,r⟩),(fun h=>by rw [eval_put_ne (by decide)];exact g3 h),(fun _=>eval_put_same (by omega) _),(fun h=>by rw [eval_put_ne (by decide)];exact g5 h),(fun h=>by rw [eval_put_ne (by decide)];exact g6 h),(fun h=>by rw [eval_put_ne (by decide)];exact g7 h)⟩
    · cases ho
      refine wpOp_value rfl rfl (rt_mv X a 10 _ _ _ 1 E1) ?_
      show IregI _ _ _ a0 (upd L 5) (a.put (some 10) _) _
      exact ⟨hF.put (by decide) _,hB,(fun h=>by rw [eval_put_ne (by decide)];exact g0 h),(fun h=>by rw [eval_put_ne (by decide)];exact g1 h),(fun h=>by obtain ⟨g,e,z,r⟩:=g2 h;exact ⟨g,by rw [eval_put_ne (by decide)];exact e,z,r⟩),(fun h=>by rw [eval_put_ne (by decide)];exact g3 h),(fun h=>by rw [eval_put_ne (by decide)];exact g4 h),(fun _=>eval_put_same (by omega) _),(fun h=>by rw [eval_put_ne (by decide)];exact g6 h),(fun h=>by rw [eval_put_ne (by decide)];exact g7 h)⟩
    · cases ho
      have hdj:=depB_spec d6 hd
      refine wpOp_value rfl rfl (rt_add X a 11 _ _ _ 9 10 _ _ (by rw [ByteArray.size_append,keyedB_sz];show _+1+_≤_;omega) (g4 (hdj 4 (by decide))) (g5 (hdj 5 (by decide)))) ?_
      show IregI _ _ _ a0 (upd L 6) (a.put (some 11) _) _
      exact ⟨hF.put (by decide) _,hB,(fun h=>by rw [eval_put_ne (by decide)];exact g0 h),(fun h=>by rw [eval_put_ne (by decide)];exact g1 h),(fun h=>by obtain ⟨g,e,z,r⟩:=g2 h;exact ⟨g,by rw [eval_put_ne (by decide)];exact e,z,r⟩),(fun h=>by rw [eval_put_ne (by decide)];exact g3 h),(fun h=>by rw [eval_put_ne (by decide)];exact g4 h),(fun h=>by rw [eval_put_ne (by decide)];exact g5 h),(fun _=>eval_put_same (by omega) _),(fun h=>by rw [eval_put_ne (by decide)];exact g7 h)⟩
    · cases ho
      have hdj:=depB_spec d7 hd
      refine wpOp_value rfl rfl (rt_as X a 4 _ _ _ 11 (g6 (hdj 6 (by decide)))) ?_
      show IregI _ _ _ a0 (upd L 7) (a.put (some 4) _) _
      exact ⟨hF.put (by decide) _,hB,(fun h=>by rw [eval_put_ne (by decide)];exact g0 h),(fun h=>by rw [eval_put_ne (by decide)];exact g1 h),(fun h=>by obtain ⟨g,e,z,r⟩:=g2 h;exact ⟨g,by rw [eval_put_ne (by decide)];exact e,z,r⟩),(fun h=>by rw [eval_put_ne (by decide)];exact g3 h),(fun h=>by rw [eval_put_ne (by decide)];exact g4 h),(fun h=>by rw [eval_put_ne (by decide)];exact g5 h),(fun h=>by rw [eval_put_ne (by decide)];exact g6 h),(fun _=>eval_put_same (by omega) _)⟩
    · cases ho
  · intro L a X hI hall
    subst hops
    obtain ⟨hF,hB,g0,g1,g2,g3,g4,g5,g6,g7⟩:=hI
    have hs:a.tmps.size=a0.tmps.size:=hF.2.1
    have hv:=g7 (hall 7 (by simp))
    rw [hF.eq [(5,a.eval (.tmp 5)),(6,a.eval (.tmp 6)),(7,a.eval (.tmp 7)),(8,a.eval (.tmp 8)),(9,a.eval (.tmp 9)),(10,a.eval (.tmp 10)),(11,a.eval (.tmp 11)),(4,.string (keyedB k ++ ⟨#[0]⟩ ++ v))] (by simp) (by simp [hv];omega)]
    exact hQ _ _ _ _ _ _ _ X hB
set_option maxRecDepth 20000 in
set_option maxHeartbeats 1000000 in
theorem cinline (k v:ByteArray) (w:World) (hk:k.size≤200) (hv:v.size≤3000):Calls Tryz.prog 153 #[.string k,.string v] w fun e w'=>e=.returned (.string (inlineB k v))∧Below w.heap.size w w':=by
  go_enter Tryz.func153,Tryz.ntmps153
  go_wp2_with fail
  refine regI k v hk hv (by simp) rfl rfl rfl (by kernel_rfl) (by kernel_rfl) (by kernel_rfl) (by kernel_rfl) (by kernel_rfl) (by kernel_rfl) (by kernel_rfl) ?_
  intro u5 u6 u7 u8 u9 u10 u11 X hX
  have HX:=hide (hX)
  have HI:=hide (show keyedB k ++ ⟨#[0]⟩ ++ v=inlineB k v from rfl)
  rw [HI.out]
  clear hX
  simp only [sets,List.setIfInBounds_toArray,List.set_cons_zero,List.set_cons_succ]
  go_wp2
  go_ret
  exact ⟨rfl,HX.out⟩
def WregL (wc:World) (k:ByteArray) (n pg:Nat) (L:Nat→Bool) (a:Act) (X:World):Prop:=
  Below wc.heap.size wc X ∧
  (L 0=true→a.eval (.tmp 7)=.string k) ∧
  (L 1=true→a.eval (.tmp 8)=.string (keyedB k)) ∧
  (L 2=true→a.eval (.tmp 9)=.int .i64 (n:Int)) ∧
  (L 3=true→a.eval (.tmp 10)=.int .i64 ((n / 256:Nat):Int)) ∧
  (L 4=true→a.eval (.tmp 11)=.int .u8 ((n / 256).toUInt8.toNat:Int)) ∧
  (L 5=true→a.eval (.tmp 12)=.int .i64 (n:Int)) ∧
  (L 6=true→a.eval (.tmp 13)=.int .u8 (n.toUInt8.toNat:Int)) ∧
  (L 7=true→∃ g,a.eval (.tmp 14)=.slice (some ⟨g,0,none⟩) 3 3∧g<X.heap.size∧X.heap[g]?=some (.cells (cellsU [1,(n / 256).toUInt8,n.toUInt8]) 5 (0,0))) ∧
  (L 8=true→a.eval (.tmp 15)=.string ⟨#[1,(n / 256).toUInt8,n.toUInt8]⟩) ∧
  (L 9=true→a.eval (.tmp 16)=.string (keyedB k ++ ⟨#[1,(n / 256).toUInt8,n.toUInt8]⟩)) ∧
  (L 10=true→a.eval (.tmp 17)=.int .i64 (pg:Int)) ∧
  (L 11=true→a.eval (.tmp 18)=.string (fourB pg)) ∧
  (L 12=true→a.eval (.tmp 19)=.string (keyedB k ++ ⟨#[1,(n / 256).toUInt8,n.toUInt8]⟩ ++ fourB pg)) ∧
  (L 13=true→a.eval (.tmp 6)=.string (keyedB k ++ ⟨#[1,(n / 256).toUInt8,n.toUInt8]⟩ ++ fourB pg))
def IregL (wc:World) (k:ByteArray) (n pg:Nat) (a0:Act) (L:Nat→Bool) (a:Act) (X:World):Prop:=Fr [7,8,9,10,11,12,13,14,15,16,17,18,19,6] a0 a∧WregL wc k n pg L a X
set_option maxHeartbeats 4000000 in
theorem regL {Q:Exit→Act→World→Prop} {ops:Array Oper} {id:Nat} {a0:Act} {wc:World} (k:ByteArray) (n pg:Nat) (hk:k.size≤200)
    (hsz:19<a0.tmps.size) (e0:a0.eval (.tmp 0)=.string k) (e1:a0.eval (.tmp 1)=.int .i64 (n:Int)) (e2:a0.eval (.tmp 2)=.int .i64 (pg:Int))
    {t0 t1 t2 t3 t4 t5 t6 t7 t8 t9 t10 t11 t12 t13:TypeId} {p0 p1 p2 p3 p4 p5 p6 p7 p8 p9 p10 p11 p12 p13:String} {f0 f1 f2 f3 f4 f5 f6 f7 f8 f9 f10 f11 f12 f13:Array Edge}
    (hops:ops=#[⟨some 7,.move (.tmp 0),t0,p0,f0,none⟩,⟨some 8,.call { callee:=.value (.func 182),args:=#[.tmp 7],argTypes:=#[9] },t1,p1,f1,none⟩,⟨some 9,.move (.tmp 1),t2,p2,f2,none⟩,⟨some 10,.binOp .shr 3 (.tmp 9) (.const (.int .u64 8)) 158,t3,p3,f3,none⟩,⟨some 11,.convert 3 5 (.tmp 10),t4,p4,f4,none⟩,⟨some 12,.move (.tmp 1),t5,p5,f5,none⟩,⟨some 13,.convert 3 5 (.tmp 12),t6,p6,f6,none⟩,⟨some 14,.buildSlice 59 3 #[(0,.const (.int .u8 1)),(1,.tmp 11),(2,.tmp 13)],t7,p7,f7,none⟩,⟨some 15,.convert 59 9 (.tmp 14),t8,p8,f8,none⟩,⟨some 16,.binOp .add 9 (.tmp 8) (.tmp 15) 9,t9,p9,f9,none⟩,⟨some 17,.move (.tmp 2),t10,p10,f10,none⟩,⟨some 18,.call { callee:=.value (.func 183),args:=#[.tmp 17],argTypes:=#[3] },t11,p11,f11,none⟩,⟨some 19,.binOp .add 9 (.tmp 16) (.tmp 18) 9,t12,p12,f12,none⟩,⟨some 6,.assign (.tmp 19),t13,p13,f13,none⟩])
    (hb:backB ops=true) (d1:depB f1 [0]=true) (d3:depB f3 [2]=true) (d4:depB f4 [3]=true) (d6:depB f6 [5]=true) (d7:depB f7 [4,6]=true) (d8:depB f8 [7]=true) (d9:depB f9 [1,8]=true) (d11:depB f11 [10]=true) (d12:depB f12 [9,11]=true) (d13:depB f13 [12]=true) (hm:Tryz.prog.follows .mixedOrders=true)
    (hQ:∀ (u7 u8 u9 u10 u11 u12 u13 u14 u15 u16 u17 u18 u19:Value) X,Below wc.heap.size wc X→Q .normal ⟨sets [(7,u7),(8,u8),(9,u9),(10,u10),(11,u11),(12,u12),(13,u13),(14,u14),(15,u15),(16,u16),(17,u17),(18,u18),(19,u19),(6,.string (keyedB k ++ ⟨#[1,(n / 256).toUInt8,n.toUInt8]⟩ ++ fourB pg))] a0.tmps,a0.defers⟩ X) :
    (Code.region id ops true).wp Tryz.prog Q a0 wc:=by
  refine wp_region_inv hm (IregL wc k n pg) (backB_spec hb) ?_ ?_ ?_
  · refine ⟨Fr.refl _ _,(Below.refl _ _).drew,?_⟩
    refine ⟨?_,?_,?_,?_,?_,?_,?_,?_,?_,?_,?_,?_,?_,?_⟩ <;> intro h <;> exact absurd h (by decide)
  · intro L a X hI q o ho hL hd
    obtain ⟨hF,hB,g0,g1,g2,g3,g4,g5,g6,g7,g8,g9,g10,g11,g12,g13⟩:=hI
    have hs:a.tmps.size=a0.tmps.size:=hF.2.1
    have E0:a.eval (.tmp 0)=.string k:=by rw [hF.eval (by decide),e0]
    have E1:a.eval (.tmp 1)=.int .i64 (n:Int):=by rw [hF.eval (by decide),e1]
    have E2:a.eval (.tmp 2)=.int .i64 (pg:Int):=by rw [hF.eval (by decide),e2]
    subst hops
    obtain _ | _ | _ | _ | _ | _ | _ | _ | _ | _ | _ | _ | _ | _ | q:=q
    · cases ho
      refine wpOp_value rfl rfl (rt_mv X a 7 _ _ _ 0 E0) ?_
      show IregL _ _ _ _ a0 (upd L 0) (a.put (some 7) _) _
      exact ⟨hF.put (by decide) _,hB,(fun _=>eval_put_same (by omega) _),(fun h=>by rw [eval_put_ne (by decide)];exact g1 h),(fun h=>by rw [eval_put_ne (by decide)];exact g2 h),(fun h=>by rw [eval_put_ne (by decide)];exact g3 h),(fun h=>by rw [eval_put_ne (by decide)];exact g4 h),(fun h=>by rw [eval_put_ne (by decide)];exact g5 h),(fun h=>by rw [eval_put_ne (by decide)];exact g6 h),(fun h=>by obtain ⟨g,e,z,r⟩:=g7 h;exact ⟨g,by rw [eval_put_ne (by decide)];exact e,z,r⟩),(fun h=>by rw [eval_put_ne (by decide)];exact g8 h),(fun h=>by rw [eval_put_ne (by decide)];exact g9 h),(fun h=>by rw [eval_put_ne (by decide)];exact g10 h),(fun h=>by rw [eval_put_ne (by decide)];exact g11 h),(fun h=>by rw [eval_put_ne (by decide)];exact g12 h),(fun h=>by rw [eval_put_ne (by decide)];exact g13 h)⟩
    · cases ho
      have hdj:=depB_spec d1 hd
      refine wpOp_call (R:=fun u X'=>u=.string (keyedB k)∧Below X.heap.size X X') rfl rfl (rt_cK X a 8 _ _ _ 7 (g0 (hdj 0 (by decide)))) ((ckeyed k X hk).mono fun e X' h=>⟨_,h.1,rfl,h.2⟩) ?_
      rintro u X' ⟨rfl,hb'⟩
      show IregL _ _ _ _ a0 (upd L 1) (a.put (some 8) _) _
      exact ⟨hF.put (by decide) _,keepBelow hB hb',(fun h=>by rw [eval_put_ne (by decide)];exact g0 h),(fun _=>eval_put_same (by omega) _),(fun h=>by rw [eval_put_ne (by decide)];exact g2 h),(fun h=>by rw [eval_put_ne (by decide)];exact g3 h),(fun h=>by rw [eval_put_ne (by decide)];exact g4 h),(fun h=>by rw [eval_put_ne (by decide)];exact g5 h),(fun h=>by rw [eval_put_ne (by decide)];exact g6 h),(fun h=>by obtain ⟨g,e,z,r⟩:=g7 h;exact ⟨g,by rw [eval_put_ne (by decide)];exact e,keepSize hb' z,(hb'.block g z).trans r⟩),(fun h=>by rw [eval_put_ne (by decide)];exact g8 h),(fun h=>by rw [eval_put_ne (by decide)];exact g9 h),(fun h=>by rw [eval_put_ne (by decide)];exact g10 h),(fun h=>by rw [eval_put_ne (by decide)];exact g11 h),(fun h=>by rw [eval_put_ne (by decide)];exact g12 h),(fun h=>by rw [eval_put_ne (by decide)];exact g13 h)⟩
    · cases ho
      refine wpOp_value rfl rfl (rt_mv X a 9 _ _ _ 1 E1) ?_
      show IregL _ _ _ _ a0 (upd L 2) (a.put (some 9) _) _
      exact ⟨hF.put (by decide) _,hB,(fun h=>by rw [eval_put_ne (by decide)];exact g0 h),(fun h=>by rw [eval_put_ne (by decide)];exact g1 h),(fun _=>eval_put_same (by omega) _),(fun h=>by rw [eval_put_ne (by decide)];exact g3 h),(fun h=>by rw [eval_put_ne (by decide)];exact g4 h),(fun h=>by rw [eval_put_ne (by decide)];exact g5 h),(fun h=>by rw [eval_put_ne (by decide)];exact g6 h),(fun h=>by obtain ⟨g,e,z,r⟩:=g7 h;exact ⟨g,by rw [eval_put_ne (by decide)];exact e,z,r⟩),(fun h=>by rw [eval_put_ne (by decide)];exact g8 h),(fun h=>by rw [eval_put_ne (by decide)];exact g9 h),(fun h=>by rw [eval_put_ne (by decide)];exact g10 h),(fun h=>by rw [eval_put_ne (by decide)];exact g11 h),(fun h=>by rw [eval_put_ne (by decide)];exact g12 h),(fun h=>by rw [eval_put_ne (by decide)];exact g13 h)⟩
    · cases ho
      have hdj:=depB_spec d3 hd
      refine wpOp_value rfl rfl (rt_sh X a 10 _ _ _ 9 n (g2 (hdj 2 (by decide)))) ?_
      show IregL _ _ _ _ a0 (upd L 3) (a.put (some 10) _) _
      exact ⟨hF.put (by decide) _,hB,(fun h=>by rw [eval_put_ne (by decide)];exact g0 h),(fun h=>by rw [eval_put_ne (by decide)];exact g1 h),(fun h=>by rw [eval_put_ne (by decide)];exact g2 h),(fun _=>eval_put_same (by omega) _),(fun h=>by rw [eval_put_ne (by decide)];exact g4 h),(fun h=>by rw [eval_put_ne (by decide)];exact g5 h),(fun h=>by rw [eval_put_ne (by decide)];exact g6 h),(fun h=>by obtain ⟨g,e,z,r⟩:=g7 h;exact ⟨g,by rw [eval_put_ne (by decide)];exact e,z,r⟩),(fun h=>by rw [eval_put_ne (by decide)];exact g8 h),(fun h=>by rw [eval_put_ne (by decide)];exact g9 h),(fun h=>by rw [eval_put_ne (by decide)];exact g10 h),(fun h=>by rw [eval_put_ne (by decide)];exact g11 h),(fun h=>by rw [eval_put_ne (by decide)];exact g12 h),(fun h=>by rw [eval_put_ne (by decide)];exact g13 h)⟩
    · cases ho
      have hdj:=depB_spec d4 hd
      refine wpOp_value rfl rfl (rt_c8 X a 11 _ _ _ 10 (n / 256) (g3 (hdj 3 (by decide)))) ?_
      show IregL _ _ _ _ a0 (upd L 4) (a.put (some 11) _) _
      exact ⟨hF.put (by decide) _,hB,(fun h=>by rw [eval_put_ne (by decide)];exact g0 h),(fun h=>by rw [eval_put_ne (by decide)];exact g1 h),(fun h=>by rw [eval_put_ne (by decide)];exact g2 h),(fun h=>by rw [eval_put_ne (by decide)];exact g3 h),(fun _=>eval_put_same (by omega) _),(fun h=>by rw [eval_put_ne (by decide)];exact g5 h),(fun h=>by rw [eval_put_ne (by decide)];exact g6 h),(fun h=>by obtain ⟨g,e,z,r⟩:=g7 h;exact ⟨g,by rw [eval_put_ne (by decide)];exact e,z,r⟩),(fun h=>by rw [eval_put_ne (by decide)];exact g8 h),(fun h=>by rw [eval_put_ne (by decide)];exact g9 h),(fun h=>by rw [eval_put_ne (by decide)];exact g10 h),(fun h=>by rw [eval_put_ne (by decide)];exact g11 h),(fun h=>by rw [eval_put_ne (by decide)];exact g12 h),(fun h=>by rw [eval_put_ne (by decide)];exact g13 h)⟩
    · cases ho
      refine wpOp_value rfl rfl (rt_mv X a 12 _ _ _ 1 E1) ?_
      show IregL _ _ _ _ a0 (upd L 5) (a.put (some 12) _) _
      exact ⟨hF.put (by decide) _,hB,(fun h=>by rw [eval_put_ne (by decide)];exact g0 h),(fun h=>by rw [eval_put_ne (by decide)];exact g1 h),(fun h=>by rw [eval_put_ne (by decide)];exact g2 h),(fun h=>by rw [eval_put_ne (by decide)];exact g3 h),(fun h=>by rw [eval_put_ne (by decide)];exact g4 h),(fun _=>eval_put_same (by omega) _),(fun h=>by rw [eval_put_ne (by decide)];exact g6 h),(fun h=>by obtain ⟨g,e,z,r⟩:=g7 h;exact ⟨g,by rw [eval_put_ne (by decide)];exact e,z,r⟩),(fun h=>by rw [eval_put_ne (by decide)];exact g8 h),(fun h=>by rw [eval_put_ne (by decide)];exact g9 h),(fun h=>by rw [eval_put_ne (by decide)];exact g10 h),(fun h=>by rw [eval_put_ne (by decide)];exact g11 h),(fun h=>by rw [eval_put_ne (by decide)];exact g12 h),(fun h=>by rw [eval_put_ne (by decide)];exact g13 h)⟩
    · cases ho
      have hdj:=depB_spec d6 hd
      refine wpOp_value rfl rfl (rt_c8 X a 13 _ _ _ 12 n (g5 (hdj 5 (by decide)))) ?_
      show IregL _ _ _ _ a0 (upd L 6) (a.put (some 13) _) _
      exact ⟨hF.put (by decide) _,hB,(fun h=>by rw [eval_put_ne (by decide)];exact g0 h),(fun h=>by rw [eval_put_ne (by decide)];exact g1 h),(fun h=>by rw [eval_put_ne (by decide)];exact g2 h),(fun h=>by rw [eval_put_ne (by decide)];exact g3 h),(fun h=>by rw [eval_put_ne (by decide)];exact g4 h),(fun h=>by rw [eval_put_ne (by decide)];exact g5 h),(fun _=>eval_put_same (by omega) _),(fun h=>by obtain ⟨g,e,z,r⟩:=g7 h;exact ⟨g,by rw [eval_put_ne (by decide)];exact e,z,r⟩),(fun h=>by rw [eval_put_ne (by decide)];exact g8 h),(fun h=>by rw [eval_put_ne (by decide)];exact g9 h),(fun h=>by rw [eval_put_ne (by decide)];exact g10 h),(fun h=>by rw [eval_put_ne (by decide)];exact g11 h),(fun h=>by rw [eval_put_ne (by decide)];exact g12 h),(fun h=>by rw [eval_put_ne (by decide)];exact g13 h)⟩
    · cases ho
      have hdj:=depB_spec d7 hd
      have hb':Below X.heap.size X (X.alloc (.cells (cellsU [1,(n / 256).toUInt8,n.toUInt8]) 5)):=(Below.refl _ _).alloc (Nat.le_refl _) _
      refine wpOp_value rfl rfl (rt_b3 X a 14 _ _ _ 11 13 (n / 256) n (g4 (hdj 4 (by decide))) (g6 (hdj 6 (by decide)))) ?_
      show IregL _ _ _ _ a0 (upd L 7) (a.put (some 14) _) _
      exact ⟨hF.put (by decide) _,keepBelow hB hb',(fun h=>by rw [eval_put_ne (by decide)];exact g0 h),(fun h=>by rw [eval_put_ne (by decide)];exact g1 h),(fun h=>by rw [eval_put_ne (by decide)];exact g2 h),(fun h=>by rw [eval_put_ne (by decide)];exact g3 h),(fun h=>by rw [eval_put_ne (by decide)];exact g4 h),(fun h=>by rw [eval_put_ne (by decide)];exact g5 h),(fun h=>by rw [eval_put_ne (by decide)];exact g6 h),(fun _=>⟨X.heap.size,eval_put_same (by omega) _,by simp,World.alloc_heap_new X _⟩),(fun h=>by rw [eval_put_ne (by decide)];exact g8 h),(fun h=>by rw [eval_put_ne (by decide)];exact g9 h),(fun h=>by rw [eval_put_ne (by decide)];exact g10 h),(fun h=>by rw [eval_put_ne (by decide)];exact g11 h),(fun h=>by rw [eval_put_ne (by decide)];exact g12 h),(fun h=>by rw [eval_put_ne (by decide)];exact g13 h)⟩
    · cases ho
      have hdj:=depB_spec d8 hd
      obtain ⟨g,xg,zg,r0⟩:=g7 (hdj 7 (by decide))
      refine wpOp_value rfl rfl (rt_cv X a 15 _ _ _ 14 g 3 [1,(n / 256).toUInt8,n.toUInt8] rfl r0 xg) ?_
      show IregL _ _ _ _ a0 (upd L 8) (a.put (some 15) _) _
      exact ⟨hF.put (by decide) _,hB,(fun h=>by rw [eval_put_ne (by decide)];exact g0 h),(fun h=>by rw [eval_put_ne (by decide)];exact g1 h),(fun h=>by rw [eval_put_ne (by decide)];exact g2 h),(fun h=>by rw [eval_put_ne (by decide)];exact g3 h),(fun h=>by rw [eval_put_ne (by decide)];exact g4 h),(fun h=>by rw [eval_put_ne (by decide)];exact g5 h),(fun h=>by rw [eval_put_ne (by decide)];exact g6 h),(fun h=>by obtain ⟨g,e,z,r⟩:=g7 h;exact ⟨g,by rw [eval_put_ne (by decide)];exact e,z,r⟩),(fun _=>eval_put_same (by omega) _),(fun h=>by rw [eval_put_ne (by decide)];exact g9 h),(fun h=>by rw [eval_put_ne (by decide)];exact g10 h),(fun h=>by rw [eval_put_ne (by decide)];exact g11 h),(fun h=>by rw [eval_put_ne (by decide)];exact g12 h),(fun h=>by rw [eval_put_ne (by decide)];exact g13 h)⟩
    · cases ho
      have hdj:=depB_spec d9 hd
      refine wpOp_value rfl rfl (rt_add X a 16 _ _ _ 8 15 _ _ (by rw [keyedB_sz];show _+3≤_;omega) (g1 (hdj 1 (by decide))) (g8 (hdj 8 (by decide)))) ?_
      show IregL _ _ _ _ a0 (upd L 9) (a.put (some 16) _) _
      exact ⟨hF.put (by decide) _,hB,(fun h=>by rw [eval_put_ne (by decide)];exact g0 h),(fun h=>by rw [eval_put_ne (by decide)];exact g1 h),(fun h=>by rw [eval_put_ne (by decide)];exact g2 h),(fun h=>by rw [eval_put_ne (by decide)];exact g3 h),(fun h=>by rw [eval_put_ne (by decide)];exact g4 h),(fun h=>by rw [eval_put_ne (by decide)];exact g5 h),(fun h=>by rw [eval_put_ne (by decide)];exact g6 h),(fun h=>by obtain ⟨g,e,z,r⟩:=g7 h;exact ⟨g,by rw [eval_put_ne (by decide)];exact e,z,r⟩),(fun h=>by rw [eval_put_ne (by decide)];exact g8 h),(fun _=>eval_put_same (by omega) _),(fun h=>by rw [eval_put_ne (by decide)];exact g10 h),(fun h=>by rw [eval_put_ne (by decide)];exact g11 h),(fun h=>by rw [eval_put_ne (by decide)];exact g12 h),(fun h=>by rw [eval_put_ne (by decide)];exact g13 h)⟩
    · cases ho
      refine wpOp_value rfl rfl (rt_mv X a 17 _ _ _ 2 E2) ?_
      show IregL _ _ _ _ a0 (upd L 10) (a.put (some 17) _) _
      exact ⟨hF.put (by decide) _,hB,(fun h=>by rw [eval_put_ne (by decide)];exact g0 h),(fun h=>by rw [eval_put_ne (by decide)];exact g1 h),(fun h=>by rw [eval_put_ne (by decide)];exact g2 h),(fun h=>by rw [eval_put_ne (by decide)];exact g3 h),(fun h=>by rw [eval_put_ne (by decide)];exact g4 h),(fun h=>by rw [eval_put_ne (by decide)];exact g5 h),(fun h=>by rw [eval_put_ne (by decide)];exact g6 h),(fun h=>by obtain ⟨g,e,z,r⟩:=g7 h;exact ⟨g,by rw [eval_put_ne (by decide)];exact e,z,r⟩),(fun h=>by rw [eval_put_ne (by decide)];exact g8 h),(fun h=>by rw [eval_put_ne (by decide)];exact g9 h),(fun _=>eval_put_same (by omega) _),(fun h=>by rw [eval_put_ne (by decide)];exact g11 h),(fun h=>by rw [eval_put_ne (by decide)];exact g12 h),(fun h=>by rw [eval_put_ne (by decide)];exact g13 h)⟩
    · cases ho
      have hdj:=depB_spec d11 hd
      refine wpOp_call (R:=fun u X'=>u=.string (fourB pg)∧Below X.heap.size X X') rfl rfl (rt_cF X a 18 _ _ _ 17 (g10 (hdj 10 (by decide)))) ((cfourT pg X).mono fun e X' h=>⟨_,h.1,rfl,h.2⟩) ?_
      rintro u X' ⟨rfl,hb'⟩
      show IregL _ _ _ _ a0 (upd L 11) (a.put (some 18) _) _
      exact ⟨hF.put (by decide) _,keepBelow hB hb',(fun h=>by rw [eval_put_ne (by decide)];exact g0 h),(fun h=>by rw [eval_put_ne (by decide)];exact g1 h),(fun h=>by rw [eval_put_ne (by decide)];exact g2 h),(fun h=>by rw [eval_put_ne (by decide)];exact g3 h),(fun h=>by rw [eval_put_ne (by decide)];exact g4 h),(fun h=>by rw [eval_put_ne (by decide)];exact g5 h),(fun h=>by rw [eval_put_ne (by decide)];exact g6 h),(fun h=>by obtain ⟨g,e,z,r⟩:=g7 h;exact ⟨g,by rw [eval_put_ne (by decide)];exact e,keepSize hb' z,(hb'.block g z).trans r⟩),(fun h=>by rw [eval_put_ne (by decide)];exact g8 h),(fun h=>by rw [eval_put_ne (by decide)];exact g9 h),(fun h=>by rw [eval_put_ne (by decide)];exact g10 h),(fun _=>eval_put_same (by omega) _),(fun h=>by rw [eval_put_ne (by decide)];exact g12 h),(fun h=>by rw [eval_put_ne (by decide)];exact g13 h)⟩
    · cases ho
      have hdj:=depB_spec d12 hd
      refine wpOp_value rfl rfl (rt_add X a 19 _ _ _ 16 18 _ _ (by rw [ByteArray.size_append,keyedB_sz,fourB_sz];show _+3+4≤_;omega) (g9 (hdj 9 (by decide))) (g11 (hdj 11 (by decide)))) ?_
      show IregL _ _ _ _ a0 (upd L 12) (a.put (some 19) _) _
      exact ⟨hF.put (by decide) _,hB,(fun h=>by rw [eval_put_ne (by decide)];exact g0 h),(fun h=>by rw [eval_put_ne (by decide)];exact g1 h),(fun h=>by rw [eval_put_ne (by decide)];exact g2 h),(fun h=>by rw [eval_put_ne (by decide)];exact g3 h),(fun h=>by rw [eval_put_ne (by decide)];exact g4 h),(fun h=>by rw [eval_put_ne (by decide)];exact g5 h),(fun h=>by rw [eval_put_ne (by decide)];exact g6 h),(fun h=>by obtain ⟨g,e,z,r⟩:=g7 h;exact ⟨g,by rw [eval_put_ne (by decide)];exact e,z,r⟩),(fun h=>by rw [eval_put_ne (by decide)];exact g8 h),(fun h=>by rw [eval_put_ne (by decide)];exact g9 h),(fun h=>by rw [eval_put_ne (by decide)];exact g10 h),(fun h=>by rw [eval_put_ne (by decide)];exact g11 h),(fun _=>eval_put_same (by omega) _),(fun h=>by rw [eval_put_ne (by decide)];exact g13 h)⟩
    · cases ho
      have hdj:=depB_spec d13 hd
      refine wpOp_value rfl rfl (rt_as X a 6 _ _ _ 19 (g12 (hdj 12 (by decide)))) ?_
      show IregL _ _ _ _ a0 (upd L 13) (a.put (some 6) _) _
      exact ⟨hF.put (by decide) _,hB,(fun h=>by rw [eval_put_ne (by decide)];exact g0 h),(fun h=>by rw [eval_put_ne (by decide)];exact g1 h),(fun h=>by rw [eval_put_ne (by decide)];exact g2 h),(fun h=>by rw [eval_put_ne (by decide)];exact g3 h),(fun h=>by rw [eval_put_ne (by decide)];exact g4 h),(fun h=>by rw [eval_put_ne (by decide)];exact g5 h),(fun h=>by rw [eval_put_ne (by decide)];exact g6 h),(fun h=>by obtain ⟨g,e,z,r⟩:=g7 h;exact ⟨g,by rw [eval_put_ne (by decide)];exact e,z,r⟩),(fun h=>by rw [eval_put_ne (by decide)];exact g8 h),(fun h=>by rw [eval_put_ne (by decide)];exact g9 h),(fun h=>by rw [eval_put_ne (by decide)];exact g10 h),(fun h=>by rw [eval_put_ne (by decide)];exact g11 h),(fun h=>by rw [eval_put_ne (by decide)];exact g12 h),(fun _=>eval_put_same (by omega) _)⟩
    · cases ho
  · intro L a X hI hall
    subst hops
    obtain ⟨hF,hB,g0,g1,g2,g3,g4,g5,g6,g7,g8,g9,g10,g11,g12,g13⟩:=hI
    have hs:a.tmps.size=a0.tmps.size:=hF.2.1
    have hv:=g13 (hall 13 (by simp))
    rw [hF.eq [(7,a.eval (.tmp 7)),(8,a.eval (.tmp 8)),(9,a.eval (.tmp 9)),(10,a.eval (.tmp 10)),(11,a.eval (.tmp 11)),(12,a.eval (.tmp 12)),(13,a.eval (.tmp 13)),(14,a.eval (.tmp 14)),(15,a.eval (.tmp 15)),(16,a.eval (.tmp 16)),(17,a.eval (.tmp 17)),(18,a.eval (.tmp 18)),(19,a.eval (.tmp 19)),(6,.string (keyedB k ++ ⟨#[1,(n / 256).toUInt8,n.toUInt8]⟩ ++ fourB pg))] (by simp) (by simp [hv];omega)]
    exact hQ _ _ _ _ _ _ _ _ _ _ _ _ _ X hB
set_option maxRecDepth 20000 in
set_option maxHeartbeats 1000000 in
theorem clong (k:ByteArray) (n q:Nat) (w:World) (hk:k.size≤200):Calls Tryz.prog 154 #[.string k,.int .i64 (n:Int),.int .i64 (q:Int)] w fun e w'=>e=.returned (.string (longB k n q))∧Below w.heap.size w w':=by
  go_enter Tryz.func154,Tryz.ntmps154
  go_wp2_with fail
  refine regL k n q hk (by simp) rfl rfl rfl rfl (by kernel_rfl) (by kernel_rfl) (by kernel_rfl) (by kernel_rfl) (by kernel_rfl) (by kernel_rfl) (by kernel_rfl) (by kernel_rfl) (by kernel_rfl) (by kernel_rfl) (by kernel_rfl) (by kernel_rfl) ?_
  intro u7 u8 u9 u10 u11 u12 u13 u14 u15 u16 u17 u18 u19 X hX
  have HX:=hide (hX)
  have HI:=hide (show keyedB k ++ ⟨#[1,(n / 256).toUInt8,n.toUInt8]⟩ ++ fourB q=longB k n q from rfl)
  rw [HI.out]
  clear hX
  simp only [sets,List.setIfInBounds_toArray,List.set_cons_zero,List.set_cons_succ]
  go_wp2
  go_ret
  exact ⟨rfl,HX.out⟩
end Go.Proofs.YtmgjdjjfeapcdaaGreat
