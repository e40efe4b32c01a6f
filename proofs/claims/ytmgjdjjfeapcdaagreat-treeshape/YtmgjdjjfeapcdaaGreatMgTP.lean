/- a B+ tree in plain words: its order, its pages, its bounds; a place in it -/
import Derived.Test.YtmgjdjjfeapcdaaGreatTrA
namespace Go.Proofs.YtmgjdjjfeapcdaaGreat
open Go
theorem bl_irr:∀ l:List UInt8,Op.bytesLess l l=false
  | []=>rfl
  | a :: l=>by simp [Op.bytesLess,bl_irr l]
theorem bl_tr:∀ {a b c:List UInt8},Op.bytesLess a b=true→Op.bytesLess b c=true→Op.bytesLess a c=true
  | [],[],_,h,_=>by simp [Op.bytesLess] at h
  | [],_ :: _,[],_,h=>by simp [Op.bytesLess] at h
  | [],_ :: _,_ :: _,_,_=>by simp [Op.bytesLess]
  | _ :: _,[],_,h,_=>by simp [Op.bytesLess] at h
  | _ :: _,_ :: _,[],_,h=>by simp [Op.bytesLess] at h
  | a :: x, b :: y, c :: z, h, k => by
    simp only [Op.bytesLess,Bool.or_eq_true,decide_eq_true_eq,Bool.and_eq_true,beq_iff_eq] at h k ⊢
    rcases h with h | ⟨rfl,h⟩
    · rcases k with k | ⟨rfl,k⟩
      · exact .inl (UInt8.lt_trans h k)
      · exact .inl h
    · rcases k with k | ⟨rfl,k⟩
      · exact .inl k
      · exact .inr ⟨rfl,bl_tr h k⟩
theorem bl_tri:∀ a b:List UInt8,Op.bytesLess a b=true∨a=b∨Op.bytesLess b a=true
  | [],[]=>.inr (.inl rfl)
  | [],_ :: _=>.inl (by simp [Op.bytesLess])
  | _ :: _,[]=>.inr (.inr (by simp [Op.bytesLess]))
  | a :: x, b :: y => by
    simp only [Op.bytesLess,Bool.or_eq_true,decide_eq_true_eq,Bool.and_eq_true,beq_iff_eq]
    by_cases h1:a<b
    · exact .inl (.inl h1)
    · by_cases h2:b<a
      · exact .inr (.inr (.inl h2))
      · have e:a=b:=by
          apply UInt8.toNat_inj.1
          have a1:¬ a.toNat<b.toNat:=fun h=>h1 (UInt8.lt_iff_toNat_lt.2 h)
          have a2:¬ b.toNat<a.toNat:=fun h=>h2 (UInt8.lt_iff_toNat_lt.2 h)
          omega
        subst e
        rcases bl_tri x y with h | h | h
        · exact .inl (.inr ⟨rfl,h⟩)
        · exact .inr (.inl (by rw [h]))
        · exact .inr (.inr (.inr ⟨rfl,h⟩))
/- the order of keys -/
def klt (a b:ByteArray):Bool:=Op.bytesLess a.toList b.toList
theorem toList_inj {a b:ByteArray} (h:a.toList=b.toList):a=b:=by
  rw [ByteArray.toList_eq,ByteArray.toList_eq] at h
  cases a;cases b
  simp at h
  rw [h]
theorem klt_irr (a:ByteArray):klt a a=false:=bl_irr _
theorem klt_tr {a b c:ByteArray} (h:klt a b=true) (k:klt b c=true):klt a c=true:=bl_tr h k
theorem klt_tri (a b:ByteArray):klt a b=true∨a=b∨klt b a=true:=(bl_tri a.toList b.toList).imp id (fun h=>h.imp toList_inj id)
theorem klt_asy {a b:ByteArray} (h:klt a b=true):klt b a=false:=by
  cases k:klt b a with
  | false=>rfl
  | true=>have:=klt_tr h k;rw [klt_irr] at this;cases this
/- not above: a ≤ b ≤ .. -/
theorem kle_lt {a b c:ByteArray} (h:klt b a=false) (k:klt b c=true):klt a c=true:=by
  rcases klt_tri a b with e | e | e
  · exact klt_tr e k
  · rw [e];exact k
  · rw [h] at e;cases e
theorem klt_le {a b c:ByteArray} (h:klt a b=true) (k:klt c b=false):klt a c=true:=by
  rcases klt_tri b c with e | e | e
  · exact klt_tr h e
  · rw [← e];exact h
  · rw [k] at e;cases e
theorem kle_tr {a b c:ByteArray} (h:klt b a=false) (k:klt c b=false):klt c a=false:=by
  cases e:klt c a with
  | false=>rfl
  | true=>have:=klt_le e h;rw [k] at this;cases this
/- below an end: the empty text is none -/
def ltB (k h:ByteArray):Prop:=h=⟨#[]⟩∨klt k h=true
abbrev Ent:=ByteArray × ByteArray
structure It where
  key:ByteArray
  val:ByteArray
  pgs:List Nat
structure PgV where
  kind:Nat
  link:Nat
  cells:List ByteArray
structure Lf where
  num:Nat
  link:Nat
  its:List It
structure Inn (α:Type) where
  num:Nat
  kids:List (ByteArray × α)
@[reducible] def T:Nat→Type
  | 0=>Lf
  | d+1=>Inn (T d)
def keyedB (k:ByteArray):ByteArray:=⟨#[k.size.toUInt8]⟩ ++ k
def inlineB (k v:ByteArray):ByteArray:=keyedB k ++ ⟨#[0]⟩ ++ v
def longB (k:ByteArray) (size n:Nat):ByteArray:=keyedB k ++ ⟨#[1,(size / 256).toUInt8,size.toUInt8]⟩ ++ fourB n
def childB (k:ByteArray) (n:Nat):ByteArray:=keyedB k ++ fourB n
def cellI (i:It):ByteArray:=match i.pgs with
  | []=>inlineB i.key i.val
  | p :: _=>longB i.key i.val.size p
def numT:(d:Nat)→T d→Nat
  | 0,t=>t.num
  | _+1,t=>t.num
def cellsT:(d:Nat)→T d→List ByteArray
  | 0,t=>t.its.map cellI
  | d+1,t=>t.kids.tail.map fun p=>childB p.1 (numT d p.2)
def linkT:(d:Nat)→T d→Nat
  | 0,t=>t.link
  | d + 1, t => match t.kids with
    | []=>0
    | p :: _=>numT d p.2
def kindT:Nat→Nat
  | 0=>1
  | _+1=>2
def pgT (d:Nat) (t:T d):PgV:=⟨kindT d,linkT d t,cellsT d t⟩
def usedC (l:List ByteArray):Nat:=(l.map fun c=>4+c.size).sum
/- the pages of a long value -/
def valN:List Nat→List ByteArray→List (Nat × PgV)
  | p :: ps,c :: cs=>(p,⟨5,ps.headD 0,[c]⟩) :: valN ps cs
  | _,_=>[]
def cuts (v:ByteArray):Nat→Nat→List ByteArray
  | _,0=>[]
  | a,n+1=>v.extract a (min (a+1008) v.size) :: cuts v (a+1008) n
def piecesV (v:ByteArray):List ByteArray:=cuts v 0 ((v.size+1007) / 1008)
def nodI (i:It):List (Nat × PgV):=valN i.pgs (piecesV i.val)
/- all pages of a tree -/
def nodT:(d:Nat)→T d→List (Nat × PgV)
  | 0,t=>(t.num,pgT 0 t) :: t.its.flatMap nodI
  | d+1,t=>(t.num,pgT (d+1) t) :: t.kids.flatMap fun p=>nodT d p.2
def entT:(d:Nat)→T d→List Ent
  | 0,t=>t.its.map fun i=>(i.key,i.val)
  | d+1,t=>t.kids.flatMap fun p=>entT d p.2
def lvsT:(d:Nat)→T d→List (Nat × Nat)
  | 0,t=>[(t.num,t.link)]
  | d+1,t=>t.kids.flatMap fun p=>lvsT d p.2
def okK (k:ByteArray):Prop:=0<k.size∧k.size≤200
structure okI (i:It):Prop where
  key:okK i.key
  val:i.val.size≤3000
  pgs:i.pgs.length=if 2+i.key.size+i.val.size≤240 then 0 else (i.val.size+1007) / 1008
/- the bounds of a list of items, of a list of children -/
def BI (lo:ByteArray):List It→ByteArray→Prop
  | [],_=>True
  | i :: r,hi=>okI i∧klt i.key lo=false∧ltB i.key hi∧(∀ j ∈ r,klt i.key j.key=true)∧BI lo r hi
def nxt {α:Type} (s:List (ByteArray × α)) (hi:ByteArray):ByteArray:=match s with
  | []=>hi
  | p :: _=>p.1
def BS {α:Type} (B:ByteArray→ByteArray→α→Prop):List (ByteArray × α)→ByteArray→Prop
  | [],_=>True
  | p :: r,hi=>ltB p.1 (nxt r hi)∧B p.1 (nxt r hi) p.2∧(∀ q ∈ r,okK q.1)∧BS B r hi
def Bnd:(d:Nat)→ByteArray→ByteArray→T d→Prop
  | 0,lo,hi,t=>BI lo t.its hi
  | d+1,lo,hi,t=>(∃ p r,t.kids=p :: r∧p.1=lo)∧BS (Bnd d) t.kids hi
/- how full nodes are -/
def FilN:(d:Nat)→T d→Prop
  | 0,t=>180≤usedC (cellsT 0 t)∧usedC (cellsT 0 t)≤1012
  | d+1,t=>(180≤usedC (cellsT (d+1) t)∧usedC (cellsT (d+1) t)≤1012)∧∀ p ∈ t.kids,FilN d p.2
def FilK:(d:Nat)→T d→Prop
  | 0,_=>True
  | d+1,t=>∀ p ∈ t.kids,FilN d p.2
theorem FilN_iff (d:Nat) (t:T d):FilN d t ↔ (180≤usedC (cellsT d t)∧usedC (cellsT d t)≤1012)∧FilK d t:=by
  cases d with
  | zero=>exact ⟨fun h=>⟨h,trivial⟩,fun h=>h.1⟩
  | succ d=>exact Iff.rfl
/- a place in a tree: all that stands around it -/
inductive Cx:Nat→Type where
  | top (d:Nat):Cx d
  | up {d:Nat} (num:Nat) (s1:List (ByteArray × T d)) (k:ByteArray) (s2:List (ByteArray × T d)) (c:Cx (d+1)):Cx d
def frm {d:Nat} (num:Nat) (s1:List (ByteArray × T d)) (k:ByteArray) (x:T d) (s2:List (ByteArray × T d)):T (d+1):=⟨num,s1 ++ (k,x) :: s2⟩
def entS {d:Nat} (s:List (ByteArray × T d)):List Ent:=s.flatMap fun p=>entT d p.2
def lvsS {d:Nat} (s:List (ByteArray × T d)):List (Nat × Nat):=s.flatMap fun p=>lvsT d p.2
def nodS {d:Nat} (s:List (ByteArray × T d)):List (Nat × PgV):=s.flatMap fun p=>nodT d p.2
def Cx.pre:{d:Nat}→Cx d→List Ent
  | _,.top _=>[]
  | _,.up _ s1 _ _ c=>c.pre ++ entS s1
def Cx.suf:{d:Nat}→Cx d→List Ent
  | _,.top _=>[]
  | _,.up _ _ _ s2 c=>entS s2 ++ c.suf
def Cx.lpre:{d:Nat}→Cx d→List (Nat × Nat)
  | _,.top _=>[]
  | _,.up _ s1 _ _ c=>c.lpre ++ lvsS s1
def Cx.lsuf:{d:Nat}→Cx d→List (Nat × Nat)
  | _,.top _=>[]
  | _,.up _ _ _ s2 c=>lvsS s2 ++ c.lsuf
def Cx.root:{d:Nat}→Cx d→Nat→Nat
  | _,.top _,n=>n
  | _,.up num _ _ _ c,_=>c.root num
/- how deep the whole tree is -/
def Cx.dep:{d:Nat}→Cx d→Nat
  | d,.top _=>d
  | _,.up _ _ _ _ c=>c.dep
/- a frame's own page, where the child that is left out has the number n -/
def frP {d:Nat} (s1:List (ByteArray × T d)) (k:ByteArray) (s2:List (ByteArray × T d)) (n:Nat):PgV:=
  let l:=s1.map (fun p=>(p.1,numT d p.2)) ++ (k,n) :: s2.map (fun p=>(p.1,numT d p.2))
  ⟨2,(l.headD (k,n)).2,l.tail.map fun p=>childB p.1 p.2⟩
theorem frP_eq {d:Nat} (num:Nat) (s1:List (ByteArray × T d)) (k:ByteArray) (x:T d) (s2:List (ByteArray × T d)):frP s1 k s2 (numT d x)=pgT (d+1) (frm num s1 k x s2):=by
  cases s1 with
  | nil=>simp [frP,pgT,kindT,linkT,cellsT,frm]
  | cons p r=>simp [frP,pgT,kindT,linkT,cellsT,frm,Function.comp_def]
def Cx.nod:{d:Nat}→Cx d→Nat→List (Nat × PgV)
  | _,.top _,_=>[]
  | _,.up num s1 k s2 c,n=>(num,frP s1 k s2 n) :: (nodS s1 ++ nodS s2) ++ c.nod num
def Cx.bnd:{d:Nat}→Cx d→ByteArray→ByteArray→Prop
  | _,.top _,lo,hi=>lo=⟨#[]⟩∧hi=⟨#[]⟩
  | d,.up _ s1 k s2 c,lo,hi=>∃ lo' hi',c.bnd lo' hi'∧lo=k∧hi=nxt s2 hi'∧BS (Bnd d) s1 k∧BS (Bnd d) s2 hi'∧ltB k (nxt s2 hi')∧nxt s1 k=lo'∧(∀ q ∈ s2,okK q.1)∧(∀ q ∈ s1.tail,okK q.1)∧(s1=[]∨okK k)
def Cx.isTop:{d:Nat}→Cx d→Bool
  | _,.top _=>true
  | _,_=>false
def Cx.fil:{d:Nat}→Cx d→Prop
  | _,.top _=>True
  | d,.up _ s1 k s2 c=>(∀ p ∈ s1,FilN d p.2)∧(∀ p ∈ s2,FilN d p.2)∧((c.isTop=true∨180≤usedC (frP s1 k s2 0).cells)∧usedC (frP s1 k s2 0).cells≤1012)∧c.fil
/- each frame has another child -/
def Cx.two:{d:Nat}→Cx d→Prop
  | _,.top _=>True
  | _,.up _ s1 _ s2 c=>¬ (s1=[]∧s2=[])∧c.two
/- the leaves' links -/
def hdL (l:List (Nat × Nat)) (nx:Nat):Nat:=match l with
  | []=>nx
  | p :: _=>p.1
def lk:List (Nat × Nat)→Nat→Prop
  | [],_=>True
  | p :: r,nx=>p.2=hdL r nx∧lk r nx
theorem lk_app:∀ (a b:List (Nat × Nat)) (nx:Nat),lk (a ++ b) nx ↔ lk a (hdL b nx)∧lk b nx
  | [],b,nx=>by simp [lk]
  | p :: r, b, nx => by
    have e:hdL (r ++ b) nx=hdL r (hdL b nx):=by cases r <;> rfl
    simp only [List.cons_append,lk,lk_app r b nx,e]
    constructor
    · rintro ⟨h1,h2,h3⟩;exact ⟨⟨h1,h2⟩,h3⟩
    · rintro ⟨⟨h1,h2⟩,h3⟩;exact ⟨h1,h2,h3⟩
theorem hdL_app (a b:List (Nat × Nat)) (nx:Nat):hdL (a ++ b) nx=hdL a (hdL b nx):=by cases a <;> rfl
theorem usedC_app (a b:List ByteArray):usedC (a ++ b)=usedC a+usedC b:=by simp [usedC]
theorem usedC_cons (a:ByteArray) (b:List ByteArray):usedC (a :: b)=4+a.size+usedC b:=by simp [usedC]
theorem nxt_app {α:Type} (a b:List (ByteArray × α)) (hi:ByteArray):nxt (a ++ b) hi=nxt a (nxt b hi):=by cases a <;> rfl
theorem BS_app {α:Type} {B:ByteArray→ByteArray→α→Prop}:∀ (a b:List (ByteArray × α)) (hi:ByteArray),BS B (a ++ b) hi ↔ BS B a (nxt b hi)∧BS B b hi∧(a=[]∨∀ q ∈ b,okK q.1)
  | [],b,hi=>by simp [BS]
  | p :: r, b, hi => by
    simp only [List.cons_append,BS,BS_app r b hi,nxt_app,List.mem_append]
    constructor
    · rintro ⟨h1,h2,h3,h4,h5,h6⟩
      exact ⟨⟨h1,h2,fun q hq=>h3 q (.inl hq),h4⟩,h5,.inr fun q hq=>h3 q (.inr hq)⟩
    · rintro ⟨⟨h1,h2,h3,h4⟩,h5,h6⟩
      have h6:∀ q ∈ b,okK q.1:=h6.resolve_left (by simp)
      exact ⟨h1,h2,fun q hq=>hq.elim (h3 q) (h6 q),h4,h5,.inr h6⟩
theorem BI_app {lo:ByteArray}:∀ (a b:List It) (hi:ByteArray),BI lo (a ++ b) hi ↔ BI lo a hi∧BI lo b hi∧∀ x ∈ a,∀ y ∈ b,klt x.key y.key=true
  | [],b,hi=>by simp [BI]
  | p :: r, b, hi => by
    simp only [List.cons_append,BI,BI_app r b hi,List.mem_append,List.mem_cons]
    constructor
    · rintro ⟨h1,h2,h3,h4,h5,h6,h7⟩
      exact ⟨⟨h1,h2,h3,fun j hj=>h4 j (.inl hj),h5⟩,h6,fun x hx y hy=>by
        rcases hx with rfl | hx
        · exact h4 y (.inr hy)
        · exact h7 x hx y hy⟩
    · rintro ⟨⟨h1,h2,h3,h4,h5⟩,h6,h7⟩
      exact ⟨h1,h2,h3,fun j hj=>hj.elim (h4 j) (fun hj=>h7 p (.inl rfl) j hj),h5,h6,fun x hx y hy=>h7 x (.inr hx) y hy⟩
theorem BI_mem {lo:ByteArray}:∀ {l:List It} {hi:ByteArray},BI lo l hi→∀ i ∈ l,okI i∧klt i.key lo=false∧ltB i.key hi
  | _ :: _, hi, ⟨h1, h2, h3, _, h5⟩, i, hm => by
    rcases List.mem_cons.1 hm with rfl | hm
    · exact ⟨h1,h2,h3⟩
    · exact BI_mem h5 i hm
/- other bounds -/
theorem BI_re {lo lo' hi hi':ByteArray}:∀ {l:List It},BI lo l hi→(∀ i ∈ l,klt i.key lo'=false∧ltB i.key hi')→BI lo' l hi'
  | [],_,_=>trivial
  | p :: _,⟨h1,_,_,h4,h5⟩,h=>⟨h1,(h p (List.mem_cons_self ..)).1,(h p (List.mem_cons_self ..)).2,h4,BI_re h5 fun i hi=>h i (List.mem_cons_of_mem _ hi)⟩
/- the keys of a tree stand within its bounds -/
theorem ltB_ne {a b:ByteArray} (h:ltB a b) (hb:okK b):klt a b=true:=h.resolve_left (fun e=>by rw [e] at hb;exact absurd hb.1 (by decide))
mutual
theorem ent_in:∀ (d:Nat) (lo hi:ByteArray) (t:T d),Bnd d lo hi t→∀ e ∈ entT d t,klt e.1 lo=false∧ltB e.1 hi∧okK e.1
  | 0, lo, hi, t, h, e, he => by
    simp only [entT,List.mem_map] at he
    obtain ⟨i,hi',rfl⟩:=he
    have:=BI_mem h i hi'
    exact ⟨this.2.1,this.2.2,this.1.key⟩
  | d + 1, lo, hi, t, ⟨⟨p, r, hk, hp⟩, hb⟩, e, he => by
    have:=entS_in d t.kids hi hb e he
    rw [hk] at this
    have h1:klt e.1 p.1=false:=this.1
    rw [hp] at h1
    exact ⟨h1,this.2⟩
theorem entS_in:∀ (d:Nat) (s:List (ByteArray × T d)) (hi:ByteArray),BS (Bnd d) s hi→∀ e ∈ s.flatMap (fun p=>entT d p.2),klt e.1 (nxt s hi)=false∧ltB e.1 hi∧okK e.1
  | d, p :: r, hi, ⟨h1, h2, h3, h4⟩, e, he => by
    rw [List.flatMap_cons,List.mem_append] at he
    rcases he with he | he
    · have:=ent_in d p.1 (nxt r hi) p.2 h2 e he
      refine ⟨this.1,?_,this.2.2⟩
      cases r with
      | nil=>exact this.2.1
      | cons q r =>
        have hq:klt e.1 q.1=true:=ltB_ne this.2.1 (h3 q (List.mem_cons_self ..))
        have hq':ltB q.1 hi:=bs_ltB d (q :: r) hi h4 (by simp)
        exact hq'.imp id (fun k=>klt_tr hq k)
    · have:=entS_in d r hi h4 e he
      refine ⟨?_,this.2⟩
      cases r with
      | nil=>simp at he
      | cons q r =>
        have hq:klt p.1 q.1=true:=ltB_ne h1 (h3 q (List.mem_cons_self ..))
        have h9:klt e.1 q.1=false:=this.1
        exact kle_tr (klt_asy hq) h9
theorem bs_ltB:∀ (d:Nat) (s:List (ByteArray × T d)) (hi:ByteArray),BS (Bnd d) s hi→¬ s=[]→ltB (nxt s hi) hi
  | d,[p],hi,⟨h1,_⟩,_=>h1
  | d, p :: q :: r, hi, ⟨h1, _, h3, h4⟩, _ => by
    have hq:klt p.1 q.1=true:=ltB_ne h1 (h3 q (List.mem_cons_self ..))
    have h5:ltB q.1 hi:=bs_ltB d (q :: r) hi h4 (by simp)
    exact h5.imp id (fun k=>klt_tr hq k)
end
end Go.Proofs.YtmgjdjjfeapcdaaGreat
namespace Go.Proofs.YtmgjdjjfeapcdaaGreat
open Go
/- all but how full the place and its children are -/
structure WfB {d:Nat} (c:Cx d) (x:T d) (es:List Ent):Prop where
  bnd:∃ lo hi,c.bnd lo hi∧Bnd d lo hi x
  fil:c.fil
  ent:c.pre ++ entT d x ++ c.suf=es
  lks:lk (c.lpre ++ lvsT d x ++ c.lsuf) 0
theorem entS_app {d:Nat} (a b:List (ByteArray × T d)):entS (a ++ b)=entS a ++ entS b:=by simp [entS]
theorem lvsS_app {d:Nat} (a b:List (ByteArray × T d)):lvsS (a ++ b)=lvsS a ++ lvsS b:=by simp [lvsS]
theorem nodS_app {d:Nat} (a b:List (ByteArray × T d)):nodS (a ++ b)=nodS a ++ nodS b:=by simp [nodS]
theorem entT_s {d:Nat} (t:T (d+1)):entT (d+1) t=entS t.kids:=rfl
theorem lvsT_s {d:Nat} (t:T (d+1)):lvsT (d+1) t=lvsS t.kids:=rfl
theorem entS_cons {d:Nat} (p:ByteArray × T d) (b:List (ByteArray × T d)):entS (p :: b)=entT d p.2 ++ entS b:=by simp [entS]
theorem lvsS_cons {d:Nat} (p:ByteArray × T d) (b:List (ByteArray × T d)):lvsS (p :: b)=lvsT d p.2 ++ lvsS b:=by simp [lvsS]
theorem nodS_cons {d:Nat} (p:ByteArray × T d) (b:List (ByteArray × T d)):nodS (p :: b)=nodT d p.2 ++ nodS b:=by simp [nodS]
theorem nodT_eq:∀ (d:Nat) (t:T d),nodT d t=(numT d t,pgT d t) :: (nodT d t).tail
  | 0,_=>rfl
  | _+1,_=>rfl
theorem nodT_s {d:Nat} (t:T (d+1)):(nodT (d+1) t).tail=nodS t.kids:=rfl
theorem fourB_sz (n:Nat):(fourB n).size=4:=by unfold fourB;rfl
theorem keyedB_sz (k:ByteArray):(keyedB k).size=1+k.size:=by unfold keyedB;rw [ByteArray.size_append];rfl
theorem childB_sz (k:ByteArray) (n:Nat):(childB k n).size=5+k.size:=by unfold childB;rw [ByteArray.size_append,keyedB_sz,fourB_sz];omega
/- one level up -/
theorem WfB.up {d:Nat} {num:Nat} {s1 s2:List (ByteArray × T d)} {k:ByteArray} {c:Cx (d+1)} {x:T d} {es:List Ent} (h:WfB (.up num s1 k s2 c) x es):WfB c (frm num s1 k x s2) es:=by
  obtain ⟨lo,hi,⟨lo',hi',b1,e1,e2,b2,b3,b4,b5,b6,b7,b8⟩,hx⟩:=h.bnd
  rw [e1,e2] at hx
  refine ⟨⟨lo',hi',b1,?_,?_⟩,h.fil.2.2.2,?_,?_⟩
  · cases s1 with
    | nil=>exact ⟨(k,x),s2,rfl,b5⟩
    | cons p r=>exact ⟨p,r ++ (k,x) :: s2,rfl,b5⟩
  · show BS (Bnd d) (s1 ++ (k,x) :: s2) hi'
    rw [BS_app]
    refine ⟨b2,⟨b4,hx,b6,b3⟩,?_⟩
    rcases b8 with b8 | b8
    · exact .inl b8
    · exact .inr fun q hq=>by
        rcases List.mem_cons.1 hq with rfl | hq
        · exact b8
        · exact b6 q hq
  · rw [entT_s]
    show c.pre ++ entS (s1 ++ (k,x) :: s2) ++ c.suf=es
    rw [← h.ent,entS_app,entS_cons]
    simp [Cx.pre,Cx.suf]
  · have:=h.lks
    simp only [Cx.lpre,Cx.lsuf] at this
    rw [lvsT_s]
    show lk (c.lpre ++ lvsS (s1 ++ (k,x) :: s2) ++ c.lsuf) 0
    rw [lvsS_app,lvsS_cons]
    simpa using this
/- .. and down, where the node is not too full, nor too empty -/
theorem WfB.down {d:Nat} {num:Nat} {s1 s2:List (ByteArray × T d)} {k:ByteArray} {c:Cx (d+1)} {x:T d} {es:List Ent} (h:WfB c (frm num s1 k x s2) es) (hk:∀ p ∈ s1 ++ (k,x) :: s2,FilN d p.2) (h1:(c.isTop=true∨180≤usedC (cellsT (d+1) (frm num s1 k x s2)))∧usedC (cellsT (d+1) (frm num s1 k x s2))≤1012):WfB (.up num s1 k s2 c) x es:=by
  obtain ⟨lo',hi',b1,⟨p0,r0,e0,b5⟩,hb⟩:=h.bnd
  have hb:BS (Bnd d) (s1 ++ (k,x) :: s2) hi':=hb
  rw [BS_app] at hb
  obtain ⟨b2,⟨b4,hx,b6,b3⟩,b8⟩:=hb
  have e0:s1 ++ (k,x) :: s2=p0 :: r0:=e0
  have hu:∀ n m,usedC (frP s1 k s2 n).cells=usedC (frP s1 k s2 m).cells:=fun n m=>by
    have hc:∀ q:ByteArray,(childB q n).size=(childB q m).size:=fun q=>by rw [childB_sz,childB_sz]
    cases s1 with
    | nil=>simp [frP,usedC]
    | cons p r=>simp [frP,usedC,hc]
  have hq:usedC (frP s1 k s2 0).cells=usedC (cellsT (d+1) (frm num s1 k x s2)):=by
    rw [hu 0 (numT d x),frP_eq num]
    rfl
  refine ⟨⟨k,nxt s2 hi',⟨lo',hi',b1,rfl,rfl,b2,b3,b4,?_,b6,?_,?_⟩,hx⟩,⟨fun p hp=>hk p (by simp [hp]),fun p hp=>hk p (by simp [hp]),by rw [hq];exact h1,h.fil⟩,?_,?_⟩
  · cases s1 with
    | nil=>simp at e0;rw [← b5,← e0.1];rfl
    | cons p r=>simp at e0;rw [← b5,← e0.1];rfl
  · intro q hq
    cases s1 with
    | nil=>simp at hq
    | cons p r=>exact b2.2.2.1 q hq
  · rcases b8 with b8 | b8
    · exact .inl b8
    · exact .inr (b8 (k,x) (List.mem_cons_self ..))
  · have:=h.ent
    rw [entT_s] at this
    have this:c.pre ++ entS (s1 ++ (k,x) :: s2) ++ c.suf=es:=this
    rw [← this,entS_app,entS_cons]
    simp [Cx.pre,Cx.suf]
  · have:=h.lks
    rw [lvsT_s] at this
    have this:lk (c.lpre ++ lvsS (s1 ++ (k,x) :: s2) ++ c.lsuf) 0:=this
    rw [lvsS_app,lvsS_cons] at this
    simpa [Cx.lpre,Cx.lsuf] using this
/- some children of a node are others -/
theorem WfB.repl {d:Nat} {num:Nat} {s1 g m s2:List (ByteArray × T d)} {c:Cx (d+1)} {es:List Ent} (h:WfB c (⟨num,s1 ++ g ++ s2⟩:Inn (T d)) es) (hg:¬ g=[]) (hm:¬ m=[]) (hn:∀ hi,nxt m hi=nxt g hi) (hb:∀ hi,BS (Bnd d) g hi→BS (Bnd d) m hi) (hk:∀ q ∈ m.tail,okK q.1) (he:entS m=entS g) (hl:∀ nx,lk (lvsS g) nx→lk (lvsS m) nx∧hdL (lvsS m) nx=hdL (lvsS g) nx):WfB c (⟨num,s1 ++ m ++ s2⟩:Inn (T d)) es:=by
  obtain ⟨lo',hi',b1,⟨p0,r0,e0,b5⟩,h2⟩:=h.bnd
  have h2:BS (Bnd d) (s1 ++ g ++ s2) hi':=h2
  rw [List.append_assoc,BS_app,BS_app] at h2
  obtain ⟨a1,⟨a2,a3,a4⟩,a5⟩:=h2
  have a4:∀ q ∈ s2,okK q.1:=a4.resolve_left hg
  have hfirst:∀ hi,nxt (s1 ++ m ++ s2) hi=nxt (s1 ++ g ++ s2) hi:=fun hi=>by
    rw [nxt_app,nxt_app,nxt_app,nxt_app,hn]
  refine ⟨⟨lo',hi',b1,?_,?_⟩,h.fil,?_,?_⟩
  · have e0:s1 ++ g ++ s2=p0 :: r0:=e0
    have:=hfirst ⟨#[]⟩
    rw [e0] at this
    show ∃ p r,s1 ++ m ++ s2=p :: r∧p.1=lo'
    cases hq:s1 ++ m ++ s2 with
    | nil=>simp at hq;exact absurd hq.2.1 hm
    | cons p r =>
      rw [hq] at this
      exact ⟨p,r,rfl,by rw [← b5];exact this⟩
  · show BS (Bnd d) (s1 ++ m ++ s2) hi'
    rw [List.append_assoc,BS_app,BS_app]
    refine ⟨?_,⟨hb _ a2,a3,.inr a4⟩,?_⟩
    · rw [nxt_app,hn,← nxt_app];exact a1
    · rcases a5 with a5 | a5
      · exact .inl a5
      · refine .inr fun q hq=>?_
        rcases List.mem_append.1 hq with hq | hq
        · cases m with
          | nil=>exact absurd rfl hm
          | cons p r =>
            rcases List.mem_cons.1 hq with rfl | hq
            · cases g with
              | nil=>exact absurd rfl hg
              | cons p' r' =>
                have e:=hn ⟨#[]⟩
                have e:q.1=p'.1:=e
                rw [e]
                exact a5 p' (by simp)
            · exact hk q hq
        · exact a4 q hq
  · rw [← h.ent,entT_s,entT_s]
    show c.pre ++ entS (s1 ++ m ++ s2) ++ c.suf=c.pre ++ entS (s1 ++ g ++ s2) ++ c.suf
    rw [entS_app,entS_app,entS_app,entS_app,he]
  · have:=h.lks
    rw [lvsT_s] at this ⊢
    have this:lk (c.lpre ++ lvsS (s1 ++ g ++ s2) ++ c.lsuf) 0:=this
    show lk (c.lpre ++ lvsS (s1 ++ m ++ s2) ++ c.lsuf) 0
    simp only [lvsS_app,List.append_assoc,lk_app,hdL_app] at this ⊢
    obtain ⟨l1,l2,l3,l4⟩:=this
    obtain ⟨m1,m2⟩:=hl _ l3
    rw [m2]
    exact ⟨l1,l2,m1,l4⟩
/- a node is split: how many cells stay, the number of the right half -/
def splT:(d:Nat)→Nat→Nat→T d→T d × ByteArray × T d
  | 0,m,r,x=>(⟨x.num,r,x.its.take m⟩,((x.its.drop m).head?.map (·.key)).getD ⟨#[]⟩,⟨r,x.link,x.its.drop m⟩)
  | _+1,m,r,x=>(⟨x.num,x.kids.take (m+1)⟩,((x.kids.drop (m+1)).head?.map (·.1)).getD ⟨#[]⟩,⟨r,x.kids.drop (m+1)⟩)
def mrgT:(d:Nat)→T d→T d→T d
  | 0,a,b=>⟨a.num,b.link,a.its ++ b.its⟩
  | _+1,a,b=>⟨a.num,a.kids ++ b.kids⟩
theorem spl_num (d m r:Nat) (x:T d):numT d (splT d m r x).1=numT d x∧numT d (splT d m r x).2.2=r:=by
  cases d <;> exact ⟨rfl,rfl⟩
theorem mrg_num (d:Nat) (a b:T d):numT d (mrgT d a b)=numT d a:=by cases d <;> rfl
theorem BI_lt {lo hi:ByteArray} {a:List It} {i:It} {b:List It} (h:BI lo (a ++ i :: b) hi) (ha:¬ a=[]):klt lo i.key=true:=by
  cases a with
  | nil=>exact absurd rfl ha
  | cons j a =>
    have h1:=h.2.2.2.1 i (by simp)
    exact kle_lt h.2.1 h1
theorem spl_bnd (d m r:Nat) (x:T d) {k hi:ByteArray} (h:ltB k hi∧Bnd d k hi x) (hm:0<m∧m<(cellsT d x).length) :
    okK (splT d m r x).2.1∧BS (Bnd d) [(k,(splT d m r x).1),((splT d m r x).2.1,(splT d m r x).2.2)] hi:=by
  cases d with
  | zero =>
    obtain ⟨hk,hb⟩:=h
    have hl:m<x.its.length:=by simpa [cellsT] using hm.2
    have e:x.its=x.its.take m ++ x.its[m] :: x.its.drop (m+1):=by rw [← List.drop_eq_getElem_cons hl,List.take_append_drop]
    have hb:BI k x.its hi:=hb
    have hb2:=hb
    rw [e] at hb2
    have hlt:=BI_lt hb2 (fun h=>by have:=congrArg List.length h;simp at this;rcases this with this | this <;> (first | omega | (rw [this] at hl;simp at hl)))
    obtain ⟨b1,b2,b3⟩:=(BI_app _ _ _).1 hb2
    have hd:(splT 0 m r x).2.1=x.its[m].key:=by show ((x.its.drop m).head?.map (·.key)).getD _=_;rw [List.drop_eq_getElem_cons hl];rfl
    have hr:(splT 0 m r x).2.2=⟨r,x.link,x.its[m] :: x.its.drop (m+1)⟩:=by rw [← List.drop_eq_getElem_cons hl];rfl
    rw [hd,hr]
    refine ⟨b2.1.key,.inr hlt,?_,fun q hq=>?_,?_,?_,fun q hq=>by simp at hq,trivial⟩
    · refine BI_re b1 fun i hi'=>⟨(BI_mem b1 i hi').2.1,.inr (b3 i hi' _ (List.mem_cons_self ..))⟩
    · simp at hq;rw [hq];exact b2.1.key
    · exact b2.2.2.1
    · refine BI_re b2 fun i hi'=>⟨?_,(BI_mem b2 i hi').2.2⟩
      rcases List.mem_cons.1 hi' with rfl | hi'
      · exact klt_irr _
      · exact klt_asy (b2.2.2.2.1 i hi')
  | succ d =>
    obtain ⟨hk,⟨p0,r0,e0,hp0⟩,hb⟩:=h
    have hl:m+1<x.kids.length:=by have:=hm.2;simp [cellsT] at this;omega
    have e:x.kids=x.kids.take (m+1) ++ x.kids[m+1] :: x.kids.drop (m+1+1):=by rw [← List.drop_eq_getElem_cons hl,List.take_append_drop]
    have hd:(splT (d+1) m r x).2.1=x.kids[m+1].1:=by show ((x.kids.drop (m+1)).head?.map (·.1)).getD _=_;rw [List.drop_eq_getElem_cons hl];rfl
    have hr:(splT (d+1) m r x).2.2=(⟨r,x.kids[m+1] :: x.kids.drop (m+1+1)⟩:Inn (T d)):=by rw [← List.drop_eq_getElem_cons hl];rfl
    have hb:BS (Bnd d) x.kids hi:=hb
    have hb2:BS (Bnd d) (x.kids.take (m+1) ++ x.kids[m+1] :: x.kids.drop (m+1+1)) hi:=by rw [← e];exact hb
    rw [BS_app] at hb2
    obtain ⟨b1,b2,b3⟩:=hb2
    have hne:¬ x.kids.take (m+1)=[]:=fun h=>by have:=congrArg List.length h;simp at this;rw [this] at hl;simp at hl
    have b3:=b3.resolve_left hne
    have hok:=b3 _ (List.mem_cons_self ..)
    have hlo:∀ q:ByteArray,nxt (x.kids.take (m+1)) q=k:=fun q=>by rw [e0];exact hp0
    have hlo2:∃ p r,x.kids.take (m+1)=p :: r∧p.1=k:=⟨p0,r0.take m,by rw [e0];rfl,hp0⟩
    rw [hd,hr]
    refine ⟨hok,?_,⟨?_,b1⟩,fun q hq=>?_,?_,⟨⟨_,_,rfl,rfl⟩,b2⟩,fun q hq=>by simp at hq,trivial⟩
    · have:=bs_ltB d _ _ b1 hne
      rw [hlo] at this
      exact this
    · exact hlo2
    · simp at hq;rw [hq];exact hok
    · exact bs_ltB d _ _ b2 (List.cons_ne_nil _ _)
theorem spl_ent (d m r:Nat) (x:T d):entT d (splT d m r x).1 ++ entT d (splT d m r x).2.2=entT d x:=by
  cases d with
  | zero=>simp [splT,entT]
  | succ d=>rw [entT_s,entT_s,entT_s,← entS_app];simp [splT]
theorem spl_lvs (d m r:Nat) (x:T d) (nx:Nat) (h:lk (lvsT d x) nx):lk (lvsT d (splT d m r x).1 ++ lvsT d (splT d m r x).2.2) nx∧hdL (lvsT d (splT d m r x).1 ++ lvsT d (splT d m r x).2.2) nx=hdL (lvsT d x) nx:=by
  cases d with
  | zero=>exact ⟨⟨rfl,h.1,trivial⟩,rfl⟩
  | succ d =>
    have e:lvsT (d+1) (splT (d+1) m r x).1 ++ lvsT (d+1) (splT (d+1) m r x).2.2=lvsT (d+1) x:=by rw [lvsT_s,lvsT_s,lvsT_s,← lvsS_app];simp [splT]
    rw [e]
    exact ⟨h,rfl⟩
theorem mrg_bnd (d:Nat) (a b:T d) {ka kb hi:ByteArray} (h:BS (Bnd d) [(ka,a),(kb,b)] hi):BS (Bnd d) [(ka,mrgT d a b)] hi:=by
  obtain ⟨h1,h2,h3,h4,h5,-⟩:=h
  have hok:=h3 (kb,b) (by simp)
  have hab:klt ka kb=true:=ltB_ne h1 hok
  refine ⟨h4.imp id (fun k=>klt_tr hab k),?_,fun q hq=>by simp at hq,trivial⟩
  cases d with
  | zero =>
    have h2:BI ka a.its kb:=h2
    have h5:BI kb b.its hi:=h5
    show BI ka (a.its ++ b.its) hi
    rw [BI_app]
    refine ⟨BI_re h2 fun i hi'=>⟨(BI_mem h2 i hi').2.1,?_⟩,BI_re h5 fun i hi'=>⟨?_,(BI_mem h5 i hi').2.2⟩,fun x hx y hy=>?_⟩
    · have:=ltB_ne (BI_mem h2 i hi').2.2 hok
      exact h4.imp id (fun k=>klt_tr this k)
    · exact kle_tr (klt_asy hab) (BI_mem h5 i hi').2.1
    · exact klt_le (ltB_ne (BI_mem h2 x hx).2.2 hok) (BI_mem h5 y hy).2.1
  | succ d =>
    obtain ⟨⟨p,r,e,hp⟩,h2⟩:=h2
    obtain ⟨⟨p',r',e',hp'⟩,h5⟩:=h5
    refine ⟨⟨p,r ++ b.kids,by show a.kids ++ b.kids=_;rw [e];rfl,hp⟩,?_⟩
    show BS (Bnd d) (a.kids ++ b.kids) hi
    rw [BS_app]
    have hn:nxt b.kids hi=kb:=by rw [e'];exact hp'
    rw [hn]
    refine ⟨h2,h5,.inr fun q hq=>?_⟩
    rw [e'] at hq h5
    rcases List.mem_cons.1 hq with rfl | hq
    · rw [hp'];exact hok
    · exact h5.2.2.1 q hq
theorem mrg_ent (d:Nat) (a b:T d):entT d (mrgT d a b)=entT d a ++ entT d b:=by
  cases d with
  | zero=>simp [mrgT,entT]
  | succ d=>rw [entT_s,entT_s,entT_s,← entS_app];rfl
theorem mrg_lvs (d:Nat) (a b:T d) (nx:Nat) (h:lk (lvsT d a ++ lvsT d b) nx):lk (lvsT d (mrgT d a b)) nx∧hdL (lvsT d (mrgT d a b)) nx=hdL (lvsT d a ++ lvsT d b) nx:=by
  cases d with
  | zero=>exact ⟨⟨h.2.1,trivial⟩,rfl⟩
  | succ d =>
    have e:lvsT (d+1) (mrgT (d+1) a b)=lvsT (d+1) a ++ lvsT (d+1) b:=by rw [lvsT_s,lvsT_s,lvsT_s,← lvsS_app];rfl
    rw [e]
    exact ⟨h,rfl⟩
/- two leaves side by side: the left one's link -/
theorem lvs_link {a b:T 0} {nx:Nat} (h:lk (lvsT 0 a ++ lvsT 0 b) nx):a.link=b.num:=h.1
theorem WfB.split {d:Nat} {num:Nat} {s1 s2:List (ByteArray × T d)} {k:ByteArray} {c:Cx (d+1)} {x:T d} {es:List Ent} (h:WfB c (⟨num,s1 ++ [(k,x)] ++ s2⟩:Inn (T d)) es) (m r:Nat) (hm:0<m∧m<(cellsT d x).length) :
    WfB c (⟨num,s1 ++ [(k,(splT d m r x).1),((splT d m r x).2.1,(splT d m r x).2.2)] ++ s2⟩:Inn (T d)) es:=by
  have hok:okK (splT d m r x).2.1:=by
    obtain ⟨lo',hi',b1,_,hb⟩:=h.bnd
    have hb:BS (Bnd d) (s1 ++ [(k,x)] ++ s2) hi':=hb
    rw [List.append_assoc,BS_app] at hb
    exact (spl_bnd d m r x ⟨hb.2.1.1,hb.2.1.2.1⟩ hm).1
  refine h.repl (by simp) (by simp) (fun _=>rfl) (fun hi hb=>(spl_bnd d m r x ⟨hb.1,hb.2.1⟩ hm).2) (fun q hq=>by simp at hq;rw [hq];exact hok) ?_ (fun nx hl=>?_)
  · rw [entS_cons,entS_cons,entS_cons]
    have:=spl_ent d m r x
    simp only [entS,List.flatMap_nil,List.append_nil]
    exact this
  · rw [lvsS_cons,lvsS_cons,lvsS_cons] at *
    simp only [lvsS,List.flatMap_nil,List.append_nil] at *
    exact spl_lvs d m r x nx hl
theorem WfB.merge {d:Nat} {num:Nat} {s1 s2:List (ByteArray × T d)} {ka kb:ByteArray} {c:Cx (d+1)} {a b:T d} {es:List Ent} (h:WfB c (⟨num,s1 ++ [(ka,a),(kb,b)] ++ s2⟩:Inn (T d)) es):WfB c (⟨num,s1 ++ [(ka,mrgT d a b)] ++ s2⟩:Inn (T d)) es:=by
  refine h.repl (by simp) (by simp) (fun _=>rfl) (fun hi hb=>mrg_bnd d a b hb) (fun q hq=>by simp at hq) ?_ (fun nx hl=>?_)
  · rw [entS_cons,entS_cons,entS_cons]
    simp only [entS,List.flatMap_nil,List.append_nil]
    exact mrg_ent d a b
  · rw [lvsS_cons,lvsS_cons,lvsS_cons] at *
    simp only [lvsS,List.flatMap_nil,List.append_nil] at *
    exact mrg_lvs d a b nx hl
end Go.Proofs.YtmgjdjjfeapcdaaGreat
namespace Go.Proofs.YtmgjdjjfeapcdaaGreat
open Go
def restN {d:Nat} (c:Cx d) (x:T d):List (Nat × PgV):=(nodT d x).tail ++ c.nod (numT d x)
def updA (A:Nat→PgV) (n:Nat) (v:PgV):Nat→PgV:=fun x=>if x=n then v else A x
theorem updA_at (A:Nat→PgV) (n:Nat) (v:PgV):updA A n v n=v:=if_pos rfl
theorem updA_ne (A:Nat→PgV) {n x:Nat} (v:PgV) (h:¬ x=n):updA A n v x=A x:=if_neg h
/- a place in a tree whose own page is not written yet; os: pages of others -/
structure Sx (A:Nat→PgV) (fl:List Nat) (pages:Nat) (os:List Nat) {d:Nat} (c:Cx d) (x:T d) (es:List Ent):Prop where
  wf:WfB c x es
  rep:∀ p ∈ restN c x,A p.1=p.2
  perm:(0 :: (fl ++ (numT d x :: ((restN c x).map (·.1) ++ os)))).Perm (List.range pages)
section
variable {A:Nat→PgV} {fl os:List Nat} {pages d:Nat} {es:List Ent}
theorem Sx.nd {c:Cx d} {x:T d} (h:Sx A fl pages os c x es):(0 :: (fl ++ (numT d x :: ((restN c x).map (·.1) ++ os)))).Nodup:=h.perm.nodup_iff.2 List.nodup_range
theorem Sx.lt {c:Cx d} {x:T d} (h:Sx A fl pages os c x es) {n:Nat} (hn:n ∈ (0 :: (fl ++ (numT d x :: ((restN c x).map (·.1) ++ os))))):n<pages:=List.mem_range.1 (h.perm.mem_iff.1 hn)
theorem Sx.own {c:Cx d} {x:T d} (h:Sx A fl pages os c x es):numT d x<pages∧0<numT d x:=by
  refine ⟨h.lt (by simp),?_⟩
  have:=h.nd
  rw [List.nodup_cons] at this
  have h1:¬ numT d x=0:=fun e=>this.1 (by rw [← e];simp)
  omega
/- the pages of the others in the tree are other pages -/
theorem Sx.ne {c:Cx d} {x:T d} (h:Sx A fl pages os c x es) {p:Nat × PgV} (hp:p ∈ restN c x):¬ p.1=numT d x∧¬ p.1=0∧(∀ o ∈ os,¬ p.1=o)∧(∀ f ∈ fl,¬ p.1=f)∧p.1<pages:=by
  have hm:p.1 ∈ (restN c x).map (·.1):=List.mem_map_of_mem hp
  have hn:=h.nd
  rw [List.nodup_cons,List.nodup_append,List.nodup_cons,List.nodup_append] at hn
  obtain ⟨h0,h1,⟨h2,h3,h4,h5⟩,h6⟩:=hn
  refine ⟨fun e=>h2 (List.mem_append_left _ (e ▸ hm)),fun e=>h0 ?_,fun o ho e=>h5 p.1 hm o ho e,fun f hf e=>h6 f hf p.1 (List.mem_cons_of_mem _ (List.mem_append_left _ hm)) e.symm,h.lt (by simp;right;right;right;left;exact ⟨p.2,hp⟩)⟩
  rw [← e]
  exact List.mem_append_right _ (List.mem_cons_of_mem _ (List.mem_append_left _ hm))
theorem Sx.os_ne {c:Cx d} {x:T d} (h:Sx A fl pages os c x es) {o:Nat} (ho:o ∈ os):¬ o=numT d x∧¬ o=0∧¬ o ∈ fl∧o<pages:=by
  have hn:=h.nd
  rw [List.nodup_cons,List.nodup_append,List.nodup_cons,List.nodup_append] at hn
  obtain ⟨h0,h1,⟨h2,h3,h4,h5⟩,h6⟩:=hn
  refine ⟨fun e=>h2 (List.mem_append_right _ (e ▸ ho)),fun e=>h0 ?_,fun f=>h6 o f o (List.mem_cons_of_mem _ (List.mem_append_right _ ho)) rfl,h.lt (by simp [ho])⟩
  rw [← e]
  exact List.mem_append_right _ (List.mem_cons_of_mem _ (List.mem_append_right _ ho))
/- pages that are not of the tree may change -/
theorem Sx.congr {A':Nat→PgV} {c:Cx d} {x:T d} (h:Sx A fl pages os c x es) (hA:∀ p ∈ restN c x,A' p.1=A p.1):Sx A' fl pages os c x es:=⟨h.wf,fun p hp=>by rw [hA p hp];exact h.rep p hp,h.perm⟩
theorem Sx.upd {c:Cx d} {x:T d} (h:Sx A fl pages os c x es) {n:Nat} (hn:n=0∨n ∈ fl∨n ∈ os∨n=numT d x) (v:PgV):Sx (updA A n v) fl pages os c x es:=h.congr fun p hp=>by
  obtain ⟨h1,h2,h3,h4,-⟩:=h.ne hp
  refine updA_ne _ _ (fun e=>?_)
  rcases hn with hn | hn | hn | hn
  · exact h2 (e.trans hn)
  · exact h4 n hn e
  · exact h3 n hn e
  · exact h1 (e.trans hn)
end
theorem spl_nod (d m r:Nat) (x:T d):(nodT d (splT d m r x).1).tail ++ (nodT d (splT d m r x).2.2).tail=(nodT d x).tail:=by
  cases d with
  | zero=>show (x.its.take m).flatMap nodI ++ (x.its.drop m).flatMap nodI=x.its.flatMap nodI;rw [← List.flatMap_append,List.take_append_drop]
  | succ d=>rw [nodT_s,nodT_s,nodT_s,← nodS_app];simp [splT]
theorem mrg_nod (d:Nat) (a b:T d):(nodT d (mrgT d a b)).tail=(nodT d a).tail ++ (nodT d b).tail:=by
  cases d with
  | zero=>show (a.its ++ b.its).flatMap nodI=_;rw [List.flatMap_append];rfl
  | succ d=>rw [nodT_s,nodT_s,nodT_s,← nodS_app];rfl
/- the pages around a frame's children -/
theorem restN_up {d:Nat} {num:Nat} {s1 s2:List (ByteArray × T d)} {k:ByteArray} {c:Cx (d+1)} {x:T d}:restN (.up num s1 k s2 c) x=(nodT d x).tail ++ ((num,frP s1 k s2 (numT d x)) :: (nodS s1 ++ nodS s2) ++ c.nod num):=rfl
theorem restN_s {d:Nat} {num:Nat} {s:List (ByteArray × T d)} {c:Cx (d+1)}:restN c (⟨num,s⟩:Inn (T d))=nodS s ++ c.nod num:=rfl
section
variable {A:Nat→PgV} {fl os:List Nat} {pages d num:Nat} {es:List Ent} {s1 s2:List (ByteArray × T d)} {k:ByteArray} {c:Cx (d+1)} {x:T d}
/- the children of a frame are others: what is asked of the pages -/
theorem Sx.kids {A':Nat→PgV} {os':List Nat} {m:List (ByteArray × T d)} (h:Sx A fl pages os (.up num s1 k s2 c) x es) {t1 t2:List (ByteArray × T d)}
    (hw:WfB c (⟨num,t1 ++ m ++ t2⟩:Inn (T d)) es) (hrep:∀ p ∈ nodS t1 ++ nodS m ++ nodS t2 ++ c.nod num,A' p.1=p.2)
    (hp:((nodS t1 ++ nodS m ++ nodS t2).map (·.1) ++ os').Perm (((nodT d x ++ (nodS s1 ++ nodS s2)).map (·.1)) ++ os)) :
    Sx A' fl pages os' c (⟨num,t1 ++ m ++ t2⟩:Inn (T d)) es:=by
  have e1:restN c (⟨num,t1 ++ m ++ t2⟩:Inn (T d))=nodS t1 ++ nodS m ++ nodS t2 ++ c.nod num:=by rw [restN_s,nodS_app,nodS_app]
  refine ⟨hw,by rw [e1];exact hrep,?_⟩
  refine List.Perm.trans ?_ h.perm
  refine List.Perm.cons _ (List.Perm.append_left _ ?_)
  rw [e1,restN_up]
  show (num :: (((nodS t1 ++ nodS m ++ nodS t2) ++ c.nod num).map (·.1) ++ os')).Perm (numT d x :: (((nodT d x).tail ++ ((num,frP s1 k s2 (numT d x)) :: (nodS s1 ++ nodS s2) ++ c.nod num)).map (·.1) ++ os))
  have e2:(numT d x :: (((nodT d x).tail ++ ((num,frP s1 k s2 (numT d x)) :: (nodS s1 ++ nodS s2) ++ c.nod num)).map (·.1) ++ os))=(nodT d x).map (·.1) ++ (num :: ((nodS s1 ++ nodS s2).map (·.1) ++ ((c.nod num).map (·.1) ++ os))):=by
    rw [nodT_eq]
    simp
  rw [e2]
  refine List.Perm.trans ?_ List.perm_middle.symm
  refine List.Perm.cons _ ?_
  have q1:(((nodS t1 ++ nodS m ++ nodS t2) ++ c.nod num).map (·.1) ++ os').Perm ((c.nod num).map (·.1) ++ ((nodS t1 ++ nodS m ++ nodS t2).map (·.1) ++ os')):=by
    rw [List.map_append,List.append_assoc]
    have:=List.perm_append_comm (l₁:=(nodS t1 ++ nodS m ++ nodS t2).map (·.1)) (l₂:=(c.nod num).map (·.1))
    rw [← List.append_assoc,← List.append_assoc]
    exact this.append_right _
  have q2:((nodT d x).map (·.1) ++ ((nodS s1 ++ nodS s2).map (·.1) ++ ((c.nod num).map (·.1) ++ os))).Perm ((c.nod num).map (·.1) ++ (((nodT d x ++ (nodS s1 ++ nodS s2)).map (·.1)) ++ os)):=by
    have:=List.perm_append_comm (l₁:=(nodT d x ++ (nodS s1 ++ nodS s2)).map (·.1)) (l₂:=(c.nod num).map (·.1))
    have:=this.append_right os
    simpa using this
  exact q1.trans ((hp.append_left _).trans q2.symm)
/- up, the place's page being written -/
theorem Sx.up (h:Sx A fl pages os (.up num s1 k s2 c) x es) (hA:A (numT d x)=pgT d x):Sx A fl pages os c (frm num s1 k x s2) es:=by
  have e:frm num s1 k x s2=(⟨num,s1 ++ [(k,x)] ++ s2⟩:Inn (T d)):=by simp [frm]
  rw [e]
  have e1:nodS [(k,x)]=nodT d x:=by simp [nodS]
  refine h.kids (t1:=s1) (t2:=s2) (m:=[(k,x)]) (by rw [← e];exact h.wf.up) (fun p hp=>?_) ?_
  · rw [e1] at hp
    simp only [List.mem_append] at hp
    rw [nodT_eq,List.mem_cons] at hp
    rcases hp with ((hp | hp | hp) | hp) | hp
    · exact h.rep p (by rw [restN_up];simp [hp])
    · rw [hp];exact hA
    · exact h.rep p (by rw [restN_up];simp [hp])
    · exact h.rep p (by rw [restN_up];simp [hp])
    · exact h.rep p (by rw [restN_up];simp [hp])
  · rw [e1]
    refine List.Perm.append_right _ (List.Perm.map _ ?_)
    have:=List.perm_append_comm (l₁:=nodS s1) (l₂:=nodT d x)
    have:=this.append_right (nodS s2)
    simpa using this
/- a node is split; the right half gets the page r -/
theorem Sx.split {r:Nat} (h:Sx A fl pages (r :: os) (.up num s1 k s2 c) x es) (m:Nat) (hm:0<m∧m<(cellsT d x).length) :
    Sx (updA (updA A (numT d x) (pgT d (splT d m r x).1)) r (pgT d (splT d m r x).2.2)) fl pages os c (⟨num,s1 ++ [(k,(splT d m r x).1),((splT d m r x).2.1,(splT d m r x).2.2)] ++ s2⟩:Inn (T d)) es:=by
  have hw:WfB c (⟨num,s1 ++ [(k,x)] ++ s2⟩:Inn (T d)) es:=by have:=h.wf.up;rw [show frm num s1 k x s2=(⟨num,s1 ++ [(k,x)] ++ s2⟩:Inn (T d)) by simp [frm]] at this;exact this
  have hws:=hw.split m r hm
  have e1:nodS [(k,(splT d m r x).1),((splT d m r x).2.1,(splT d m r x).2.2)]=nodT d (splT d m r x).1 ++ nodT d (splT d m r x).2.2:=by simp [nodS]
  have hn:=spl_nod d m r x
  have hnum:=spl_num d m r x
  have hr:=h.os_ne (o:=r) (by simp)
  refine h.kids hws (fun p hp=>?_) ?_
  · rw [e1] at hp
    simp only [List.mem_append] at hp
    rw [nodT_eq d (splT d m r x).1,nodT_eq d (splT d m r x).2.2] at hp
    simp only [List.mem_cons] at hp
    have hk:p ∈ restN (.up num s1 k s2 c) x→updA (updA A (numT d x) (pgT d (splT d m r x).1)) r (pgT d (splT d m r x).2.2) p.1=p.2:=fun hp=>by
      obtain ⟨n1,n2,n3,-⟩:=h.ne hp
      rw [updA_ne _ _ (n3 r (by simp)),updA_ne _ _ n1]
      exact h.rep p hp
    have hsub:∀ p,p ∈ (nodT d (splT d m r x).1).tail∨p ∈ (nodT d (splT d m r x).2.2).tail→p ∈ (nodT d x).tail:=fun p hp=>by rw [← hn];exact List.mem_append.2 hp
    rcases hp with ((hp | (hp | hp) | hp | hp) | hp) | hp
    · exact hk (by rw [restN_up];simp [hp])
    · rw [hp]
      show updA _ r _ (numT d (splT d m r x).1)=_
      rw [hnum.1,updA_ne _ _ (fun e=>hr.1 e.symm),updA_at]
    · exact hk (by rw [restN_up];exact List.mem_append_left _ (hsub p (.inl hp)))
    · rw [hp]
      show updA _ r _ (numT d (splT d m r x).2.2)=_
      rw [hnum.2,updA_at]
    · exact hk (by rw [restN_up];exact List.mem_append_left _ (hsub p (.inr hp)))
    · exact hk (by rw [restN_up];simp [hp])
    · exact hk (by rw [restN_up];simp [hp])
  · rw [e1,nodT_eq d (splT d m r x).1,nodT_eq d (splT d m r x).2.2,nodT_eq d x,← hn]
    simp only [List.map_append,List.map_cons,hnum.1,hnum.2,List.cons_append,List.append_assoc]
    refine List.perm_middle.trans (List.Perm.cons _ ?_)
    have p1:((nodS s1).map (·.1) ++ ((nodT d (splT d m r x).1).tail.map (·.1) ++ r :: ((nodT d (splT d m r x).2.2).tail.map (·.1) ++ ((nodS s2).map (·.1) ++ os)))).Perm (r :: ((nodS s1).map (·.1) ++ ((nodT d (splT d m r x).1).tail.map (·.1) ++ ((nodT d (splT d m r x).2.2).tail.map (·.1) ++ ((nodS s2).map (·.1) ++ os))))):=by
      rw [← List.append_assoc]
      refine List.perm_middle.trans ?_
      rw [List.append_assoc]
    refine p1.trans ?_
    have p2:((nodT d (splT d m r x).1).tail.map (·.1) ++ ((nodT d (splT d m r x).2.2).tail.map (·.1) ++ ((nodS s1).map (·.1) ++ ((nodS s2).map (·.1) ++ r :: os)))).Perm (r :: ((nodT d (splT d m r x).1).tail.map (·.1) ++ ((nodT d (splT d m r x).2.2).tail.map (·.1) ++ ((nodS s1).map (·.1) ++ ((nodS s2).map (·.1) ++ os))))):=by
      have:∀ (a b c e o:List Nat),(a ++ (b ++ (c ++ (e ++ r :: o)))).Perm (r :: (a ++ (b ++ (c ++ (e ++ o))))):=fun a b c e o=>by
        have:=List.perm_middle (l₁:=a ++ b ++ c ++ e) (l₂:=o) (a:=r)
        simpa using this
      exact this _ _ _ _ _
    refine List.Perm.trans ?_ p2.symm
    refine List.Perm.cons _ ?_
    have:∀ (a b c e:List Nat),(a ++ (b ++ (c ++ e))).Perm (b ++ (c ++ (a ++ e))):=fun a b c e=>by
      have:=(List.perm_append_comm (l₁:=a) (l₂:=b ++ c)).append_right e
      simpa using this
    exact this _ _ _ _
end
end Go.Proofs.YtmgjdjjfeapcdaaGreat
namespace Go.Proofs.YtmgjdjjfeapcdaaGreat
open Go
theorem perm_pull (a b c:List Nat) (x y:Nat) (o:List Nat):(a ++ (x :: b ++ y :: c) ++ o).Perm (x :: y :: (a ++ (b ++ c) ++ o)):=by
  have h1:(a ++ (x :: b ++ y :: c) ++ o).Perm (x :: (a ++ (b ++ y :: c) ++ o)):=by
    simp
  refine h1.trans (List.Perm.cons _ ?_)
  have:=List.perm_middle (l₁:=a ++ b) (l₂:=c ++ o) (a:=y)
  simpa using this
section
variable {A:Nat→PgV} {fl os:List Nat} {pages d num:Nat} {es:List Ent} {s1 s2:List (ByteArray × T d)} {k:ByteArray} {c:Cx (d+1)} {x:T d} {t1 t2:List (ByteArray × T d)} {ka kb:ByteArray} {a b:T d}
theorem Sx.nums (h:Sx A fl pages os (.up num s1 k s2 c) x es):(((nodT d x ++ (nodS s1 ++ nodS s2)) ++ c.nod num).map (·.1) ++ os).Nodup:=by
  have hn:=h.nd
  rw [List.nodup_cons,List.nodup_append] at hn
  have hn:=hn.2.2.1
  rw [restN_up] at hn
  have e2:(numT d x :: (((nodT d x).tail ++ ((num,frP s1 k s2 (numT d x)) :: (nodS s1 ++ nodS s2) ++ c.nod num)).map (·.1) ++ os))=(nodT d x).map (·.1) ++ (num :: ((nodS s1 ++ nodS s2).map (·.1) ++ ((c.nod num).map (·.1) ++ os))):=by
    rw [nodT_eq]
    simp
  rw [e2] at hn
  have:=(List.perm_middle.nodup_iff.1 hn)
  rw [List.nodup_cons] at this
  simpa using this.2
/- all pages but those of the two -/
def restP (t1:List (ByteArray × T d)) (a b:T d) (t2:List (ByteArray × T d)) (l:List (Nat × PgV)):List (Nat × PgV):=nodS t1 ++ ((nodT d a).tail ++ (nodT d b).tail) ++ nodS t2 ++ l
theorem Sx.pairR (h:Sx A fl pages os (.up num s1 k s2 c) x es) (hp:(nodT d x ++ (nodS s1 ++ nodS s2)).Perm (nodS t1 ++ (nodT d a ++ nodT d b) ++ nodS t2)) (hx:x=a∨x=b) :
    (numT d a :: numT d b :: ((restP t1 a b t2 (c.nod num)).map (·.1) ++ os)).Nodup∧∀ p ∈ restP t1 a b t2 (c.nod num),A p.1=p.2:=by
  have hn:=h.nums
  have q:(((nodT d x ++ (nodS s1 ++ nodS s2)) ++ c.nod num).map (·.1) ++ os).Perm (numT d a :: numT d b :: ((restP t1 a b t2 (c.nod num)).map (·.1) ++ os)):=by
    have h1:=((hp.append_right (c.nod num)).map (·.1)).append_right os
    refine h1.trans ?_
    rw [nodT_eq d a,nodT_eq d b]
    have:=perm_pull ((nodS t1).map (·.1)) ((nodT d a).tail.map (·.1)) ((nodT d b).tail.map (·.1)) (numT d a) (numT d b) ((nodS t2 ++ c.nod num).map (·.1) ++ os)
    simpa [restP] using this
  have hnd:=q.nodup_iff.1 hn
  refine ⟨hnd,fun p hpm=>?_⟩
  have hm:p.1 ∈ (restP t1 a b t2 (c.nod num)).map (·.1):=List.mem_map_of_mem hpm
  rw [List.nodup_cons,List.nodup_cons] at hnd
  have n1:¬ p.1=numT d a:=fun e=>hnd.1 (by rw [← e];exact List.mem_cons_of_mem _ (List.mem_append_left _ hm))
  have n2:¬ p.1=numT d b:=fun e=>hnd.2.1 (by rw [← e];exact List.mem_append_left _ hm)
  have hin:p ∈ nodT d x ++ (nodS s1 ++ nodS s2)∨p ∈ c.nod num:=by
    unfold restP at hpm
    rcases List.mem_append.1 hpm with hpm | hpm
    · left
      rw [hp.mem_iff,nodT_eq d a,nodT_eq d b]
      simp only [List.mem_append,List.mem_cons] at hpm ⊢
      rcases hpm with (hpm | hpm | hpm) | hpm
      · exact .inl (.inl hpm)
      · exact .inl (.inr (.inl (.inr hpm)))
      · exact .inl (.inr (.inr (.inr hpm)))
      · exact .inr hpm
    · exact .inr hpm
  refine h.rep p ?_
  rw [restN_up]
  rcases hin with hin | hin
  · rw [nodT_eq d x,List.cons_append,List.mem_cons] at hin
    rcases hin with hin | hin
    · refine absurd (congrArg Prod.fst hin) ?_
      rcases hx with rfl | rfl
      · exact n1
      · exact n2
    · simp only [List.mem_append,List.mem_cons] at hin ⊢
      rcases hin with hin | hin | hin
      · exact .inl hin
      · exact .inr (.inl (.inr (.inl hin)))
      · exact .inr (.inl (.inr (.inr hin)))
  · simp [hin]
theorem Sx.merge (h:Sx A fl pages os (.up num s1 k s2 c) x es) (hp:(nodT d x ++ (nodS s1 ++ nodS s2)).Perm (nodS t1 ++ (nodT d a ++ nodT d b) ++ nodS t2)) (hx:x=a∨x=b) (hw:WfB c (⟨num,t1 ++ [(ka,a),(kb,b)] ++ t2⟩:Inn (T d)) es) :
    Sx (updA A (numT d a) (pgT d (mrgT d a b))) fl pages (numT d b :: os) c (⟨num,t1 ++ [(ka,mrgT d a b)] ++ t2⟩:Inn (T d)) es:=by
  obtain ⟨hnd,hrep⟩:=h.pairR hp hx
  rw [List.nodup_cons] at hnd
  have e1:nodS [(ka,mrgT d a b)]=nodT d (mrgT d a b):=by simp [nodS]
  have hA:∀ p ∈ restP t1 a b t2 (c.nod num),updA A (numT d a) (pgT d (mrgT d a b)) p.1=p.2:=fun p hpm=>by
    rw [updA_ne]
    · exact hrep p hpm
    · exact fun e=>hnd.1 (by rw [← e];exact List.mem_cons_of_mem _ (List.mem_append_left _ (List.mem_map_of_mem hpm)))
  refine h.kids hw.merge (fun p hpm=>?_) ?_
  · rw [e1,nodT_eq,mrg_nod] at hpm
    simp only [List.mem_append,List.mem_cons] at hpm
    rcases hpm with ((hpm | hpm | hpm | hpm) | hpm) | hpm
    · exact hA p (by simp [restP,hpm])
    · rw [hpm,mrg_num];exact updA_at _ _ _
    · exact hA p (by simp [restP,hpm])
    · exact hA p (by simp [restP,hpm])
    · exact hA p (by simp [restP,hpm])
    · exact hA p (by simp [restP,hpm])
  · refine List.Perm.trans ?_ ((hp.map (·.1)).append_right os).symm
    rw [e1,nodT_eq d (mrgT d a b),mrg_nod,mrg_num,nodT_eq d a,nodT_eq d b]
    have h1:=perm_pull ((nodS t1).map (·.1)) ((nodT d a).tail.map (·.1)) ((nodT d b).tail.map (·.1)) (numT d a) (numT d b) ((nodS t2).map (·.1) ++ os)
    have h2:((nodS t1).map (·.1) ++ (numT d a :: ((nodT d a).tail.map (·.1) ++ (nodT d b).tail.map (·.1))) ++ ((nodS t2).map (·.1) ++ numT d b :: os)).Perm (numT d a :: numT d b :: ((nodS t1).map (·.1) ++ ((nodT d a).tail.map (·.1) ++ (nodT d b).tail.map (·.1)) ++ ((nodS t2).map (·.1) ++ os))):=by
      have g1:=List.perm_middle (l₁:=(nodS t1).map (·.1)) (l₂:=((nodT d a).tail.map (·.1) ++ (nodT d b).tail.map (·.1)) ++ ((nodS t2).map (·.1) ++ numT d b :: os)) (a:=numT d a)
      have g2:=List.perm_middle (l₁:=(nodS t1).map (·.1) ++ ((nodT d a).tail.map (·.1) ++ (nodT d b).tail.map (·.1)) ++ (nodS t2).map (·.1)) (l₂:=os) (a:=numT d b)
      have g3:((nodS t1).map (·.1) ++ (numT d a :: ((nodT d a).tail.map (·.1) ++ (nodT d b).tail.map (·.1))) ++ ((nodS t2).map (·.1) ++ numT d b :: os)).Perm (numT d a :: ((nodS t1).map (·.1) ++ (((nodT d a).tail.map (·.1) ++ (nodT d b).tail.map (·.1)) ++ ((nodS t2).map (·.1) ++ numT d b :: os)))):=by
        rw [List.append_assoc]
        exact g1
      refine g3.trans (List.Perm.cons _ ?_)
      have g4:=g2
      simp only [List.append_assoc] at g4 ⊢
      exact g4
    have h3:=h2.trans h1.symm
    simpa using h3
theorem Sx.share (h:Sx A fl pages os (.up num s1 k s2 c) x es) (hp:(nodT d x ++ (nodS s1 ++ nodS s2)).Perm (nodS t1 ++ (nodT d a ++ nodT d b) ++ nodS t2)) (hx:x=a∨x=b) (hw:WfB c (⟨num,t1 ++ [(ka,a),(kb,b)] ++ t2⟩:Inn (T d)) es) (m:Nat) (hm:0<m∧m<(cellsT d (mrgT d a b)).length) :
    Sx (updA (updA A (numT d a) (pgT d (splT d m (numT d b) (mrgT d a b)).1)) (numT d b) (pgT d (splT d m (numT d b) (mrgT d a b)).2.2)) fl pages os c (⟨num,t1 ++ [(ka,(splT d m (numT d b) (mrgT d a b)).1),((splT d m (numT d b) (mrgT d a b)).2.1,(splT d m (numT d b) (mrgT d a b)).2.2)] ++ t2⟩:Inn (T d)) es:=by
  obtain ⟨hnd,hrep⟩:=h.pairR hp hx
  rw [List.nodup_cons,List.nodup_cons] at hnd
  have hws:=hw.merge.split m (numT d b) hm
  have hn:=spl_nod d m (numT d b) (mrgT d a b)
  have hnum:=spl_num d m (numT d b) (mrgT d a b)
  rw [mrg_nod] at hn
  rw [mrg_num] at hnum
  generalize (splT d m (numT d b) (mrgT d a b)).1=x1 at *
  generalize (splT d m (numT d b) (mrgT d a b)).2.1=k2 at *
  generalize (splT d m (numT d b) (mrgT d a b)).2.2=x2 at *
  have e1:nodS [(ka,x1),(k2,x2)]=nodT d x1 ++ nodT d x2:=by simp [nodS]
  have hA:∀ p ∈ restP t1 a b t2 (c.nod num),updA (updA A (numT d a) (pgT d x1)) (numT d b) (pgT d x2) p.1=p.2:=fun p hpm=>by
    have hm:p.1 ∈ (restP t1 a b t2 (c.nod num)).map (·.1):=List.mem_map_of_mem hpm
    rw [updA_ne,updA_ne]
    · exact hrep p hpm
    · exact fun e=>hnd.1 (by rw [← e];exact List.mem_cons_of_mem _ (List.mem_append_left _ hm))
    · exact fun e=>hnd.2.1 (by rw [← e];exact List.mem_append_left _ hm)
  have hab:¬ numT d a=numT d b:=fun e=>hnd.1 (by rw [e];exact List.mem_cons_self ..)
  have hsub:∀ p,p ∈ (nodT d x1).tail∨p ∈ (nodT d x2).tail→p ∈ (nodT d a).tail∨p ∈ (nodT d b).tail:=fun p hpm=>by
    rw [← List.mem_append,← hn]
    exact List.mem_append.2 hpm
  refine h.kids hws (fun p hpm=>?_) ?_
  · rw [e1,nodT_eq d x1,nodT_eq d x2] at hpm
    simp only [List.mem_append,List.mem_cons] at hpm
    rcases hpm with ((hpm | (hpm | hpm) | hpm | hpm) | hpm) | hpm
    · exact hA p (by simp [restP,hpm])
    · rw [hpm,hnum.1,updA_ne _ _ hab];exact updA_at _ _ _
    · exact hA p (by rcases hsub p (.inl hpm) with q | q <;> simp [restP,q])
    · rw [hpm,hnum.2];exact updA_at _ _ _
    · exact hA p (by rcases hsub p (.inr hpm) with q | q <;> simp [restP,q])
    · exact hA p (by simp [restP,hpm])
    · exact hA p (by simp [restP,hpm])
  · refine List.Perm.trans ?_ ((hp.map (·.1)).append_right os).symm
    rw [e1,nodT_eq d x1,nodT_eq d x2,nodT_eq d a,nodT_eq d b,hnum.1,hnum.2]
    have h1:=perm_pull ((nodS t1).map (·.1)) ((nodT d a).tail.map (·.1)) ((nodT d b).tail.map (·.1)) (numT d a) (numT d b) ((nodS t2).map (·.1) ++ os)
    have h2:=perm_pull ((nodS t1).map (·.1)) ((nodT d x1).tail.map (·.1)) ((nodT d x2).tail.map (·.1)) (numT d a) (numT d b) ((nodS t2).map (·.1) ++ os)
    rw [← List.map_append,hn,List.map_append] at h2
    have h3:=h2.trans h1.symm
    simpa using h3
end
/- the two ways in which a place has another one beside it -/
theorem pair_left {d:Nat} (s1 s2:List (ByteArray × T d)) (ka:ByteArray) (a x:T d):(nodT d x ++ (nodS (s1 ++ [(ka,a)]) ++ nodS s2)).Perm (nodS s1 ++ (nodT d a ++ nodT d x) ++ nodS s2):=by
  rw [nodS_app]
  have e:nodS [(ka,a)]=nodT d a:=by simp [nodS]
  rw [e]
  have:=(List.perm_append_comm (l₁:=nodT d x) (l₂:=nodS s1 ++ nodT d a)).append_right (nodS s2)
  simpa using this
theorem pair_right {d:Nat} (s1 s2:List (ByteArray × T d)) (kb:ByteArray) (b x:T d):(nodT d x ++ (nodS s1 ++ nodS ((kb,b) :: s2))).Perm (nodS s1 ++ (nodT d x ++ nodT d b) ++ nodS s2):=by
  rw [nodS_cons]
  have:=(List.perm_append_comm (l₁:=nodT d x) (l₂:=nodS s1)).append_right (nodT d b ++ nodS s2)
  simpa using this
theorem WfB.left {d:Nat} {num:Nat} {s1 s2:List (ByteArray × T d)} {k ka:ByteArray} {c:Cx (d+1)} {a x:T d} {es:List Ent} (h:WfB (.up num (s1 ++ [(ka,a)]) k s2 c) x es):WfB c (⟨num,s1 ++ [(ka,a),(k,x)] ++ s2⟩:Inn (T d)) es:=by
  have:=h.up
  rw [show frm num (s1 ++ [(ka,a)]) k x s2=(⟨num,s1 ++ [(ka,a),(k,x)] ++ s2⟩:Inn (T d)) by simp [frm]] at this
  exact this
theorem WfB.right {d:Nat} {num:Nat} {s1 s2:List (ByteArray × T d)} {k kb:ByteArray} {c:Cx (d+1)} {b x:T d} {es:List Ent} (h:WfB (.up num s1 k ((kb,b) :: s2) c) x es):WfB c (⟨num,s1 ++ [(k,x),(kb,b)] ++ s2⟩:Inn (T d)) es:=by
  have:=h.up
  rw [show frm num s1 k x ((kb,b) :: s2)=(⟨num,s1 ++ [(k,x),(kb,b)] ++ s2⟩:Inn (T d)) by simp [frm]] at this
  exact this
/- the middle of cells: the first one with which half of the bytes are reached -/
def midC (l:List ByteArray):Nat:=(List.range l.length).countP fun i=>!decide (usedC l≤2 * usedC (l.take (i+1)))
theorem usedC_mono (l:List ByteArray) {i j:Nat} (h:i≤j):usedC (l.take i)≤usedC (l.take j):=by
  have:l.take j=l.take i ++ (l.take j).drop i:=by
    have:=List.take_append_drop i (l.take j)
    rw [List.take_take,Nat.min_eq_left h] at this
    exact this.symm
  rw [this,usedC_app]
  omega
theorem cnt_first:∀ (n:Nat) (p:Nat→Bool),(∀ i j,i≤j→p j=true→p i=true)→(∃ i,i<n∧p i=false)→(List.range n).countP p<n∧p ((List.range n).countP p)=false∧∀ i,i<(List.range n).countP p→p i=true
  | 0,_,_,⟨i,hi,_⟩=>absurd hi (Nat.not_lt_zero _)
  | n + 1, p, hm, ⟨i, hi, hp⟩ => by
    rw [List.range_succ,List.countP_append]
    by_cases h:∃ i,i<n∧p i=false
    · obtain ⟨a,b,c⟩:=cnt_first n p hm h
      obtain ⟨j,hj,hj'⟩:=h
      have hn:p n=false:=by
        cases q:p n with
        | false=>rfl
        | true=>have:=hm j n (by omega) q;rw [hj'] at this;cases this
      have e:(List.range n).countP p+[n].countP p=(List.range n).countP p:=by simp [hn]
      rw [e]
      exact ⟨by omega,b,c⟩
    · have hall:∀ i,i<n→p i=true:=fun i hi=>by
        cases q:p i with
        | true=>rfl
        | false=>exact absurd ⟨i,hi,q⟩ h
      have e0:i=n:=by
        by_cases e:i=n
        · exact e
        · have:=hall i (by omega);rw [hp] at this;cases this
      subst e0
      have e1:(List.range i).countP p=i:=by
        have:=List.countP_eq_length.2 (fun (a:Nat) (ha:a ∈ List.range i)=>hall a (List.mem_range.1 ha))
        rw [List.length_range] at this
        exact this
      have e:(List.range i).countP p+[i].countP p=i:=by rw [e1];simp [hp]
      rw [e]
      exact ⟨by omega,hp,hall⟩
theorem mid_in {l:List ByteArray} (h:0<usedC l):midC l<l.length∧2 * usedC (l.take (midC l))<usedC l∧usedC l≤2 * usedC (l.take (midC l+1)):=by
  have hn:∃ i,i<l.length∧(!decide (usedC l≤2 * usedC (l.take (i+1))))=false:=by
    cases l with
    | nil=>simp [usedC] at h
    | cons a l=>exact ⟨l.length,by simp,by simp;omega⟩
  obtain ⟨h1,h2,h3⟩:=cnt_first l.length (fun i=>!decide (usedC l≤2 * usedC (l.take (i+1)))) (fun i j hij hp=>by
    simp at hp ⊢
    have:=usedC_mono l (show i+1≤j+1 by omega)
    omega) hn
  refine ⟨h1,?_,by simpa [midC] using h2⟩
  cases hq:midC l with
  | zero=>simpa [usedC] using h
  | succ k =>
    have:=h3 k (by have:midC l=_:=rfl;unfold midC at hq;omega)
    simpa using this
theorem used_take {l:List ByteArray} (h:∀ c ∈ l,c.size≤240) (i:Nat):usedC (l.take (i+1))≤usedC (l.take i)+244:=by
  rw [List.take_add_one,usedC_app]
  cases hq:l[i]? with
  | none=>simp [usedC]
  | some c=>have:=h c (List.mem_of_getElem? hq);simp [usedC];omega
/- both sides of the middle are full enough, and not too full -/
theorem mid_ok {l:List ByteArray} (hs:∀ c ∈ l,c.size≤240) (h1:1012<usedC l) (h2:usedC l≤1500) :
    0<midC l∧midC l<l.length∧(180≤usedC (l.take (midC l))∧usedC (l.take (midC l))≤1012)∧(180≤usedC (l.drop (midC l))∧usedC (l.drop (midC l))≤1012)∧(180≤usedC (l.drop (midC l+1))∧usedC (l.drop (midC l+1))≤1012):=by
  obtain ⟨a,b,c⟩:=mid_in (l:=l) (by omega)
  have d:=used_take hs (midC l)
  have e:∀ i,usedC (l.take i)+usedC (l.drop i)=usedC l:=fun i=>by rw [← usedC_app,List.take_append_drop]
  have e1:=e (midC l)
  have e2:=e (midC l+1)
  refine ⟨?_,a,⟨by omega,by omega⟩,⟨by omega,by omega⟩,by omega,by omega⟩
  cases hq:midC l with
  | zero =>
    rw [hq] at c d
    have e0:usedC (l.take 0)=0:=rfl
    rw [e0] at d
    omega
  | succ k=>omega
theorem cells_spl (d m r:Nat) (x:T d):cellsT d (splT d m r x).1=(cellsT d x).take m∧cellsT d (splT d m r x).2.2=(cellsT d x).drop (m+kindT d - 1):=by
  cases d with
  | zero=>exact ⟨by simp [cellsT,splT,List.map_take],by simp [cellsT,splT,List.map_drop,kindT]⟩
  | succ d =>
    refine ⟨?_,?_⟩
    · simp only [cellsT,splT]
      cases x.kids with
      | nil=>simp
      | cons p r=>simp [List.map_take]
    · simp only [cellsT,splT,kindT]
      rw [List.map_tail,List.map_drop,List.map_tail]
      cases x.kids with
      | nil=>simp
      | cons p r=>simp
theorem cells_mrg0 (a b:T 0):cellsT 0 (mrgT 0 a b)=cellsT 0 a ++ cellsT 0 b:=by simp [cellsT,mrgT]
theorem cells_mrg1 {d:Nat} (a b:T (d+1)) {kb:ByteArray} (ha:¬ a.kids=[]) (hb:∃ p r,b.kids=p :: r∧p.1=kb):cellsT (d+1) (mrgT (d+1) a b)=cellsT (d+1) a ++ childB kb (linkT (d+1) b) :: cellsT (d+1) b:=by
  obtain ⟨p,r,e,rfl⟩:=hb
  simp only [cellsT,mrgT,linkT]
  rw [e]
  cases hq:a.kids with
  | nil=>exact absurd hq ha
  | cons q s=>simp
theorem filK_spl (d m r:Nat) (x:T d) (h:FilK d x):FilK d (splT d m r x).1∧FilK d (splT d m r x).2.2:=by
  cases d with
  | zero=>exact ⟨trivial,trivial⟩
  | succ d=>exact ⟨fun p hp=>h p (List.mem_of_mem_take hp),fun p hp=>h p (List.mem_of_mem_drop hp)⟩
theorem filK_mrg (d:Nat) (a b:T d) (ha:FilK d a) (hb:FilK d b):FilK d (mrgT d a b):=by
  cases d with
  | zero=>trivial
  | succ d=>exact fun p hp=>(List.mem_append.1 hp).elim (ha p) (hb p)
theorem cellI_sz {i:It} (h:okI i):(cellI i).size≤240:=by
  have hp:=h.pgs
  have hk:=h.key
  unfold cellI
  cases hq:i.pgs with
  | nil =>
    rw [hq] at hp
    have:2+i.key.size+i.val.size≤240:=by
      by_cases e:2+i.key.size+i.val.size≤240
      · exact e
      · rw [if_neg e] at hp;simp at hp;have:=hk.2;omega
    show (inlineB i.key i.val).size≤240
    unfold inlineB
    rw [ByteArray.size_append,ByteArray.size_append,keyedB_sz]
    have e1:(⟨#[0]⟩:ByteArray).size=1:=rfl
    rw [e1]
    omega
  | cons p r =>
    show (longB i.key i.val.size p).size≤240
    unfold longB
    rw [ByteArray.size_append,ByteArray.size_append,keyedB_sz,fourB_sz]
    have e1:∀ x y:UInt8,(⟨#[1,x,y]⟩:ByteArray).size=3:=fun _ _=>rfl
    rw [e1]
    have:=hk.2
    omega
theorem cells_sz (d:Nat) {lo hi:ByteArray} {x:T d} (h:Bnd d lo hi x):∀ c ∈ cellsT d x,c.size≤240:=by
  cases d with
  | zero =>
    intro c hc
    simp only [cellsT,List.mem_map] at hc
    obtain ⟨i,hi',rfl⟩:=hc
    exact cellI_sz (BI_mem h i hi').1
  | succ d =>
    intro c hc
    obtain ⟨⟨p,r,e,hp⟩,hb⟩:=h
    simp only [cellsT,List.mem_map] at hc
    obtain ⟨q,hq,rfl⟩:=hc
    rw [e] at hq hb
    have:=(hb.2.2.1 q hq).2
    rw [childB_sz]
    omega
theorem WfB.sz {d:Nat} {c:Cx d} {x:T d} {es:List Ent} (h:WfB c x es):∀ y ∈ cellsT d x,y.size≤240:=by
  obtain ⟨lo,hi,_,hb⟩:=h.bnd
  exact cells_sz d hb
theorem fil_spl (d r:Nat) (x:T d) (hs:∀ y ∈ cellsT d x,y.size≤240) (hf:FilK d x) (h1:1012<usedC (cellsT d x)) (h2:usedC (cellsT d x)≤1500):FilN d (splT d (midC (cellsT d x)) r x).1∧FilN d (splT d (midC (cellsT d x)) r x).2.2:=by
  obtain ⟨a1,a2,a3,a4,a5⟩:=mid_ok hs h1 h2
  obtain ⟨c1,c2⟩:=cells_spl d (midC (cellsT d x)) r x
  obtain ⟨f1,f2⟩:=filK_spl d (midC (cellsT d x)) r x hf
  rw [FilN_iff,FilN_iff,c1,c2]
  refine ⟨⟨a3,f1⟩,?_,f2⟩
  cases d with
  | zero=>exact a4
  | succ d=>exact a5
end Go.Proofs.YtmgjdjjfeapcdaaGreat
namespace Go.Proofs.YtmgjdjjfeapcdaaGreat
open Go
/- how full a node is that is written: the root may be emptier -/
structure OkN {d:Nat} (c:Cx d) (x:T d):Prop where
  kids:FilK d x
  low:c.isTop=true∨180≤usedC (cellsT d x)
  high:usedC (cellsT d x)≤1012
  some:d=0∨¬ cellsT d x=[]
/- a whole tree in the pages -/
structure Tr (A:Nat→PgV) (fl:List Nat) (pages:Nat) (os:List Nat) {d:Nat} (t:T d) (es:List Ent):Prop where
  sx:Sx A fl pages os (.top d) t es
  own:A (numT d t)=pgT d t
  ok:OkN (.top d) t
section
variable {A:Nat→PgV} {fl os:List Nat} {pages:Nat} {es:List Ent}
theorem fr_used {d:Nat} {num:Nat} {s1 s2:List (ByteArray × T d)} {k:ByteArray} (x:T d):usedC (frP s1 k s2 0).cells=usedC (cellsT (d+1) (frm num s1 k x s2)):=by
  have hu:∀ n m,usedC (frP s1 k s2 n).cells=usedC (frP s1 k s2 m).cells:=fun n m=>by
    have hc:∀ q:ByteArray,(childB q n).size=(childB q m).size:=fun q=>by rw [childB_sz,childB_sz]
    cases s1 with
    | nil=>simp [frP,usedC]
    | cons p r=>simp [frP,usedC,hc]
  rw [hu 0 (numT d x),frP_eq num]
  rfl
theorem frm_some {d:Nat} {num:Nat} {s1 s2:List (ByteArray × T d)} {k:ByteArray} {x:T d} (h:¬ (s1=[]∧s2=[])):¬ cellsT (d+1) (frm num s1 k x s2)=[]:=by
  intro e
  have:=congrArg List.length e
  simp [cellsT,frm] at this
  exact h ⟨this.1,this.2⟩
/- a place that is as it should be lies in a whole tree -/
theorem Sx.whole:∀ {d:Nat} (c:Cx d) (x:T d),Sx A fl pages os c x es→A (numT d x)=pgT d x→OkN c x→c.two→∃ (D:Nat) (t:T D),Tr A fl pages os t es∧numT D t=c.root (numT d x)
  | d,.top _,x,h,hA,hk,_=>⟨d,x,⟨h,hA,hk⟩,rfl⟩
  | d, .up num s1 k s2 c, x, h, hA, hk, ht => by
    have hf:=h.wf.fil
    have hown:A num=pgT (d+1) (frm num s1 k x s2):=by
      have:=h.rep (num,frP s1 k s2 (numT d x)) (by rw [restN_up];simp)
      rw [frP_eq num] at this
      exact this
    have hx:FilN d x:=(FilN_iff d x).2 ⟨⟨hk.low.resolve_left (by simp [Cx.isTop]),hk.high⟩,hk.kids⟩
    have hu:=fr_used (num:=num) (s1:=s1) (s2:=s2) (k:=k) x
    refine Sx.whole c (frm num s1 k x s2) (h.up hA) hown ⟨fun p hp=>?_,by rw [← hu];exact hf.2.2.1.1,by rw [← hu];exact hf.2.2.1.2,.inr (frm_some ht.1)⟩ ht.2
    · have hp:p ∈ s1 ++ (k,x) :: s2:=hp
      simp only [List.mem_append,List.mem_cons] at hp
      rcases hp with hp | hp | hp
      · exact hf.1 p hp
      · rw [hp];exact hx
      · exact hf.2.1 p hp
/- from a node to one of its children -/
theorem Sx.down {d num:Nat} {s1 s2:List (ByteArray × T d)} {k:ByteArray} {c:Cx (d+1)} {x:T d} (h:Sx A fl pages os c (frm num s1 k x s2) es) (hA:A num=pgT (d+1) (frm num s1 k x s2)) (hk:OkN c (frm num s1 k x s2)):Sx A fl pages os (.up num s1 k s2 c) x es∧A (numT d x)=pgT d x∧OkN (.up num s1 k s2 c) x:=by
  have hw:=h.wf.down hk.kids ⟨hk.low,hk.high⟩
  have e:restN c (frm num s1 k x s2)=nodS s1 ++ (nodT d x ++ nodS s2) ++ c.nod num:=by
    show nodS (s1 ++ (k,x) :: s2) ++ c.nod num=_
    rw [nodS_app,nodS_cons]
  have hfx:FilN d x:=hk.kids (k,x) (by show _ ∈ s1 ++ (k,x) :: s2;simp)
  have hfx:=(FilN_iff d x).1 hfx
  have hown:A (numT d x)=pgT d x:=h.rep (numT d x,pgT d x) (by rw [e,nodT_eq];simp)
  refine ⟨⟨hw,fun p hp=>?_,?_⟩,hown,⟨hfx.2,.inr hfx.1.1,hfx.1.2,?_⟩⟩
  · rw [restN_up] at hp
    have hr:=h.rep p
    rw [e,nodT_eq] at hr
    simp only [List.mem_append,List.mem_cons] at hp hr
    rcases hp with hp | (hp | hp | hp) | hp
    · exact hr (.inl (.inr (.inl (.inr hp))))
    · rw [hp];show A num=_;rw [hA,frP_eq num]
    · exact hr (.inl (.inl hp))
    · exact hr (.inl (.inr (.inr hp)))
    · exact hr (.inr hp)
  · refine List.Perm.trans ?_ h.perm
    refine List.Perm.cons _ (List.Perm.append_left _ ?_)
    rw [e,restN_up]
    show (numT d x :: (((nodT d x).tail ++ ((num,frP s1 k s2 (numT d x)) :: (nodS s1 ++ nodS s2) ++ c.nod num)).map (·.1) ++ os)).Perm (num :: ((nodS s1 ++ (nodT d x ++ nodS s2) ++ c.nod num).map (·.1) ++ os))
    have e2:(numT d x :: (((nodT d x).tail ++ ((num,frP s1 k s2 (numT d x)) :: (nodS s1 ++ nodS s2) ++ c.nod num)).map (·.1) ++ os))=(nodT d x).map (·.1) ++ (num :: ((nodS s1 ++ nodS s2).map (·.1) ++ ((c.nod num).map (·.1) ++ os))):=by
      rw [nodT_eq]
      simp
    rw [e2]
    refine List.perm_middle.trans (List.Perm.cons _ ?_)
    have q:∀ a b c e:List Nat,(a ++ (b ++ c ++ e)).Perm (b ++ (a ++ c) ++ e):=fun a b c e=>by
      have:=(List.perm_append_comm (l₁:=a) (l₂:=b)).append_right (c ++ e)
      simpa using this
    have:=q ((nodT d x).map (·.1)) ((nodS s1).map (·.1)) ((nodS s2).map (·.1)) ((c.nod num).map (·.1) ++ os)
    simpa using this
  · cases d with
    | zero=>exact .inl rfl
    | succ d=>exact .inr fun e=>by have:=hfx.1.1;rw [e] at this;simp [usedC] at this
def renT:(d:Nat)→Nat→T d→T d
  | 0,n,x=>⟨n,x.link,x.its⟩
  | _+1,n,x=>⟨n,x.kids⟩
theorem ren_num (d n:Nat) (x:T d):numT d (renT d n x)=n:=by cases d <;> rfl
theorem ren_pg (d n:Nat) (x:T d):pgT d (renT d n x)=pgT d x:=by cases d <;> rfl
theorem ren_cells (d n:Nat) (x:T d):cellsT d (renT d n x)=cellsT d x:=by cases d <;> rfl
theorem ren_nod (d n:Nat) (x:T d):(nodT d (renT d n x)).tail=(nodT d x).tail:=by cases d <;> rfl
theorem ren_ent (d n:Nat) (x:T d):entT d (renT d n x)=entT d x:=by cases d <;> rfl
theorem ren_bnd (d n:Nat) (x:T d) (lo hi:ByteArray):Bnd d lo hi (renT d n x) ↔ Bnd d lo hi x:=by cases d <;> exact Iff.rfl
theorem ren_filK (d n:Nat) (x:T d):FilK d (renT d n x) ↔ FilK d x:=by cases d <;> exact Iff.rfl
theorem ren_lk (d n:Nat) (x:T d) (nx:Nat) (h:lk (lvsT d x) nx):lk (lvsT d (renT d n x)) nx:=by cases d <;> exact h
/- the root is too full: what it has gets a page of its own, below it -/
theorem Sx.grow {d n:Nat} {x:T d} (h:Sx A fl pages (n :: os) (.top d) x es):Sx (updA A (numT d x) (frP (d:=d) [] ⟨#[]⟩ [] n)) fl pages os (.up (numT d x) [] ⟨#[]⟩ [] (.top (d+1))) (renT d n x) es:=by
  obtain ⟨lo,hi,⟨rfl,rfl⟩,hb⟩:=h.wf.bnd
  have e1:restN (.top d) x=(nodT d x).tail:=by simp [restN,Cx.nod]
  refine ⟨⟨⟨⟨#[]⟩,⟨#[]⟩,⟨⟨#[]⟩,⟨#[]⟩,⟨rfl,rfl⟩,rfl,rfl,trivial,trivial,.inl rfl,rfl,by simp,by simp,.inl rfl⟩,(ren_bnd d n x _ _).2 hb⟩,⟨by simp,by simp,⟨.inl rfl,by simp [frP,usedC]⟩,trivial⟩,?_,?_⟩,fun p hp=>?_,?_⟩
  · rw [ren_ent];exact h.wf.ent
  · have:=h.wf.lks
    simp only [Cx.lpre,Cx.lsuf,lvsS,List.flatMap_nil,List.nil_append,List.append_nil] at this ⊢
    exact ren_lk d n x 0 this
  · rw [restN_up,ren_nod] at hp
    simp only [List.mem_append,List.mem_cons,nodS,Cx.nod,List.flatMap_nil,List.append_nil,List.not_mem_nil,or_false] at hp
    rcases hp with hp | hp
    · rw [updA_ne _ _ (h.ne (by rw [e1];exact hp)).1]
      exact h.rep p (by rw [e1];exact hp)
    · rw [hp,ren_num];exact updA_at _ _ _
  · refine List.Perm.trans ?_ h.perm
    refine List.Perm.cons _ (List.Perm.append_left _ ?_)
    rw [e1,restN_up,ren_nod,ren_num]
    simp only [nodS,Cx.nod,List.flatMap_nil,List.append_nil,List.map_append,List.map_cons,List.map_nil,List.cons_append,List.nil_append,List.append_assoc]
    have q:∀ (a o:List Nat) (u v:Nat),(u :: (a ++ v :: o)).Perm (v :: (a ++ u :: o)):=fun a o u v=>by
      refine (List.Perm.cons _ List.perm_middle).trans (List.Perm.trans (List.Perm.swap _ _ _) (List.Perm.cons _ List.perm_middle.symm))
    exact q _ _ _ _
theorem Sx.rootSplit {d n r:Nat} {x:T d} (h:Sx A fl pages (r :: n :: os) (.top d) x es) (m:Nat) (hm:0<m∧m<(cellsT d x).length) :
    Sx (updA (updA A n (pgT d (splT d m r (renT d n x)).1)) r (pgT d (splT d m r (renT d n x)).2.2)) fl pages os (.top (d+1)) (⟨numT d x,[(⟨#[]⟩,(splT d m r (renT d n x)).1),((splT d m r (renT d n x)).2.1,(splT d m r (renT d n x)).2.2)]⟩:Inn (T d)) es:=by
  have h1:Sx A fl pages (n :: r :: os) (.top d) x es:=⟨h.wf,h.rep,h.perm.symm.trans (List.Perm.cons _ (List.Perm.append_left _ (List.Perm.cons _ (List.Perm.append_left _ (List.Perm.swap _ _ _))))) |>.symm⟩
  have h2:=h1.grow.split (r:=r) m (by rw [ren_cells];exact hm)
  have hn:¬ n=numT d x:=(h1.os_ne (o:=n) (by simp)).1
  have hr:¬ r=numT d x:=(h1.os_ne (o:=r) (by simp)).1
  rw [ren_num] at h2
  refine h2.congr (fun p hp=>?_)
  have hne:=(h2.ne hp).1
  have hne:¬ p.1=numT d x:=hne
  unfold updA
  rw [if_neg hne]
/- the root has an only child: that one comes up -/
theorem Sx.shrink {d num:Nat} {lo:ByteArray} {y:T d} (h:Sx A fl pages os (.top (d+1)) (⟨num,[(lo,y)]⟩:Inn (T d)) es):Sx A fl pages (numT d y :: os) (.top d) (renT d num y) es:=by
  obtain ⟨lo',hi',⟨rfl,rfl⟩,⟨p,r,e,hp⟩,hb⟩:=h.wf.bnd
  have e:[(lo,y)]=p :: r:=e
  simp at e
  have hlo:lo=⟨#[]⟩:=by rw [← hp,← e.1]
  have hb:BS (Bnd d) [(lo,y)] ⟨#[]⟩:=hb
  have hby:=hb.2.1
  rw [hlo] at hby
  have e1:restN (.top (d+1)) (⟨num,[(lo,y)]⟩:Inn (T d))=nodT d y:=by simp [restN_s,nodS,Cx.nod]
  have e2:restN (.top d) (renT d num y)=(nodT d y).tail:=by simp [restN,Cx.nod,ren_nod]
  refine ⟨⟨⟨⟨#[]⟩,⟨#[]⟩,⟨rfl,rfl⟩,(ren_bnd d num y _ _).2 hby⟩,trivial,?_,?_⟩,fun p hp=>?_,?_⟩
  · have:=h.wf.ent
    rw [entT_s] at this
    rw [ren_ent]
    simpa [Cx.pre,Cx.suf,entS] using this
  · have:=h.wf.lks
    rw [lvsT_s] at this
    simp only [Cx.lpre,Cx.lsuf,lvsS,List.flatMap_cons,List.flatMap_nil,List.nil_append,List.append_nil] at this ⊢
    exact ren_lk d num y 0 this
  · rw [e2] at hp
    exact h.rep p (by rw [e1,nodT_eq];exact List.mem_cons_of_mem _ hp)
  · refine List.Perm.trans ?_ h.perm
    refine List.Perm.cons _ (List.Perm.append_left _ ?_)
    rw [e2,e1,ren_num,nodT_eq d y]
    show (num :: ((nodT d y).tail.map (·.1) ++ numT d y :: os)).Perm (num :: (numT d y :: (nodT d y).tail.map (·.1) ++ os))
    exact List.Perm.cons _ List.perm_middle
/- a leaf has other entries, its values other pages -/
theorem Sx.leaf {c:Cx 0} {x:T 0} {its:List It} {A':Nat→PgV} {os':List Nat} {fl':List Nat} {pages':Nat} {es':List Ent} (h:Sx A fl pages os c x es)
    (hb:∀ lo hi,c.bnd lo hi→BI lo x.its hi→BI lo its hi) (he:es'=c.pre ++ its.map (fun i=>(i.key,i.val)) ++ c.suf)
    (hA:∀ p ∈ its.flatMap nodI ++ c.nod x.num,A' p.1=p.2)
    (hp:(0 :: (fl' ++ (x.num :: ((its.flatMap nodI ++ c.nod x.num).map (·.1) ++ os')))).Perm (List.range pages')) :
    Sx A' fl' pages' os' c (⟨x.num,x.link,its⟩:Lf) es':=by
  obtain ⟨lo,hi,h1,h2⟩:=h.wf.bnd
  exact ⟨⟨⟨lo,hi,h1,hb lo hi h1 h2⟩,h.wf.fil,he.symm,h.wf.lks⟩,hA,hp⟩
end
/- how many entries a tree has, at the least -/
theorem many_in:∀ (d:Nat) (t:T d),FilN d t→2 ^ d≤(entT d t).length
  | 0, t, h => by
    have:¬ t.its=[]:=fun e=>by have:=h.1;simp [cellsT,usedC,e] at this
    have:=List.length_pos_iff.2 this
    simp [entT]
    omega
  | d + 1, t, h => by
    match hq:t.kids with
    | []=>have:=h.1.1;simp [cellsT,usedC,hq] at this
    | [p]=>have:=h.1.1;simp [cellsT,usedC,hq] at this
    | p :: q :: r =>
      have h1:=many_in d p.2 (h.2 p (by rw [hq];simp))
      have h2:=many_in d q.2 (h.2 q (by rw [hq];simp))
      rw [entT_s,hq,entS_cons,entS_cons]
      simp only [List.length_append]
      rw [Nat.pow_succ]
      omega
theorem OkN.many {d:Nat} {t:T d} (h:OkN (.top d) t):d=0∨2 ^ d≤(entT d t).length:=by
  cases d with
  | zero=>exact .inl rfl
  | succ d =>
    right
    have hs:=h.some.resolve_left (by simp)
    match hq:t.kids with
    | []=>exact absurd (by simp [cellsT,hq]) hs
    | [p]=>exact absurd (by simp [cellsT,hq]) hs
    | p :: q :: r =>
      have h1:=many_in d p.2 (h.kids p (by rw [hq];simp))
      have h2:=many_in d q.2 (h.kids q (by rw [hq];simp))
      rw [entT_s,hq,entS_cons,entS_cons]
      simp only [List.length_append]
      rw [Nat.pow_succ]
      omega
end Go.Proofs.YtmgjdjjfeapcdaaGreat
