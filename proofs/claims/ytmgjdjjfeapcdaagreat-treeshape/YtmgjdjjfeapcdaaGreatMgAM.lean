/- package tree: a pool whose pages are read; check, read, fresh, write, free -/
import Derived.Test.YtmgjdjjfeapcdaaGreatMgAL
namespace Go.Proofs.YtmgjdjjfeapcdaaGreat
open Go.RowKit Go.Lib Go.Maps Go.Sort
attribute [local go_sem ↓] Go.wp_at_zero Go.wp_at_succ
def pgX (v:PgV):ByteArray:=⟨(sealed v.kind v.link v.cells.length (tx v.cells)).toArray⟩
structure okP (v:PgV):Prop where
  kind:1≤v.kind∧v.kind≤5
  link:v.link≤2147483647
  used:usedC v.cells≤1012
theorem len_cons (a:ByteArray) (l:List ByteArray):∀ k,len (tx (a :: l)) (k+1)=a.size+len (tx l) k
  | 0=>by simp [len,tx]
  | k + 1 => by
    show len (tx (a :: l)) (k+1)+(tx (a :: l) (k+1)).size=_
    rw [len_cons a l k]
    show _+(tx l k).size=a.size+(len (tx l) k+(tx l k).size)
    omega
theorem used_len:∀ l:List ByteArray,4 * l.length+len (tx l) l.length=usedC l
  | []=>rfl
  | a :: l => by
    rw [List.length_cons,len_cons,usedC_cons,← used_len l]
    omega
theorem pgX_size {v:PgV} (h:okP v):(pgX v).size=1024:=by unfold pgX;rw [size_mk,sealed_len (by rw [used_len];exact h.used)]
theorem pgX_none (K Lk:Nat):pgX ⟨K,Lk,[]⟩=pgB K Lk:=pgB_any K Lk _
theorem range_tx (l:List ByteArray):(List.range l.length).map (tx l)=l:=by
  apply List.ext_getElem
  · simp
  · intro i h1 h2
    simp [tx,h2]
theorem pgX_good {v:PgV} (h:okP v):good (pgX v)∧byt (pgX v) 4=v.kind∧four (pgX v) 8=v.link∧cls (pgX v)=v.cells:=
  have hu:4 * v.cells.length+len (tx v.cells) v.cells.length≤1012:=by rw [used_len];exact h.used
  ⟨sealed_good h.kind h.link hu,sealed_kind hu h.kind.2,sealed_link hu h.link,by unfold pgX;rw [sealed_cls hu,range_tx]⟩
/- the free pages -/
def flc (A:Nat→PgV):List Nat→Prop
  | []=>True
  | f :: r=>A f=⟨3,r.headD 0,[]⟩∧flc A r
structure TS (w:World) (B D Gp:Nat) (V:PV) (K:Pgs) (pk m:Nat) (A:Nat→PgV) (fl:List Nat) (pages:Nat):Prop where
  po:∃ C,PO w B D Gp V C K pk m∧∀ n,n<pages→C (n:Int)=some (pgX (A n))∧okP (A n)
  pg:V.P.pages=pages
  fr:V.P.free=fl.headD 0
  zero:A 0=⟨4,fl.headD 0,[]⟩
  fls:flc A fl
  flin:∀ f ∈ fl,0<f∧f<pages
  nf:NoF V.S
  fnd:fl.Nodup
section
variable {w:World} {B D Gp:Nat} {V:PV} {K:Pgs} {pk m:Nat} {A:Nat→PgV} {fl:List Nat} {pages:Nat}
theorem TS.lo (h:TS w B D Gp V K pk m A fl pages):B≤w.heap.size:=by obtain ⟨C,h,-⟩:=h.po;exact h.lo
theorem TS.below {w':World} (h:TS w B D Gp V K pk m A fl pages) (hb:Below w.heap.size w w'):TS w' B D Gp V K pk m A fl pages∧St2 w w' B V V:=by
  obtain ⟨C,h1,h2⟩:=h.po
  exact ⟨⟨⟨C,(h1.below hb).1,h2⟩,h.pg,h.fr,h.zero,h.fls,h.flin,h.nf,h.fnd⟩,(h1.below hb).2⟩
theorem TS.other {w':World} {c:Nat} {t:TypeId} (h:TS w B D Gp V K pk m A fl pages) (hg:w.grownBy w' (some c)) (hc:isC w c t) (ht:tyQ t=false):TS w' B D Gp V K pk m A fl pages:=by
  obtain ⟨C,h1,h2⟩:=h.po
  exact ⟨⟨C,h1.other hg hc ht,h2⟩,h.pg,h.fr,h.zero,h.fls,h.flin,h.nf,h.fnd⟩
theorem TS.stay {w':World} {V':PV} {c:Nat} {cs:Array Value} {t:TypeId} (h:TS w B D Gp V K pk m A fl pages) (hs:St2 w w' B V V') (hc:w.heap[c]? = some (.cells cs t (0,0))) (ht:tyQ t=false):w'.heap[c]? = some (.cells cs t (0,0)):=by
  obtain ⟨C,h1,h2⟩:=h.po
  exact h1.stay hs hc ht
theorem TS.mono {m':Nat} (h:TS w B D Gp V K pk m A fl pages) (hm:m≤m'):TS w B D Gp V K pk m' A fl pages:=by
  obtain ⟨C,h1,h2⟩:=h.po
  exact ⟨⟨C,h1.mono hm,h2⟩,h.pg,h.fr,h.zero,h.fls,h.flin,h.nf,h.fnd⟩
theorem TS.flsmall (h:TS w B D Gp V K pk m A fl pages):fl.headD 0≤2147483647∧pages≤59000:=by
  obtain ⟨C,h1,h2⟩:=h.po
  have:=h1.pi.pg
  have hp:=h.pg
  refine ⟨?_,by omega⟩
  cases fl with
  | nil=>exact Nat.zero_le _
  | cons f r=>have:=(h.flin f (List.mem_cons_self ..)).2;show f≤_;omega
end
def TB (w:World) (tb Gp root:Nat):Prop:=w.heap[tb]? = some (.cells #[(.pointer (some ⟨Gp,0,none⟩)),.int .i64 (root:Int)] 92 (0,0))
theorem TB.cells {w:World} {tb Gp root:Nat} (h:TB w tb Gp root):w.cell? ⟨tb,0,none⟩=some (.pointer (some ⟨Gp,0,none⟩))∧w.cell? ⟨tb,1,none⟩=some (.int .i64 (root:Int))∧tb<w.heap.size:=by
  have h:w.heap[tb]? = _:=h
  exact ⟨by simp [World.cell?,h],by simp [World.cell?,h],(Array.getElem?_eq_some_iff.1 h).1⟩
theorem ccheck (w:World):Calls Tryz.prog 73 #[.int .i64 0] w fun e w'=>e=.returned (.tuple #[])∧w'=w:=by
  go_enter Tryz.func73,Tryz.ntmps73
  go_wp2
  go_end0
  exact ⟨rfl,rfl⟩
section
variable {w:World} {B D Gp:Nat} {V:PV} {K:Pgs} {pk m:Nat} {A:Nat→PgV} {fl:List Nat} {pages tb root:Nat}
set_option maxRecDepth 20000 in
set_option maxHeartbeats 2000000 in
theorem ctread (h:TS w B D Gp V K pk m A fl pages) (hm:m≤50000) (ht:TB w tb Gp root) (n:Nat) (hn:n<pages) :
    Calls Tryz.prog 163 #[(.pointer (some ⟨tb,0,none⟩)),.int .i64 (n:Int)] w fun e w'=>∃ V' v,e=.returned (.agg #[.int .i64 ((A n).kind:Int),.int .i64 ((A n).link:Int),v])∧TS w' B D Gp V' K pk m A fl pages∧St2 w w' B V V'∧w'.ownsRow w.heap.size 9 1 v (A n).cells.length (valsS (A n).cells):=by
  obtain ⟨t0,t1,tlt⟩:=ht.cells
  have hb:Below w.heap.size w (w.alloc (.cells #[.int .i64 0,.int .i64 0,.slice none 0 0] 82)):=((Below.refl _ _).alloc (Nat.le_refl _) _)
  obtain ⟨h1,s1⟩:=h.below hb
  obtain ⟨C,p1,hC⟩:=h1.po
  have HR:=hide (creadP p1 hm (n:Int) (by omega) (by rw [h1.pg];omega))
  have HX:=hide (Bx3.new w (.int .i64 0) (.int .i64 0) (.slice none 0 0))
  have H1:=hide (h1)
  have HS1:=hide (s1)
  have HP1:=hide (p1)
  have HC:=hide (hC)
  have HN:=hide (hn)
  have HCn:=hide (hC n hn)
  have HLO:=hide (h.lo)
  clear h h1 s1 p1 hC hb hn ht
  go_enter Tryz.func163,Tryz.ntmps163
  go_wp2_with fail
  refine HR.out.mono ?_
  rintro e w1 ⟨V1,k1,k2,k3,k4,(⟨t,k5,rfl⟩ | ⟨rfl,k5⟩)⟩
  · rw [HCn.out.1] at k5
    injection k5 with k5
    subst k5
    have HX1:=hide (HP1.out.stay k2 HX.out (by decide))
    have HQ1:=hide (show TS w1 B D Gp V1 K pk m A fl pages from ⟨⟨C,k1,HC.out⟩,k3.trans H1.out.pg,k4.trans H1.out.fr,H1.out.zero,H1.out.fls,H1.out.flin,k2.nf H1.out.nf,H1.out.fnd⟩)
    have HS2:=hide (HS1.out.trans k2)
    clear k1 k2 k3 k4 HR
    go_wp2_with fail
    refine (ccheck _).mono ?_
    rintro e w2 ⟨rfl,hw⟩;rw [hw];clear hw
    go_wp2_with fail
    refine (copenq (pgX (A n)) _ (pgX_size HCn.out.2)).mono ?_
    rintro e w3 ⟨(⟨_,v,rfl,ho⟩ | ⟨k,_⟩),hb3⟩
    · obtain ⟨g1,g2,g3,g4⟩:=pgX_good HCn.out.2
      rw [g4] at ho
      rw [g2,g3]
      obtain ⟨a,c,rfl,-⟩:=sta_own (L:=(A n).cells) ho
      have HO:=hide (ho)
      have hX3:Bx3 w3 w.heap.size (.int .i64 0) (.int .i64 0) (.slice none 0 0):=Bx3.below HX1.out hb3
      have x0:=hX3.c0
      have x1:=hX3.c1
      have x2:=hX3.c2
      have y0:=hX3.fz 0
      have y1:=hX3.fz 1
      have y2:=hX3.fz 2
      have hXlt:=hX3.lt
      have HB3:=hide (hb3)
      generalize hkd:(A n).kind=kd at *
      generalize hlk:(A n).link=lk at *
      generalize hcl:(A n).cells=cl at *
      have HE:=hide (show (A n).kind=kd∧(A n).link=lk∧(A n).cells=cl from ⟨hkd,hlk,hcl⟩)
      have hg:=grown_put w3 w.heap.size (.int .i64 (kd:Int)) (.int .i64 (lk:Int)) (.slice a cl.length c)
      obtain ⟨q3,r3⟩:=HQ1.out.below hb3
      have q4:=q3.other hg ⟨_,hX3⟩ (by decide)
      have r4:=(HS2.out.trans r3).other hg (Nat.le_refl _) HLO.out
      have ho4:=own_put hX3 ho (.int .i64 (kd:Int)) (.int .i64 (lk:Int)) (.slice a cl.length c)
      generalize hW4:((w3.setCell ⟨w.heap.size,0,none⟩ (.int .i64 (kd:Int))).setCell ⟨w.heap.size,1,none⟩ (.int .i64 (lk:Int))).setCell ⟨w.heap.size,2,none⟩ (.slice a cl.length c)=W4 at *
      have HW4:=hide (hW4)
      obtain ⟨q5,r5⟩:=q4.below (w':=W4.alloc (.cells #[.int .i64 (kd:Int),.int .i64 (lk:Int),.slice a cl.length c] 82)) ((Below.refl _ _).alloc (Nat.le_refl _) _)
      have HQ5:=hide (q5)
      have HS5:=hide (r4.trans r5)
      have HO5:=hide (own_mono (own_below ho4 (W':=W4.alloc (.cells #[.int .i64 (kd:Int),.int .i64 (lk:Int),.slice a cl.length c] 82)) ((Below.refl _ _).alloc (Nat.le_refl _) _)) (show w.heap.size≤w1.heap.size from Nat.le_trans (by simp) (HS2.out.bel.size)))
      clear g1 g2 g3 g4 ho hb3 hkd hlk hcl q3 r3 q4 r4 ho4 q5 r5 hW4 hg hX3 HO
      go_wp2_with fail
      refine (ccheck _).mono ?_
      rintro e w4 ⟨rfl,hw⟩;rw [hw];clear hw
      go_wp2
      rw [HW4.out]
      exact bodyPost_ret (v:=.agg #[.int .i64 (kd:Int),.int .i64 (lk:Int),.slice a cl.length c]) (by simp [results,Tryz.results163,go_sem,← HW4.out, *]) rfl ⟨V1,_,by rw [HE.out.1,HE.out.2.1],HQ5.out,HS5.out,by rw [HE.out.2.2];exact HO5.out⟩
    · exact absurd (pgX_good HCn.out.2).1 k
  · have:=(k2.nf H1.out.nf).2
    rw [k5] at this
    cases this
end
end Go.Proofs.YtmgjdjjfeapcdaaGreat
namespace Go.Proofs.YtmgjdjjfeapcdaaGreat
open Go.RowKit Go.Lib Go.Maps Go.Sort
attribute [local go_sem ↓] Go.wp_at_zero Go.wp_at_succ
structure NV where
  kind:Nat
  link:Nat
  cells:List ByteArray
  num:Nat
  low:ByteArray
  high:ByteArray
  taken:Nat
def ndC (v:NV) (s:Value):Array Value:=#[.int .i64 (v.kind:Int),.int .i64 (v.link:Int),s,.int .i64 (v.num:Int),.string v.low,.string v.high,.int .i64 (v.taken:Int)]
def NB (w:World) (p:Nat) (v:NV) (s:Value):Prop:=w.heap[p]? = some (.cells (ndC v s) 98 (0,0))
theorem NB.cells {w:World} {p:Nat} {v:NV} {s:Value} (h:NB w p v s) :
    w.cell? ⟨p,0,none⟩=some (.int .i64 (v.kind:Int))∧w.cell? ⟨p,1,none⟩=some (.int .i64 (v.link:Int))∧w.cell? ⟨p,2,none⟩=some s∧w.cell? ⟨p,3,none⟩=some (.int .i64 (v.num:Int))∧w.cell? ⟨p,4,none⟩=some (.string v.low)∧w.cell? ⟨p,5,none⟩=some (.string v.high)∧w.cell? ⟨p,6,none⟩=some (.int .i64 (v.taken:Int))∧(∀ k,w.frozen? ⟨p,k,none⟩=false)∧p<w.heap.size:=by
  have h:w.heap[p]? = _:=h
  refine ⟨?_,?_,?_,?_,?_,?_,?_,fun k=>by simp [World.frozen?,h],(Array.getElem?_eq_some_iff.1 h).1⟩ <;> simp [World.cell?,h,ndC]
/- a row of texts that may be read -/
def StB (w:World) (a:Option Addr) (l:List ByteArray):Prop:=l=[]∨∃ b off cur,a=some ⟨b,off,none⟩∧w.heap[b]? = some (.cells cur 9 (0,0))∧∀ i,i<l.length→cur[off+i]? = some (.string (tx l i))
theorem StB.sta {w:World} {a:Option Addr} {l:List ByteArray} (h:StB w a l):StA w a l.length (tx l):=by
  rcases h with rfl | ⟨b,off,cur,rfl,hb,hc⟩
  · exact .inl rfl
  · exact .inr ⟨b,off,rfl,(Array.getElem?_eq_some_iff.1 hb).1,fun i hi=>by simp only [World.cell?,hb];exact hc i hi⟩
theorem StB.own {w:World} {base:Nat} {s:Value} {l:List ByteArray} (h:w.ownsRow base 9 1 s l.length (valsS l)):∃ a c,s=.slice a l.length c∧StB w a l∧l.length≤c∧c≤maxLen:=by
  rcases h.2 with ⟨rfl,h0⟩ | ⟨g,cap,cur,rfl,hg,hh,h1,h2,h3,h4⟩
  · exact ⟨none,0,by rw [h0],.inl (List.length_eq_zero_iff.1 h0),by omega,Nat.zero_le _⟩
  · refine ⟨_,cap,rfl,.inr ⟨g,0,cur,rfl,hh,fun i hi=>?_⟩,h1,h2⟩
    have:(cur.toList.take (l.length * 1))[i]? = (valsS l)[i]?:=by rw [h4]
    rw [List.getElem?_take] at this
    simp only [Nat.mul_one,hi,if_true] at this
    rw [Nat.zero_add,← Array.getElem?_toList,this]
    simp [valsS,tx,hi]
/- a node that has its cells for its own; one that is read alone -/
def ND (w:World) (B p:Nat) (v:NV):Prop:=∃ s,NB w p v s∧w.ownsRow B 9 1 s v.cells.length (valsS v.cells)
def NR (w:World) (p:Nat) (v:NV):Prop:=∃ a c,NB w p v (.slice a v.cells.length c)∧StB w a v.cells
theorem ND.nr {w:World} {B p:Nat} {v:NV} (h:ND w B p v):NR w p v:=by
  obtain ⟨s,h1,h2⟩:=h
  obtain ⟨a,c,rfl,h3,-⟩:=StB.own h2
  exact ⟨a,c,h1,h3⟩
/- .. whose row is not nil -/
def NRs (w:World) (p:Nat) (v:NV):Prop:=∃ a c,NB w p v (.slice a v.cells.length c)∧StB w a v.cells∧∃ g off:Nat,a=some ⟨g,off,none⟩
theorem NRs.nr {w:World} {p:Nat} {v:NV} (h:NRs w p v):NR w p v:=by
  obtain ⟨a,c,h1,h2,-⟩:=h
  exact ⟨a,c,h1,h2⟩
theorem NR.s {w:World} {p:Nat} {v:NV} (h:NR w p v) (h0:0<v.cells.length):NRs w p v:=by
  obtain ⟨a,c,h1,h2⟩:=h
  refine ⟨a,c,h1,h2,?_⟩
  rcases h2 with e | ⟨b,off,_,e,_⟩
  · rw [e] at h0;exact absurd h0 (by simp)
  · exact ⟨b,off,e⟩
def pgN (v:NV):PgV:=⟨v.kind,v.link,v.cells⟩
section
variable {w w':World} {B D Gp:Nat} {V V':PV} {K:Pgs} {pk m:Nat} {A:Nat→PgV} {fl:List Nat} {pages tb root:Nat}
theorem TS.stayNB {p:Nat} {v:NV} {s:Value} (h:TS w B D Gp V K pk m A fl pages) (hs:St2 w w' B V V') (hn:NB w p v s):NB w' p v s:=h.stay hs hn (by decide)
theorem TS.stayTB (h:TS w B D Gp V K pk m A fl pages) (hs:St2 w w' B V V') (hn:TB w tb Gp root):TB w' tb Gp root:=h.stay hs hn (by decide)
theorem TS.staySt {a:Option Addr} {l:List ByteArray} (h:TS w B D Gp V K pk m A fl pages) (hs:St2 w w' B V V') (hn:StB w a l):StB w' a l:=by
  rcases hn with hn | ⟨b,off,cur,e,hb,hc⟩
  · exact .inl hn
  · exact .inr ⟨b,off,cur,e,h.stay hs hb (by decide),hc⟩
theorem TS.stayR {base n:Nat} {s:Value} {xs:List Value} (h:TS w B D Gp V K pk m A fl pages) (hs:St2 w w' B V V') (hr:w.ownsRow base 9 1 s n xs):w'.ownsRow base 9 1 s n xs:=by
  rcases hr.2 with ⟨e,h0⟩ | ⟨g,cap,cur,e,hg,hh,h1⟩
  · exact ⟨hr.1,.inl ⟨e,h0⟩⟩
  · exact ⟨hr.1,.inr ⟨g,cap,cur,e,hg,h.stay hs hh (by decide),h1⟩⟩
theorem TS.stayND {p:Nat} {v:NV} (h:TS w B D Gp V K pk m A fl pages) (hs:St2 w w' B V V') {b:Nat} (hn:ND w b p v):ND w' b p v:=by
  obtain ⟨s,h1,h2⟩:=hn
  exact ⟨s,h.stayNB hs h1,h.stayR hs h2⟩
theorem TS.stayNR {p:Nat} {v:NV} (h:TS w B D Gp V K pk m A fl pages) (hs:St2 w w' B V V') (hn:NR w p v):NR w' p v:=by
  obtain ⟨a,c,h1,h2⟩:=hn
  exact ⟨a,c,h.stayNB hs h1,h.staySt hs h2⟩
theorem TS.stayNRs {p:Nat} {v:NV} (h:TS w B D Gp V K pk m A fl pages) (hs:St2 w w' B V V') (hn:NRs w p v):NRs w' p v:=by
  obtain ⟨a,c,h1,h2,h3⟩:=hn
  exact ⟨a,c,h.stayNB hs h1,h.staySt hs h2,h3⟩
/- a page is made -/
structure AllR (A:Nat→PgV) (fl:List Nat) (pages n:Nat) (A':Nat→PgV) (fl':List Nat) (pages':Nat):Prop where
  same:∀ x,¬ x=0→¬ x=n→A' x=A x
  perm:∀ X:List Nat,(0 :: (fl ++ X)).Perm (List.range pages)→(0 :: (fl' ++ (n :: X))).Perm (List.range pages')
  pos:0<n∧n<pages'
  pgs:pages≤pages'∧pages'≤pages+1
theorem flc_congr {A A':Nat→PgV}:∀ {l:List Nat},flc A l→(∀ x ∈ l,A' x=A x)→flc A' l
  | [],_,_=>trivial
  | f :: r,⟨h1,h2⟩,h=>⟨by rw [h f (List.mem_cons_self ..)];exact h1,flc_congr h2 fun x hx=>h x (List.mem_cons_of_mem _ hx)⟩
theorem wth_nat (C:Pgs) (n x:Nat) (s:ByteArray):wth C (n:Int) s (x:Int)=if x=n then some s else C (x:Int):=by
  by_cases e:x=n
  · subst e;rw [wth_at,if_pos rfl]
  · rw [wth_ne _ _ (by omega),if_neg e]
end
end Go.Proofs.YtmgjdjjfeapcdaaGreat
namespace Go.Proofs.YtmgjdjjfeapcdaaGreat
open Go.RowKit Go.Lib Go.Maps Go.Sort
attribute [local go_sem ↓] Go.wp_at_zero Go.wp_at_succ
section
variable {w w':World} {B D Gp:Nat} {V V':PV} {K:Pgs} {pk m:Nat} {A:Nat→PgV} {fl:List Nat} {pages tb root:Nat}
/- what Alloc leaves -/
theorem TS.alloc (h:TS w B D Gp V K pk m A fl pages) (hm:m≤40000) (hp:pages<58000) :
    Calls Tryz.prog 72 #[(.pointer (some ⟨Gp,0,none⟩))] w fun e w'=>∃ (V':PV) (n:Nat) (A':Nat→PgV) (fl':List Nat) (pages':Nat),e=.returned (.tuple #[.int .i64 (n:Int),.int .i64 0])∧TS w' B D Gp V' K pk (m+2) A' fl' pages'∧St2 w w' B V V'∧AllR A fl pages n A' fl' pages':=by
  obtain ⟨C,po,hC⟩:=h.po
  cases hfl:fl with
  | nil =>
    have hf:V.P.free=0:=by rw [h.fr,hfl];rfl
    refine (calloc_new po (by omega) (by rw [h.pg];omega) hf).mono ?_
    rintro e w' ⟨V',s,f1,(⟨rfl,p1,q1⟩ | ⟨_,q,_⟩)⟩
    · have hz:=h.zero
      rw [hfl] at hz
      have hpos:0<pages:=by have:=po.pi.pg;have:=h.pg;omega
      refine ⟨V',pages,updA A pages ⟨3,0,[]⟩,[],pages+1,by rw [h.pg],⟨⟨_,q1.mono (by omega),fun x hx=>?_⟩,by rw [p1,h.pg],by rw [f1,hf];rfl,?_,trivial,by simp,s.nf h.nf,List.nodup_nil⟩,s,⟨fun x _ h2=>updA_ne _ _ h2,fun X hX=>?_,⟨hpos,by omega⟩,by omega,by omega⟩⟩
      · rw [h.pg,wth_nat]
        by_cases e:x=pages
        · subst e
          rw [if_pos rfl,updA_at,pgX_none]
          exact ⟨rfl,⟨by show 1≤3;omega,by show 3≤5;omega⟩,by show 0≤_;omega,by show 0≤_;omega⟩
        · rw [if_neg e,updA_ne _ _ e]
          exact hC x (by omega)
      · rw [updA_ne _ _ (by omega)];exact hz
      · rw [List.range_succ]
        have hX:(0 :: X).Perm (List.range pages):=by simpa using hX
        show (0 :: ([] ++ (pages :: X))).Perm (List.range pages ++ [pages])
        have h1:(0 :: pages :: X).Perm (pages :: 0 :: X):=List.Perm.swap _ _ _
        refine h1.trans ((List.Perm.cons pages hX).trans ?_)
        have:=List.perm_append_comm (l₁:=[pages]) (l₂:=List.range pages)
        exact this
    · have:=(s.nf h.nf).2
      rw [q] at this
      cases this
  | cons f r =>
    have hf:V.P.free=f:=by rw [h.fr,hfl];rfl
    have hin:=h.flin f (by rw [hfl];simp)
    have hfls:=h.fls
    rw [hfl] at hfls
    have hz:=h.zero
    rw [hfl] at hz
    have hz:A 0=⟨4,f,[]⟩:=hz
    have hnx:r.headD 0≤2147483647:=by
      have hpp:=h.flsmall.2
      cases r with
      | nil=>exact Nat.zero_le _
      | cons g r=>have:=(h.flin g (by rw [hfl];simp)).2;show g≤_;omega
    refine (calloc_old po (by omega) (by omega) (by rw [h.pg,hf];exact hin.2) (nx:=r.headD 0) hnx (by rw [hf,(hC f hin.2).1,hfls.1,pgX_none]) (by have:=(hC 0 (by omega)).1;rw [hf];rw [hz,pgX_none] at this;exact this)).mono ?_
    rintro e w' ⟨V',C',s,p1,q1,(⟨rfl,f1,rfl⟩ | ⟨_,q⟩)⟩
    · rw [hf] at q1
      have hrn:∀ x ∈ r,¬ x=0:=fun x hx=>by have:=(h.flin x (by rw [hfl];simp [hx])).1;omega
      have hnd:=h.fnd
      rw [hfl,List.nodup_cons] at hnd
      have hfr:=hnd.1
      refine ⟨V',f,updA (updA A 0 ⟨4,r.headD 0,[]⟩) f ⟨3,0,[]⟩,r,pages,by rw [hf],⟨⟨_,q1,fun x hx=>?_⟩,by rw [p1,h.pg],f1,?_,?_,fun x hx=>h.flin x (by rw [hfl];simp [hx]),s.nf h.nf,hnd.2⟩,s,⟨fun x h1 h2=>by rw [updA_ne _ _ h2,updA_ne _ _ h1],fun X hX=>?_,hin,by omega,by omega⟩⟩
      · have h0:((0:Nat):Int)=0:=rfl
        rw [wth_nat,← h0,wth_nat]
        by_cases e:x=f
        · subst e
          rw [if_pos rfl,updA_at,pgX_none]
          exact ⟨rfl,⟨by show 1≤3;omega,by show 3≤5;omega⟩,by show 0≤_;omega,by show 0≤_;omega⟩
        · rw [if_neg e,updA_ne _ _ e]
          by_cases e0:x=0
          · subst e0
            rw [if_pos rfl,updA_at,pgX_none]
            exact ⟨rfl,⟨by show 1≤4;omega,by show 4≤5;omega⟩,hnx,by show 0≤_;omega⟩
          · rw [if_neg e0,updA_ne _ _ e0]
            exact hC x hx
      · rw [updA_ne _ _ (by omega),updA_at]
      · refine flc_congr hfls.2 fun x hx=>?_
        rw [updA_ne _ _ (fun e=>hfr (by rw [← e];exact hx)),updA_ne _ _ (hrn x hx)]
      · refine List.Perm.trans (List.Perm.cons _ ?_) hX
        exact List.perm_middle
    · have:=(s.nf h.nf).2
      rw [q] at this
      cases this
set_option maxRecDepth 20000 in
set_option maxHeartbeats 2000000 in
theorem cfresh (h:TS w B D Gp V K pk m A fl pages) (hm:m≤40000) (hp:pages<58000) (ht:TB w tb Gp root) (kd:Nat) :
    Calls Tryz.prog 32 #[(.pointer (some ⟨tb,0,none⟩)),.int .i64 (kd:Int)] w fun e w'=>∃ (V':PV) (n:Nat) (A':Nat→PgV) (fl':List Nat) (pages' p:Nat),e=.returned (.pointer (some ⟨p,0,none⟩))∧TS w' B D Gp V' K pk (m+2) A' fl' pages'∧St2 w w' B V V'∧AllR A fl pages n A' fl' pages'∧ND w' w.heap.size p ⟨kd,0,[],n,⟨#[]⟩,⟨#[]⟩,0⟩∧w.heap.size≤p:=by
  obtain ⟨t0,t1,tlt⟩:=ht.cells
  have HA:=hide (h.alloc hm hp)
  clear h
  go_enter Tryz.func32,Tryz.ntmps32
  go_wp2_with fail
  refine HA.out.mono ?_
  rintro e w1 ⟨V1,n,A1,fl1,pages1,rfl,k1,k2,k3⟩
  have HK:=hide (show TS w1 B D Gp V1 K pk (m+2) A1 fl1 pages1∧St2 w w1 B V V1∧AllR A fl pages n A1 fl1 pages1 from ⟨k1,k2,k3⟩)
  clear k1 k2 k3 HA
  go_wp2_with fail
  refine (ccheck _).mono ?_
  rintro e w2 ⟨rfl,hw⟩;rw [hw];clear hw
  go_wp2
  go_ret
  obtain ⟨k1,k2,k3⟩:=HK.out
  obtain ⟨q1,q2⟩:=k1.below (w':=w1.alloc (.cells (ndC ⟨kd,0,[],n,⟨#[]⟩,⟨#[]⟩,0⟩ (.slice none 0 0)) 98)) ((Below.refl _ _).alloc (Nat.le_refl _) _)
  exact ⟨V1,n,A1,fl1,pages1,w1.heap.size,rfl,q1,k2.trans q2,k3,⟨_,World.alloc_heap_new w1 _,rfl,.inl ⟨rfl,rfl⟩⟩,k2.bel.size⟩
theorem TS.wr (h:TS w B D Gp V K pk m A fl pages) (hm:m≤40000) (n:Nat) (v:PgV) (hok:okP v) (h0:0<n) (h1:n<pages) (hf:¬ n ∈ fl) :
    Calls Tryz.prog 74 #[(.pointer (some ⟨Gp,0,none⟩)),.int .i64 (n:Int),.string (pgX v)] w fun e w'=>e=.returned (.int .i64 0)∧∃ V',TS w' B D Gp V' K pk (m+1) (updA A n v) fl pages∧St2 w w' B V V':=by
  obtain ⟨C,po,hC⟩:=h.po
  refine (cwriteP po (by omega) (n:Int) (by omega) (by rw [h.pg];omega) (pgX v) (pgX_size hok)).mono ?_
  rintro e w3 ⟨V3,k1,k2,k3,(⟨rfl,k4⟩ | ⟨rfl,k4,k5⟩)⟩
  · refine ⟨rfl,V3,⟨⟨_,k4,fun x hx=>?_⟩,k2.trans h.pg,k3.trans h.fr,by rw [updA_ne _ _ (by omega)];exact h.zero,flc_congr h.fls fun x hx=>updA_ne _ _ (fun e=>hf (by rw [← e];exact hx)),h.flin,k1.nf h.nf,h.fnd⟩,k1⟩
    rw [wth_nat]
    by_cases e:x=n
    · rw [if_pos e,e,updA_at];exact ⟨rfl,hok⟩
    · rw [if_neg e,updA_ne _ _ e];exact hC x hx
  · have:=(k1.nf h.nf).2
    rw [k4] at this
    cases this
theorem TS.fre (h:TS w B D Gp V K pk m A fl pages) (hm:m≤40000) (n:Nat) (h0:0<n) (h1:n<pages) (hf:¬ n ∈ fl) :
    Calls Tryz.prog 162 #[(.pointer (some ⟨Gp,0,none⟩)),.int .i64 (n:Int)] w fun e w'=>e=.returned (.int .i64 0)∧∃ V',TS w' B D Gp V' K pk (m+2) (updA (updA A n ⟨3,fl.headD 0,[]⟩) 0 ⟨4,n,[]⟩) (n :: fl) pages∧St2 w w' B V V':=by
  obtain ⟨C,po,hC⟩:=h.po
  have hfr:=h.fr
  have hsm:=h.flsmall
  refine (cfree po (by omega) n h0 (by rw [h.pg];omega) (by rw [hfr];exact hsm.1) (by have:=(hC 0 (by omega)).1;rw [h.zero,pgX_none] at this;rw [hfr];exact this)).mono ?_
  rintro e w3 ⟨V3,C3,k1,k2,k3,(⟨rfl,k4,rfl⟩ | ⟨rfl,k4⟩)⟩
  · refine ⟨rfl,V3,⟨⟨_,k3,fun x hx=>?_⟩,k2.trans h.pg,k4,updA_at _ _ _,⟨by rw [updA_ne _ _ (by omega),updA_at],flc_congr h.fls fun x hx=>?_⟩,fun x hx=>?_,k1.nf h.nf,List.nodup_cons.2 ⟨hf,h.fnd⟩⟩,k1⟩
    · have e0:((0:Nat):Int)=0:=rfl
      rw [← e0,wth_nat,wth_nat]
      by_cases e:x=0
      · rw [if_pos e,e,updA_at,pgX_none]
        exact ⟨rfl,⟨by show 1≤4;omega,by show 4≤5;omega⟩,by show n≤_;omega,by show 0≤_;omega⟩
      · rw [if_neg e,updA_ne _ _ e]
        by_cases e2:x=n
        · rw [if_pos e2,e2,updA_at,pgX_none,hfr]
          exact ⟨rfl,⟨by show 1≤3;omega,by show 3≤5;omega⟩,hsm.1,by show 0≤_;omega⟩
        · rw [if_neg e2,updA_ne _ _ e2];exact hC x hx
    · have:=(h.flin x hx).1
      rw [updA_ne _ _ (by omega),updA_ne _ _ (fun e=>hf (by rw [← e];exact hx))]
    · rcases List.mem_cons.1 hx with rfl | hx
      · exact ⟨h0,h1⟩
      · exact h.flin x hx
  · have:=(k1.nf h.nf).2
    rw [k4] at this
    cases this
set_option maxRecDepth 20000 in
set_option maxHeartbeats 2000000 in
theorem ctfree (h:TS w B D Gp V K pk m A fl pages) (hm:m≤40000) (ht:TB w tb Gp root) (n:Nat) (h0:0<n) (h1:n<pages) (hf:¬ n ∈ fl) :
    Calls Tryz.prog 104 #[(.pointer (some ⟨tb,0,none⟩)),.int .i64 (n:Int)] w fun e w'=>e=.returned (.tuple #[])∧∃ V',TS w' B D Gp V' K pk (m+2) (updA (updA A n ⟨3,fl.headD 0,[]⟩) 0 ⟨4,n,[]⟩) (n :: fl) pages∧St2 w w' B V V':=by
  obtain ⟨t0,t1,tlt⟩:=ht.cells
  have HF:=hide (h.fre hm n h0 h1 hf)
  clear h ht
  go_enter Tryz.func104,Tryz.ntmps104
  go_wp2_with fail
  refine HF.out.mono ?_
  rintro e w1 ⟨rfl,k1⟩
  have HK:=hide (k1)
  clear k1 HF
  go_wp2_with fail
  refine (ccheck _).mono ?_
  rintro e w2 ⟨rfl,hw⟩;rw [hw];clear hw
  go_wp2
  go_end0
  exact ⟨rfl,HK.out⟩
set_option maxRecDepth 20000 in
set_option maxHeartbeats 2000000 in
theorem ctwrite (h:TS w B D Gp V K pk m A fl pages) (hm:m≤40000) (ht:TB w tb Gp root) {p:Nat} {v:NV} (hn:NR w p v) (hok:okP (pgN v)) (h0:0<v.num) (h1:v.num<pages) (hf:¬ v.num ∈ fl) :
    Calls Tryz.prog 33 #[(.pointer (some ⟨tb,0,none⟩)),(.pointer (some ⟨p,0,none⟩))] w fun e w'=>e=.returned (.tuple #[])∧∃ V',TS w' B D Gp V' K pk (m+1) (updA A v.num (pgN v)) fl pages∧St2 w w' B V V':=by
  obtain ⟨t0,t1,tlt⟩:=ht.cells
  obtain ⟨a,c,hn1,hn2⟩:=hn
  obtain ⟨n0,n1,n2,n3,n4,n5,n6,n7,n8⟩:=hn1.cells
  have HSL:=hide (cseal_ok v.kind v.link a v.cells.length c (tx v.cells) w hn2.sta hok.kind hok.link (by rw [used_len];exact hok.used))
  have HN:=hide (hn1)
  have HT:=hide (ht)
  have H:=hide (h)
  have HV:=hide (show okP (pgN v)∧0<v.num∧v.num<pages∧¬ v.num ∈ fl∧m≤40000 from ⟨hok,h0,h1,hf,hm⟩)
  clear h ht hn1 hn2 hok n4 n5 n6 n7 h0 h1 hf
  go_enter Tryz.func33,Tryz.ntmps33
  go_wp2_with fail
  refine HSL.out.mono ?_
  rintro e w1 ⟨rfl,hb1⟩
  have e1:(⟨(sealed v.kind v.link v.cells.length (tx v.cells)).toArray⟩:ByteArray)=pgX (pgN v):=rfl
  rw [e1]
  clear e1
  obtain ⟨q1,s1⟩:=H.out.below hb1
  obtain ⟨u0,u1,ult⟩:=(H.out.stayTB s1 HT.out).cells
  obtain ⟨x0,x1,x2,x3,x4,x5,x6,x7,x8⟩:=(H.out.stayNB s1 HN.out).cells
  have HQ:=hide (q1)
  have HS1:=hide (s1)
  have HW:=hide (fun (W:World) (hW:TS W B D Gp V K pk m A fl pages)=>hW.wr HV.out.2.2.2.2 v.num (pgN v) HV.out.1 HV.out.2.1 HV.out.2.2.1 HV.out.2.2.2.1)
  generalize pgX (pgN v)=px at *
  clear q1 s1 HSL t0 t1 n0 n1 n2 n3 hb1 x0 x1 x2 x4 x5 x6 x7 tlt n8
  go_wp2_with fail
  refine (ccheck _).mono ?_
  rintro e w2 ⟨rfl,hw⟩;rw [hw];clear hw
  go_wp2_with fail
  go_region_with (first | (go_at_call 74;refine (HW.out _ (HQ.out.below ((Below.refl _ _).drew)).1).mono ?_;rintro e w3 ⟨rfl,k1⟩) | (go_at_call 73;refine (ccheck _).mono ?_;rintro e w4 ⟨rfl,hw⟩;rw [hw];clear hw))
  all_goals
    go_wp2
    go_end0
    obtain ⟨V',r1,r2⟩:=k1
    exact ⟨rfl,V',r1,HS1.out.trans ((HQ.out.below ((Below.refl _ _).drew)).2.trans r2)⟩
end
end Go.Proofs.YtmgjdjjfeapcdaaGreat
