/- a part -/
import Derived.Test.YtfjkockcgddgbaaGreatP8
set_option maxRecDepth 100000
set_option maxHeartbeats 8000000
namespace Go.Proofs.YtfjkockcgddgbaaGreat
open Go.RowKit
variable {l:List UInt8}{a n k i j K Lk:Nat}{S T:Nat→ByteArray}
def vw (l:List UInt8)(i:Nat):Nat:=(l.getD i 0).toNat
theorem get_mk (l:List UInt8)(i:Nat):(⟨l.toArray⟩:ByteArray)[i]! = l.getD i 0:=by
 by_cases h:i<l.length
 ·rw[getElem!_pos _ i (show i<(⟨l.toArray⟩:ByteArray).size from by simpa[ByteArray.size] using h)];rw[List.getD_eq_getElem?_getD,List.getElem?_eq_getElem h];rfl
 ·rw[getElem!_neg _ i (show ¬i<(⟨l.toArray⟩:ByteArray).size from by simpa[ByteArray.size] using h)];rw[List.getD_eq_getElem?_getD,List.getElem?_eq_none (by omega)];rfl
theorem byt_mk (l:List UInt8)(i:Nat):byt ⟨l.toArray⟩ i=vw l i:=by
 unfold byt vw;rw[get_mk]
theorem vw_set (ha:a<l.length)(x:UInt8)(i:Nat):vw (l.set a x) i=if i=a then x.toNat else vw l i:=by
 unfold vw;rw[List.getD_eq_getElem?_getD,List.getD_eq_getElem?_getD];by_cases h:i=a
 ·subst h;rw[if_pos rfl,List.getElem?_set_self ha];rfl
 ·rw[if_neg h,List.getElem?_set_ne (Ne.symm h)]
theorem vw_put2 (ha:a+1<l.length)(n i:Nat):vw (put2 l a n) i=if i=a+1 then n%256 else if i=a then n/256%256 else vw l i:=by
 unfold put2;rw[vw_set (by rw[List.length_set];exact ha),vw_set (by omega)];simp
theorem vw_spl {o:Nat}{t:ByteArray}(h:o+t.size≤l.length)(i:Nat):vw (spl l o t) i=if o≤i∧i<o+t.size then byt t (i-o) else vw l i:=by
 have ht:t.data.toList.length=t.size:=rfl;have e:t=⟨t.data.toList.toArray⟩:=by cases t;simp
 unfold spl;by_cases h1:i<o
 ·rw[if_neg (by omega)];unfold vw;rw[List.getD_eq_getElem?_getD,List.getD_eq_getElem?_getD,List.append_assoc,List.getElem?_append_left (by simp;omega),List.getElem?_take_of_lt h1]
 ·by_cases h2:i<o+t.size
  ·rw[if_pos (by omega)];have hb:byt t (i-o)=vw t.data.toList (i-o):=by
    rw[←byt_mk]
   rw[hb];unfold vw;rw[List.getD_eq_getElem?_getD,List.getD_eq_getElem?_getD,List.getElem?_append_left (by simp;omega),List.getElem?_append_right (by simp;omega)]
   congr 3
   simp;omega
  ·rw[if_neg (by omega)];unfold vw;rw[List.getD_eq_getElem?_getD,List.getD_eq_getElem?_getD,List.getElem?_append_right (by simp;omega),List.getElem?_drop]
   congr 3
   simp;omega
theorem two_mk (l:List UInt8)(i:Nat):two ⟨l.toArray⟩ i=vw l i*256+vw l (i+1):=by unfold two;rw[byt_mk,byt_mk]
theorem lay_len (hl:l.length=1024)(hn:4*n+len S n≤1012):∀k,k≤n→(lay S l k).length=1024
 | 0,_=>hl
 | k + 1, hk => by
  have ih:=lay_len hl hn k (by omega);have h1:=len_mono S hk;have h2:len S (k+1)=len S k+(S k).size:=rfl;have e:(put2 (put2 (lay S l k) (12+2*k) (at' S (k+1))) (at' S (k+1)) (S k).size).length=1024:=by rw[put2_len,put2_len,ih]
  show(spl _ _ _).length=1024;rw[spl_len _ _ _ (by rw[e];unfold at';omega),e]
theorem lay_step (hl:l.length=1024)(hn:4*n+len S n≤1012)(hk:k+1≤n)(i:Nat):vw (lay S l (k+1)) i=if at' S (k+1)+2≤i∧i<at' S (k+1)+2+(S k).size then byt (S k) (i-(at' S (k+1)+2)) else if i=at' S (k+1)+1 then(S k).size%256 else if i=at' S (k+1) then(S k).size/256%256 else if i=12+2*k+1 then at' S (k+1)%256 else if i=12+2*k then at' S (k+1)/256%256 else vw (lay S l k) i:=by
 have ih:=lay_len (S:=S) hl hn k (by omega);have h1:=len_mono S hk;have h2:len S (k+1)=len S k+(S k).size:=rfl;show vw (spl _ _ _) i=_;rw[vw_spl (by rw[put2_len,put2_len,ih];unfold at';omega),vw_put2 (by rw[put2_len,ih];unfold at';omega),vw_put2 (by rw[ih];omega)]
theorem at_s (hn:4*n+len S n≤1012)(hk:k+1≤n):at' S (k+1)+2+(S k).size=at' S k∧12+2*n≤at' S (k+1)∧at' S k≤1024:=by
 have h1:=len_mono S hk;have h2:len S (k+1)=len S k+(S k).size:=rfl;unfold at';omega
theorem lay_same (hl:l.length=1024)(hn:4*n+len S n≤1012)(hk:k+1≤n)(h1:i<12+2*k∨12+2*k+2≤i)(h2:i<at' S (k+1)∨at' S k≤i):vw (lay S l (k+1)) i=vw (lay S l k) i:=by
 obtain⟨a1,a2,a3⟩:=at_s hn hk;rw[lay_step hl hn hk,if_neg (by omega),if_neg (by omega),if_neg (by omega),if_neg (by omega),if_neg (by omega)]
theorem at_mono (hjk:j≤k):at' S k≤at' S j:=by
 have:=len_mono S hjk;unfold at';omega
theorem lay_keep (hl:l.length=1024)(hn:4*n+len S n≤1012)(h:i<12+2*j∨at' S j≤i):∀{k:Nat},j≤k→k≤n→vw (lay S l k) i=vw (lay S l j) i:=by
 intro k hjk hk
 induction k with
 | zero =>
  have:j=0:=by omega
  subst this;rfl
 | succ k ih =>
  by_cases e:j=k+1
  ·subst e;rfl
  ·obtain⟨a1,a2,a3⟩:=at_s hn hk;have a4:=at_mono (S:=S) (show j≤k by omega);rw[lay_same hl hn hk (by omega) (by omega),ih (by omega) (by omega)]
theorem body_len (hn:4*n+len S n≤1012):(body K Lk n S).length=1024:=lay_len (head_lenq _ _ _) hn n (Nat.le_refl _)
theorem sealed_len (hn:4*n+len S n≤1012):(sealed K Lk n S).length=1024:=by unfold sealed;rw[put4_len,body_len hn]
theorem vw_put4 (ha:a+3<l.length)(m i:Nat):vw (put4 l a m) i=if i=a+3 then m%256 else if i=a+2 then m/256%256 else if i=a+1 then m/65536%256 else if i=a then m/65536/256%256 else vw l i:=by
 unfold put4;rw[vw_put2 (by rw[put2_len];omega),vw_put2 (by omega)]
theorem vw_head (i:Nat):vw (head K Lk n) i=if i=11 then Lk%256 else if i=10 then Lk/256%256 else if i=9 then Lk/65536%256 else if i=8 then Lk/65536/256%256 else if i=7 then n%256 else if i=6 then n/256%256 else if i=4 then K%256 else vw blankq i:=by
 unfold head;rw[vw_put4 (by rw[put2_len,List.length_set,blank_lenq];omega),vw_put2 (by rw[List.length_set,blank_lenq];omega),vw_set (by rw[blank_lenq];omega)];simp
theorem vw_sealed (hn:4*n+len S n≤1012)(hi:4≤i):vw (sealed K Lk n S) i=vw (body K Lk n S) i:=by
 unfold sealed;rw[vw_put4 (by rw[body_len hn];omega),if_neg (by omega),if_neg (by omega),if_neg (by omega),if_neg (by omega)]
theorem vw_low (hn:4*n+len S n≤1012)(h4:4≤i)(hi:i<12):vw (sealed K Lk n S) i=vw (head K Lk n) i:=by
 rw[vw_sealed hn h4];exact lay_keep (head_lenq _ _ _) hn (j:=0) (by omega) (Nat.zero_le _) (Nat.le_refl _)
theorem sealed_kind (hn:4*n+len S n≤1012)(hK:K≤5):byt ⟨(sealed K Lk n S).toArray⟩ 4=K:=by
 rw[byt_mk,vw_low hn (by omega) (by omega),vw_head];simp;omega
theorem sealed_many (hn:4*n+len S n≤1012):two ⟨(sealed K Lk n S).toArray⟩ 6=n:=by
 rw[two_mk,vw_low hn (by omega) (by omega),vw_low hn (by omega) (by omega),vw_head,vw_head];simp;omega
theorem sealed_link (hn:4*n+len S n≤1012)(hL:Lk≤2147483647):four ⟨(sealed K Lk n S).toArray⟩ 8=Lk:=by
 unfold four;rw[two_mk,two_mk,vw_low hn (by omega) (by omega),vw_low hn (by omega) (by omega),vw_low hn (by omega) (by omega),vw_low hn (by omega) (by omega),vw_head,vw_head,vw_head,vw_head];simp;omega
theorem sealed_at (hn:4*n+len S n≤1012)(hk:k+1≤n):two ⟨(sealed K Lk n S).toArray⟩ (12+2*k)=at' S (k+1):=by
 obtain⟨a1,a2,a3⟩:=at_s hn hk;rw[two_mk,vw_sealed hn (by omega),vw_sealed hn (by omega)];have e1:vw (body K Lk n S) (12+2*k)=at' S (k+1)/256%256:=by
  refine(lay_keep (head_lenq _ _ _) hn (j:=k+1) (by omega) hk (Nat.le_refl _)).trans ?_;rw[lay_step (head_lenq _ _ _) hn hk,if_neg (by omega),if_neg (by omega),if_neg (by omega),if_neg (by omega),if_pos rfl]
 have e2:vw (body K Lk n S) (12+2*k+1)=at' S (k+1)%256:=by
  refine(lay_keep (head_lenq _ _ _) hn (j:=k+1) (by omega) hk (Nat.le_refl _)).trans ?_;rw[lay_step (head_lenq _ _ _) hn hk,if_neg (by omega),if_neg (by omega),if_neg (by omega),if_pos rfl]
 rw[e1,e2];omega
theorem sealed_size (hn:4*n+len S n≤1012)(hk:k+1≤n):two ⟨(sealed K Lk n S).toArray⟩ (at' S (k+1))=(S k).size:=by
 obtain⟨a1,a2,a3⟩:=at_s hn hk;rw[two_mk,vw_sealed hn (by omega),vw_sealed hn (by omega)];have e1:vw (body K Lk n S) (at' S (k+1))=(S k).size/256%256:=by
  refine(lay_keep (head_lenq _ _ _) hn (j:=k+1) (by omega) hk (Nat.le_refl _)).trans ?_;rw[lay_step (head_lenq _ _ _) hn hk,if_neg (by omega),if_neg (by omega),if_pos rfl]
 have e2:vw (body K Lk n S) (at' S (k+1)+1)=(S k).size%256:=by
  refine(lay_keep (head_lenq _ _ _) hn (j:=k+1) (by omega) hk (Nat.le_refl _)).trans ?_;rw[lay_step (head_lenq _ _ _) hn hk,if_neg (by omega),if_pos rfl]
 rw[e1,e2];omega
theorem sealed_cell (hn:4*n+len S n≤1012)(hk:k+1≤n)(hi:i<(S k).size):vw (sealed K Lk n S) (at' S (k+1)+2+i)=byt (S k) i:=by
 obtain⟨a1,a2,a3⟩:=at_s hn hk;rw[vw_sealed hn (by omega)];refine(lay_keep (head_lenq _ _ _) hn (j:=k+1) (by omega) hk (Nat.le_refl _)).trans ?_;rw[lay_step (head_lenq _ _ _) hn hk,if_pos (by omega)]
 congr 1
 omega
theorem byt_ext {a b:ByteArray}(hs:a.size=b.size)(h:∀i,i<a.size→byt a i=byt b i):a=b:=by
 cases a with | mk a =>
 cases b with | mk b =>
 congr 1
 apply Array.ext hs;intro i h1 h2;have e:=h i h1;unfold byt at e;rw[getElem!_pos _ i (show i<(⟨a⟩:ByteArray).size from h1),getElem!_pos _ i (show i<(⟨b⟩:ByteArray).size from h2)] at e;exact UInt8.toNat_inj.1 e
theorem byt_extract {s:ByteArray}{b:Nat}(hb:b≤s.size)(hi:i<b-a):byt (s.extract a b) i=byt s (a+i):=by
 have hz:(s.extract a b).size=b-a:=by rw[ByteArray.size_extract];omega
 have h1:i<(s.extract a b).size:=by omega
 have h2:a+i<s.size:=by omega
 unfold byt;rw[getElem!_pos _ i h1,getElem!_pos _ (a+i) h2,ByteArray.getElem_extract]
theorem size_mk (l:List UInt8):(⟨l.toArray⟩:ByteArray).size=l.length:=by simp[ByteArray.size]
theorem sealed_extract (hn:4*n+len S n≤1012)(hk:k+1≤n):(⟨(sealed K Lk n S).toArray⟩:ByteArray).extract (at' S (k+1)+2) (at' S k)=S k:=by
 obtain⟨a1,a2,a3⟩:=at_s hn hk;have hz:(⟨(sealed K Lk n S).toArray⟩:ByteArray).size=1024:=by rw[size_mk,sealed_len hn]
 have hs:((⟨(sealed K Lk n S).toArray⟩:ByteArray).extract (at' S (k+1)+2) (at' S k)).size=(S k).size:=by
  rw[ByteArray.size_extract];omega
 refine byt_ext hs fun i hi=>?_
 rw[hs] at hi;rw[byt_extract (by omega) (by omega),byt_mk,sealed_cell hn hk hi]
theorem sealed_rd (hn:4*n+len S n≤1012):∀f k,k+f=n→rd ⟨(sealed K Lk n S).toArray⟩ f k (at' S k)=(List.range' k f).map S
 | 0,k,_=>rfl
 | f + 1, k, hk => by
  obtain⟨a1,a2,a3⟩:=at_s hn (show k+1≤n by omega);have e1:=sealed_at (K:=K) (Lk:=Lk) hn (show k+1≤n by omega);have e2:=sealed_size (K:=K) (Lk:=Lk) hn (show k+1≤n by omega);rw[rd_go (by rw[e1,e2];omega),e1,sealed_extract hn (show k+1≤n by omega),sealed_rd hn f (k+1) (by omega)];rfl
theorem sealed_cls (hn:4*n+len S n≤1012):cls ⟨(sealed K Lk n S).toArray⟩=(List.range n).map S:=by
 unfold cls many;rw[sealed_many hn,Nat.min_eq_left (by omega)];have:=sealed_rd (K:=K) (Lk:=Lk) hn n 0 (by omega);rw[show at' S 0=1024 from rfl] at this;rw[this,List.range_eq_range']
theorem len_congr:∀{k:Nat},(∀i,i<k→S i=T i)→len S k=len T k
 | 0,_=>rfl
 | k + 1, h => by
  show len S k+(S k).size=len T k+(T k).size;rw[len_congr (fun i hi=>h i (by omega)),h k (by omega)]
theorem at_congr (h:∀i,i<k→S i=T i):at' S k=at' T k:=by
 unfold at';rw[len_congr h]
theorem lay_congr (l:List UInt8):∀{k:Nat},(∀i,i<k→S i=T i)→lay S l k=lay T l k
 | 0,_=>rfl
 | k + 1, h => by
  show spl _ _ (S k)=spl _ _ (T k);rw[lay_congr l (fun i hi=>h i (by omega)),at_congr h,h k (by omega)]
theorem sealed_congr (h:∀i,i<n→S i=T i):sealed K Lk n S=sealed K Lk n T:=by
 unfold sealed body;rw[lay_congr _ h]
theorem tx_range (S:Nat→ByteArray)(hi:i<n):tx ((List.range n).map S) i=S i:=by
 unfold tx;rw[List.getD_eq_getElem?_getD,List.getElem?_map,List.getElem?_range hi];rfl
theorem sealed_good (hK:1≤K∧K≤5)(hL:Lk≤2147483647)(hn:4*n+len S n≤1012):good ⟨(sealed K Lk n S).toArray⟩:=by
 have e1:=sealed_kind (K:=K) (Lk:=Lk) hn hK.2;have e2:=sealed_link (K:=K) (Lk:=Lk) hn hL;have e3:=sealed_cls (K:=K) (Lk:=Lk) hn;have hl:((List.range n).map S).length=n:=by simp
 have hc:∀i,i<n→tx ((List.range n).map S) i=S i:=fun i hi=>tx_range S hi
 unfold good;rw[e1,e2,e3,hl,len_congr hc,sealed_congr hc];exact⟨⟨hK.1,hK.2,hL⟩,hn,rfl⟩
end Go.Proofs.YtfjkockcgddgbaaGreat
