/- what a log must hold to tell a commit: plain facts -/
import Derived.Test.YtmgjdjjfeapcdaaGreatMgAD
import Derived.WalkKit
import Derived.WalkSpells
import Derived.WalkLawsBesides
import Derived.Test.YtmgjdjjfeapcdaaGreatMgAA
import Derived.Laws.BitsAllLaws
import Derived.Deep.QuietTactic
import Derived.BigQuiet
import Derived.RegionTactic
import Derived.OwnWalk
import Derived.Lib.BufferWrite
import Derived.Laws.IdiomStrings
import Derived.Laws.CopyOwn
import Derived.RangeFuncBox
import Derived.Deep.AppendLies
import Derived.Laws.OwnMore
namespace Go.Proofs.YtmgjdjjfeapcdaaGreat
/- the bytes of two files below a, from b on -/
theorem headP_ext {l l':List UInt8} (h:∀ i,i<64→bL l' i=bL l i):headP l'=headP l:=by
  refine ext_byt (by rw [headP_size,headP_size]) fun i hi=>?_
  rw [headP_size] at hi
  rw [headP_byt _ hi,headP_byt _ hi,h i hi]
/- what a log must hold to tell commit c -/
structure TP (log:List UInt8) (c:Cm):Prop where
  len:(40≤log.length∧log.length≤52)∨64≤log.length
  mark:isMark (headP log)=true
  slot:c.slot≤1
  number:1≤c.number∧c.number≤3
  frames:c.frames<4294967296
  pages:c.pages<4294967296
  text:(headP log).extract (16+24 * c.slot) (16+24 * c.slot+24)=txtB c.number c.frames c.pages
  fits:c.frames=0∨64+1028 * c.frames≤log.length
  other:numB (headP log) (16+24 * (1 - c.slot)+12)=0∨nxN (numB (headP log) (16+24 * (1 - c.slot)+12))=c.number
theorem TP.cur {log:List UInt8} {c:Cm} (h:TP log c):CurP log c:=curP_of h.len h.mark h.slot h.number h.frames h.pages h.text h.fits h.other
theorem TP.last {log:List UInt8} {c:Cm} (h:TP log c):lastC log=c:=h.cur.last
theorem TP.ok {log:List UInt8} {c:Cm} (h:TP log c):okCm c:=by rw [← h.last];exact last_ok log
theorem TP.keep {log log':List UInt8} {c:Cm} (h:TP log c) (hb:∀ i,i<64→bL log' i=bL log i) (hl:(40≤log'.length∧log'.length≤52)∨64≤log'.length) (hf:c.frames=0∨64+1028 * c.frames≤log'.length):TP log' c:=by
  have e:=headP_ext hb
  exact ⟨hl,by rw [e];exact h.mark,h.slot,h.number,h.frames,h.pages,by rw [e];exact h.text,hf,by rw [e];exact h.other⟩
theorem mark_wr {log:List UInt8} {q:Nat} {t:ByteArray} (hq:16≤q):isMark (headP (onL q t false log))=isMark (headP log):=by
  unfold isMark
  rw [headP_size,headP_size,wr_cut (by omega) (.inl hq)]
/- the slot's number in its second half -/
theorem TP.second {log:List UInt8} {c:Cm} (h:TP log c):numB (headP log) (16+24 * c.slot+12)=c.number:=by
  have hn:=h.number
  refine Eq.trans ?_ (txt_second (n:=c.number) (by omega) h.frames h.pages)
  have hs:=headP_size log
  have:=h.slot
  refine num_same fun i hi=>?_
  rw [← h.text,byt_cut (by omega) (by omega),Nat.add_assoc]
/- the next commit's slot is written whole -/
theorem TP.whole {log:List UInt8} {c:Cm} (h:TP log c) (fr pg:Nat) (h1:fr<4294967296) (h2:pg<4294967296) (hf:fr=0∨64+1028 * fr≤log.length):TP (onL (16+24 * (1 - c.slot)) (txtB (nxN c.number) fr pg) false log) (flC c fr pg):=by
  have hs:=h.slot
  have hn:=h.number
  have ht:=txtB_size (nxN c.number) fr pg
  have hlen:(onL (16+24 * (1 - c.slot)) (txtB (nxN c.number) fr pg) false log).length=max log.length (16+24 * (1 - c.slot)+24):=by rw [onL_len,ht];rfl
  have hL:=h.len
  have e1:16+24 * (1 - c.slot)+24=16+24 * (1 - c.slot)+(txtB (nxN c.number) fr pg).size:=by rw [ht]
  refine ⟨by rw [hlen];omega,by rw [mark_wr (by omega)];exact h.mark,by show 1 - c.slot≤1;omega,by show 1≤c.number % 3+1∧c.number % 3+1≤3;omega,h1,h2,?_,?_,.inr ?_⟩
  · show (headP _).extract (16+24 * (1 - c.slot)) (16+24 * (1 - c.slot)+24)=_
    rw [e1]
    exact wr_in (by omega)
  · show fr=0∨64+1028 * fr≤_
    rw [hlen];omega
  · show nxN (numB _ (16+24 * (1 - (1 - c.slot))+12))=nxN c.number
    rw [show 1 - (1 - c.slot)=c.slot by omega,wr_num (by omega) (by rw [ht];omega),h.second]
/- half of it is written -/
theorem TP.half {log:List UInt8} {c:Cm} (h:TP log c) (t:ByteArray) (ht:t.size=12):TP (onL (16+24 * (1 - c.slot)) t false log) c:=by
  have hs:=h.slot
  have hlen:(onL (16+24 * (1 - c.slot)) t false log).length=max log.length (16+24 * (1 - c.slot)+12):=by rw [onL_len,ht];rfl
  have hL:=h.len
  have hf:=h.fits
  refine ⟨by rw [hlen];omega,by rw [mark_wr (by omega)];exact h.mark,hs,h.number,h.frames,h.pages,?_,by rw [hlen];omega,?_⟩
  · rw [wr_cut (by omega) (by rw [ht];omega)]
    exact h.text
  · rw [wr_num (by omega) (by rw [ht];omega)]
    exact h.other
end Go.Proofs.YtmgjdjjfeapcdaaGreat
namespace Go.Proofs.YtmgjdjjfeapcdaaGreat
/- which frames hold which pages, and what pages a disk with these two files shows: plain facts -/
theorem cut_byt {l:List UInt8} {p n i:Nat} (hi:i<n):bytS ⟨((l.drop p).take n).toArray⟩ i=(bL l (p+i)).toNat:=by
  rw [← bytS_ll]
  show (bL ((l.drop p).take n).toArray.toList i).toNat=_
  unfold bL
  rw [List.getElem?_take_of_lt hi,List.getElem?_drop]
theorem frN_same {log log':List UInt8} {i:Nat} (h:∀ j,j<4→bL log' (64+1028 * i+j)=bL log (64+1028 * i+j)):frN log' i=frN log i:=by
  refine num_same fun j hj=>?_
  unfold frT
  rw [Nat.zero_add,cut_byt hj,cut_byt hj,h j hj]
theorem fndM_same {log log':List UInt8} {F:Int→Option Int}:∀ {k:Nat},(∀ j,64≤j→j<64+1028 * k→bL log' j=bL log j)→fndM log' F k=fndM log F k
  | 0,_=>rfl
  | k+1,h=>by
    show updM (fndM log' F k) (frN log' k) k=updM (fndM log F k) (frN log k) k
    rw [fndM_same (k:=k) (fun j h1 h2=>h j h1 (by omega)),frN_same (fun j hj=>h _ (by omega) (by omega))]
theorem fndM_lt {log:List UInt8} {x v:Int}:∀ {k:Nat},fndM log (fun _=>none) k x=some v→0≤v∧v<k
  | 0,h=>by cases h
  | k+1,h=>by
    have h:updM (fndM log (fun _=>none) k) (frN log k) k x=some v:=h
    unfold updM at h
    split at h
    · injection h with h;omega
    · have:=fndM_lt h;omega
def noM:Int→Option Int:=fun _=>none
/- the pages that files P (places) and log (its first k frames) show are those of F -/
structure VwA (P log:List UInt8) (k:Nat) (F:Int→Option ByteArray) (n:Nat):Prop where
  inlog:∀ v,fndM log noM k n=some v→∃ t,F n=some t∧t.size=1024∧∀ i,i<1024→bytS t i=(bL log (64+1028 * v.toNat+4+i)).toNat
  place:fndM log noM k n=none→(∀ t,F n=some t→t.size=1024∧1024 * (n+1)≤P.length∧∀ i,i<1024→bytS t i=(bL P (1024 * n+i)).toNat)∧(F n=none→∀ i,i<1024→bL P (1024 * n+i)=0)
def VwN (P log:List UInt8) (k:Nat) (F:Int→Option ByteArray):Prop:=∀ n,n<60000→VwA P log k F n
/- page n of P is as it was -/
def PgK (P P':List UInt8) (n:Nat):Prop:=(∀ i,i<1024→bL P' (1024 * n+i)=bL P (1024 * n+i))∧(1024 * (n+1)≤P.length→1024 * (n+1)≤P'.length)
theorem PgK.refl (P:List UInt8) (n:Nat):PgK P P n:=⟨fun _ _=>rfl,id⟩
theorem PgK.trans {P Q R:List UInt8} {n:Nat} (h:PgK P Q n) (k:PgK Q R n):PgK P R n:=⟨fun i hi=>(k.1 i hi).trans (h.1 i hi),fun hl=>k.2 (h.2 hl)⟩
theorem VwN.keep {P P' log log':List UInt8} {k:Nat} {F:Int→Option ByteArray} (h:VwN P log k F) (hl:∀ j,64≤j→j<64+1028 * k→bL log' j=bL log j) (hp:∀ n:Nat,n<60000→fndM log noM k n=none→PgK P P' n):VwN P' log' k F:=fun n hn=>by
  have e:=fndM_same (F:=noM) hl
  refine ⟨fun v hv=>?_,fun hv=>?_⟩
  · rw [e] at hv
    obtain ⟨t,h1,h2,h3⟩:=(h n hn).inlog v hv
    have hv':=fndM_lt hv
    exact ⟨t,h1,h2,fun i hi=>by rw [h3 i hi,hl _ (by omega) (by omega)]⟩
  · rw [e] at hv
    obtain ⟨h1,h2⟩:=(h n hn).place hv
    obtain ⟨p1,p2⟩:=hp n hn hv
    exact ⟨fun t ht=>⟨(h1 t ht).1,p2 (h1 t ht).2.1,fun i hi=>by rw [(h1 t ht).2.2 i hi,p1 i hi]⟩,fun hF i hi=>by rw [p1 i hi];exact h2 hF i hi⟩
/- a frame's bytes behind its write -/
theorem frame_byt {log:List UInt8} {k n:Nat} {t:ByteArray} (ht:t.size=1024) {i:Nat} (hi:i<1028):(bL (onL (64+1028 * k) (fourB n ++ t) false log) (64+1028 * k+i)).toNat=bytS (fourB n ++ t) i:=by
  have hs:(fourB n ++ t).size=1028:=by rw [ByteArray.size_append,fourB_size,ht]
  rw [onL_get,if_pos (by omega),bytS_ll]
  congr 1
  omega
theorem frN_new {log:List UInt8} {k n:Nat} {t:ByteArray} (ht:t.size=1024) (hn:n<4294967296):frN (onL (64+1028 * k) (fourB n ++ t) false log) k=n:=by
  refine Eq.trans (num_same fun j hj=>?_) (four_num hn)
  unfold frT
  rw [Nat.zero_add,cut_byt hj,frame_byt ht (by omega),byt_left (by rw [fourB_size];exact hj)]
theorem fndM_new {log:List UInt8} {k n:Nat} {t:ByteArray} (ht:t.size=1024) (hn:n<4294967296):fndM (onL (64+1028 * k) (fourB n ++ t) false log) noM (k+1)=updM (fndM log noM k) n k:=by
  show updM (fndM _ noM k) (frN _ k) k=_
  rw [frN_new ht hn,fndM_same (log:=log)]
  intro j h1 h2
  rw [onL_get,if_neg (by omega)]
theorem VwN.append {P log:List UInt8} {k:Nat} {F:Int→Option ByteArray} (h:VwN P log k F) {n:Nat} {t:ByteArray} (ht:t.size=1024) (hn:n<60000):VwN P (onL (64+1028 * k) (fourB n ++ t) false log) (k+1) (wth F n t):=fun m hm=>by
  have e:=fndM_new (log:=log) (k:=k) ht (n:=n) (by omega)
  by_cases hmn:m=n
  · subst hmn
    have e1:fndM (onL (64+1028 * k) (fourB m ++ t) false log) noM (k+1) m=some (k:Int):=by rw [e];unfold updM;rw [if_pos rfl]
    have w1:wth F m t m=some t:=by unfold wth updS;rw [if_pos rfl]
    refine ⟨fun v hv=>?_,fun hv=>by rw [e1] at hv;cases hv⟩
    rw [e1] at hv
    injection hv with hv
    subst hv
    refine ⟨t,w1,ht,fun i hi=>?_⟩
    rw [Int.toNat_natCast,Nat.add_assoc,frame_byt ht (by omega)]
    rw [show 4+i=(fourB m).size+i by rw [fourB_size],byt_right]
  · have hz:¬ (m:Int)=(n:Int):=by omega
    have e1:fndM (onL (64+1028 * k) (fourB n ++ t) false log) noM (k+1) m=fndM log noM k m:=by rw [e];unfold updM;rw [if_neg hz]
    have w1:wth F n t m=F m:=by unfold wth updS;rw [if_neg hz]
    refine ⟨fun v hv=>?_,fun hv=>?_⟩
    · rw [e1] at hv
      obtain ⟨t',h1,h2,h3⟩:=(h m hm).inlog v hv
      have hv':=fndM_lt hv
      refine ⟨t',by rw [w1];exact h1,h2,fun i hi=>?_⟩
      rw [h3 i hi,onL_get,if_neg (by omega)]
    · rw [e1] at hv
      rw [w1]
      exact (h m hm).place hv
theorem rd_ok {lb:Nat→List UInt8} {f p n:Nat} (hf:f<2) (hl:p+n≤(lb (2 * f)).length) (hz:(lb (2 * f)).length≤67108864):rdE f p n lb false=0∧(rdS f p n lb false).size=n∧∀ i,i<n→bytS (rdS f p n lb false) i=(bL (lb (2 * f)) (p+i)).toNat:=by
  have ha:askE f p n false=0:=by
    unfold askE fitsD
    rw [if_pos (by simp;omega)]
    rfl
  have hE:rdE f p n lb false=0:=by
    unfold rdE
    rw [if_pos ha,if_neg (by simp;omega)]
  have e:rdS f p n lb false=⟨(((lb (2 * f)).drop p).take n).toArray⟩:=by
    unfold rdS
    rw [if_pos hE]
    rfl
  refine ⟨hE,?_,fun i hi=>?_⟩
  · rw [e]
    show (((lb (2 * f)).drop p).take n).toArray.size=n
    simp
    omega
  · rw [e,cut_byt hi]
/- the pages that the log tells of have small numbers -/
def VwK (log:List UInt8) (k:Nat):Prop:=∀ x v,fndM log noM k x=some v→0≤x∧x<60000
structure Vw (P log:List UInt8) (k:Nat) (F:Int→Option ByteArray):Prop where
  pg:VwN P log k F
  ks:VwK log k
theorem Vw.keep {P P' log log':List UInt8} {k:Nat} {F:Int→Option ByteArray} (h:Vw P log k F) (hl:∀ j,64≤j→j<64+1028 * k→bL log' j=bL log j) (hp:∀ n:Nat,n<60000→fndM log noM k n=none→PgK P P' n):Vw P' log' k F:=
  ⟨h.pg.keep hl hp,fun x v hv=>by rw [fndM_same (F:=noM) hl] at hv;exact h.ks x v hv⟩
theorem Vw.append {P log:List UInt8} {k:Nat} {F:Int→Option ByteArray} (h:Vw P log k F) {n:Nat} {t:ByteArray} (ht:t.size=1024) (hn:n<60000):Vw P (onL (64+1028 * k) (fourB n ++ t) false log) (k+1) (wth F n t):=
  ⟨h.pg.append ht hn,fun x v hv=>by
    rw [fndM_new ht (by omega)] at hv
    unfold updM at hv
    split at hv
    · omega
    · exact h.ks x v hv⟩
end Go.Proofs.YtmgjdjjfeapcdaaGreat
namespace Go.Proofs.YtmgjdjjfeapcdaaGreat
/- what a crash leaves of a disk whose waiting changes touch neither the log's first bytes nor the pages that it lacks: plain facts -/
theorem cut_get {p:Nat} {t:ByteArray} {l:List UInt8} {i:Nat} (hi:i<p+t.size):bL (onL p t true l) i=bL l i:=by
  unfold onL
  rw [if_pos rfl,← bL_fil l (p+t.size)]
  unfold bL
  rw [List.getElem?_take_of_lt hi]
structure EffL (a:Nat) (log log':List UInt8):Prop where
  same:∀ i,i<a→bL log' i=bL log i
  len:log.length≤log'.length
  big:log'=log∨a≤log'.length
theorem EffL.refl (a:Nat) (log:List UInt8):EffL a log log:=⟨fun _ _=>rfl,Nat.le_refl _,.inl rfl⟩
theorem EffL.trans {a:Nat} {l l' l'':List UInt8} (h:EffL a l l') (k:EffL a l' l''):EffL a l l'':=by
  refine ⟨fun i hi=>(k.same i hi).trans (h.same i hi),Nat.le_trans h.len k.len,?_⟩
  rcases k.big with e | e
  · rcases h.big with e' | e'
    · exact .inl (e.trans e')
    · exact .inr (by rw [e];exact e')
  · exact .inr e
theorem eff_write {a p:Nat} (t:ByteArray) (l:List UInt8) (hp:a≤p):EffL a l (onL p t false l):=
  ⟨fun i hi=>by rw [onL_get,if_neg (by omega)],onL_ge,.inr (by rw [onL_len];simp;omega)⟩
theorem TP.eff {log log':List UInt8} {c:Cm} {a:Nat} (h:TP log c) (he:EffL a log log') (ha:64≤a):TP log' c:=by
  refine h.keep (fun i hi=>he.same i (by omega)) ?_ ?_
  · rcases he.big with e | e
    · rw [e];exact h.len
    · exact .inr (by omega)
  · have:=he.len
    rcases h.fits with e | e
    · exact .inl e
    · exact .inr (by omega)
/- a change that waits, behind a log's first a bytes or of the pages K -/
def WtC (a:Nat) (K:Nat→Prop) (x:Chg):Prop:=
  (x.f=1∧x.c=false∧a≤x.p)∨(x.f=0∧x.c=false∧(∃ n,K n∧x.p=1024 * n)∧x.t.size≤1024)∨(x.f=0∧x.c=true∧61440000≤x.p∧∃ n,K n)
def Wt (a:Nat) (K:Nat→Prop) (ws:List Chg):Prop:=∀ x ∈ ws,WtC a K x
theorem Wt.nil (a:Nat) (K:Nat→Prop):Wt a K []:=fun _ h=>by cases h
theorem Wt.snoc {a:Nat} {K:Nat→Prop} {ws:List Chg} (h:Wt a K ws) {x:Chg} (hx:WtC a K x):Wt a K (ws ++ [x]):=fun y hy=>by
  rcases List.mem_append.1 hy with hy | hy
  · exact h y hy
  · obtain rfl:=List.mem_singleton.1 hy
    exact hx
def noK:Nat→Prop:=fun _=>False
theorem Wt.more {a:Nat} {K:Nat→Prop} {ws:List Chg} (h:Wt a noK ws):Wt a K ws:=fun x hx=>by
  rcases h x hx with h | ⟨_,_,⟨n,hn,_⟩,_⟩ | h
  · exact .inl h
  · cases hn
  · obtain ⟨_,_,_,n,hn⟩:=h
    cases hn
theorem pg_write {P:List UInt8} {m n:Nat} {t:ByteArray} (ht:t.size≤1024) (h:¬ n=m):PgK P (onL (1024 * m) t false P) n:=
  ⟨fun i hi=>by rw [onL_get,if_neg (by omega)],fun hl=>Nat.le_trans hl onL_ge⟩
theorem pg_cut {P:List UInt8} {p n:Nat} {t:ByteArray} (hp:61440000≤p) (hn:n<60000):PgK P (onL p t true P) n:=
  ⟨fun i hi=>cut_get (by omega),fun _=>by rw [onL_len,if_pos rfl];omega⟩
theorem WtC.page {a:Nat} {K:Nat→Prop} {x:Chg} (h:WtC a K x) (hf:x.f=0) {t:ByteArray} (ht:t.size≤x.t.size) (P:List UInt8) {n:Nat} (hn:n<60000) (hK:¬ K n):PgK P (onL x.p t x.c P) n:=by
  rcases h with ⟨h1,_⟩ | ⟨_,h2,⟨m,hm,hp⟩,h4⟩ | ⟨_,h2,h3,_⟩
  · omega
  · rw [h2,hp]
    exact pg_write (by omega) (fun e=>hK (e ▸ hm))
  · rw [h2]
    exact pg_cut h3 hn
theorem WtC.log {a:Nat} {K:Nat→Prop} {x:Chg} (h:WtC a K x) (hf:x.f=1) (t:ByteArray) (l:List UInt8):EffL a l (onL x.p t x.c l):=by
  rcases h with ⟨_,h2,h3⟩ | ⟨h1,_⟩ | ⟨h1,_⟩
  · rw [h2];exact eff_write t l h3
  · omega
  · omega
theorem WtC.file {a:Nat} {K:Nat→Prop} {x:Chg} (h:WtC a K x):x.f=0∨x.f=1:=by
  rcases h with h | h | h
  · exact .inr h.1
  · exact .inl h.1
  · exact .inl h.1
structure CrE (a:Nat) (K:Nat→Prop) (lb l:Nat→List UInt8):Prop where
  log:EffL a (lb 3) (l 3)
  page:∀ n,n<60000→¬ K n→PgK (lb 1) (l 1) n
theorem CrE.refl (a:Nat) (K:Nat→Prop) (lb:Nat→List UInt8):CrE a K lb lb:=⟨EffL.refl _ _,fun n _ _=>PgK.refl _ n⟩
theorem CrE.trans {a:Nat} {K:Nat→Prop} {l l' l'':Nat→List UInt8} (h:CrE a K l l') (k:CrE a K l' l''):CrE a K l l'':=⟨h.log.trans k.log,fun n hn hK=>(h.page n hn hK).trans (k.page n hn hK)⟩
theorem crS_eff {a:Nat} {K:Nat→Prop} {x:Chg} (h:WtC a K x) (fa:Int) (l:Nat→List UInt8):CrE a K l (crS fa x l):=by
  have step:∀ t:ByteArray,t.size≤x.t.size→CrE a K l (updF l (2 * x.f+1) (onL x.p t x.c (l (2 * x.f+1)))):=fun t ht=>by
    rcases h.file with e | e
    · refine ⟨?_,fun n hn hK=>?_⟩
      · rw [e,updF_ne _ _ (by decide)];exact EffL.refl _ _
      · have:=h.page e ht (l 1) hn hK
        rw [e,updF_at];exact this
    · refine ⟨?_,fun n hn hK=>?_⟩
      · have:=h.log e t (l 3)
        rw [e,updF_at];exact this
      · rw [e,updF_ne _ _ (by decide)];exact PgK.refl _ n
  unfold crS
  split
  · exact step _ (Nat.le_refl _)
  · split
    · exact step _ (by rw [half_size];omega)
    · exact CrE.refl _ _ _
theorem crL_eff {a:Nat} {K:Nat→Prop} {ws:List Chg} (h:Wt a K ws) (fa:Nat→Int) (lb:Nat→List UInt8):∀ i,i≤ws.length→CrE a K lb (crL fa ws lb i)
  | 0,_=>CrE.refl _ _ _
  | i+1,hi=>by
    rw [crL_succ (by omega)]
    exact (crL_eff h fa lb i (by omega)).trans (crS_eff (h _ (List.getElem_mem _)) _ _)
theorem crL_pre {fa:Nat→Int} {ws:List Chg} {x:Chg} {lb:Nat→List UInt8}:∀ i,i≤ws.length→crL fa (ws ++ [x]) lb i=crL fa ws lb i
  | 0,_=>rfl
  | i+1,hi=>by
    rw [crL_succ (by rw [List.length_append];omega),crL_succ (by omega),crL_pre i (by omega),List.getElem_append_left (by omega)]
theorem crL_snoc (fa:Nat→Int) (ws:List Chg) (x:Chg) (lb:Nat→List UInt8):crL fa (ws ++ [x]) lb (ws ++ [x]).length=crS (fa ws.length) x (crL fa ws lb ws.length):=by
  rw [show (ws ++ [x]).length=ws.length+1 by simp,crL_succ (by simp),crL_pre _ (Nat.le_refl _)]
  simp
/- what is seen of a log, where only such changes wait -/
theorem fold_eff {a:Nat} {K:Nat→Prop}:∀ {ws:List Chg},Wt a K ws→∀ l,EffL a l (foldF 1 ws l)
  | [],_,l=>EffL.refl _ _
  | x :: r,h,l=>by
    have hr:Wt a K r:=fun y hy=>h y (List.mem_cons_of_mem _ hy)
    show EffL a l (foldF 1 r (if x.f=1 then onL x.p x.t x.c l else l))
    refine EffL.trans ?_ (fold_eff hr _)
    split
    · rename_i e
      exact (h x (List.mem_cons_self ..)).log e _ _
    · exact EffL.refl _ _
/- the pages, and the bytes, that are left -/
structure GoodS (S:DS) (F:Int→Option ByteArray) (c:Cm):Prop where
  tp:TP (S.lb 2) c
  vw:Vw (S.lb 0) (S.lb 2) c.frames F
  f0:S.lb 1=S.lb 0
  f1:S.lb 3=S.lb 2
  ws:S.ws=[]
  down:S.down=false
def CrOK (S:DS) (F:Int→Option ByteArray) (p q:Nat):Prop:=∀ fa,∃ c,(c.pages=p∧c.frames≤q)∧GoodS (crD fa S) F c
def CrOr (S:DS) (F:Int→Option ByteArray) (p:Nat) (F':Int→Option ByteArray) (p' q:Nat):Prop:=∀ fa,(∃ c,(c.pages=p∧c.frames≤q)∧GoodS (crD fa S) F c)∨∃ c,(c.pages=p'∧c.frames≤q)∧GoodS (crD fa S) F' c
theorem CrOK.or {S:DS} {F:Int→Option ByteArray} {p q:Nat} (h:CrOK S F p q) (F':Int→Option ByteArray) (p':Nat):CrOr S F p F' p' q:=fun fa=>.inl (h fa)
theorem CrOK.same {S T:DS} {F:Int→Option ByteArray} {p q:Nat} (h:CrOK S F p q) (h1:T.lb=S.lb) (h2:T.ws=S.ws):CrOK T F p q:=fun fa=>by
  obtain ⟨c,hp,g⟩:=h fa
  have e:(crD fa T).lb=(crD fa S).lb:=by unfold crD;rw [h1,h2]
  exact ⟨c,hp,by rw [e];exact g.tp,by rw [e];exact g.vw,by rw [e];exact g.f0,by rw [e];exact g.f1,rfl,rfl⟩
theorem good_of {fa:Nat→Int} {S:DS} {F:Int→Option ByteArray} {c:Cm} (h1:TP (crL fa S.ws S.lb S.ws.length 3) c) (h2:Vw (crL fa S.ws S.lb S.ws.length 1) (crL fa S.ws S.lb S.ws.length 3) c.frames F):GoodS (crD fa S) F c:=by
  obtain ⟨c0,c1,c2,c3⟩:=cp_at (crL fa S.ws S.lb S.ws.length)
  have e0:(crD fa S).lb 0=crL fa S.ws S.lb S.ws.length 1:=c0
  have e1:(crD fa S).lb 1=crL fa S.ws S.lb S.ws.length 1:=c1
  have e2:(crD fa S).lb 2=crL fa S.ws S.lb S.ws.length 3:=c2
  have e3:(crD fa S).lb 3=crL fa S.ws S.lb S.ws.length 3:=c3
  exact ⟨by rw [e2];exact h1,by rw [e0,e2];exact h2,by rw [e0,e1],by rw [e2,e3],rfl,rfl⟩
/- no slot waits -/
theorem crash_wt {S:DS} {c:Cm} {F:Int→Option ByteArray} (ht:TP (S.lb 3) c) (hv:Vw (S.lb 1) (S.lb 3) c.frames F) (hw:Wt (64+1028 * c.frames) (fun n=>¬ fndM (S.lb 3) noM c.frames n=none) S.ws) {q:Nat} (hq:c.frames≤q):CrOK S F c.pages q:=fun fa=>by
  have he:=crL_eff hw fa S.lb S.ws.length (Nat.le_refl _)
  refine ⟨c,⟨rfl,hq⟩,good_of (ht.eff he.log (by omega)) (hv.keep (fun j _ h2=>he.log.same j h2) (fun n hn h=>he.page n hn (fun k=>k h)))⟩
/- a slot waits behind them -/
theorem crash_slot {S:DS} {c:Cm} {ws:List Chg} {fr pg a:Nat} {F F':Int→Option ByteArray} (ht:TP (S.lb 3) c) (hS:S.ws=ws ++ [⟨1,16+24 * (1 - c.slot),txtB (nxN c.number) fr pg,false⟩]) (hw:Wt a noK ws) (h1:64+1028 * c.frames≤a) (h2:64+1028 * fr≤a)
    (hf1:fr<4294967296) (hp1:pg<4294967296) (hf:fr=0∨64+1028 * fr≤(S.lb 3).length) (hv:Vw (S.lb 1) (S.lb 3) c.frames F) (hv':Vw (S.lb 1) (S.lb 3) fr F') {q:Nat} (hq:c.frames≤q) (hq':fr≤q):CrOr S F c.pages F' pg q:=fun fa=>by
  have hs:=ht.slot
  have he:=crL_eff hw fa S.lb ws.length (Nat.le_refl _)
  have hx:crL fa S.ws S.lb S.ws.length=crS (fa ws.length) ⟨1,16+24 * (1 - c.slot),txtB (nxN c.number) fr pg,false⟩ (crL fa ws S.lb ws.length):=by rw [hS];exact crL_snoc fa ws _ S.lb
  obtain ⟨l,hl⟩:∃ l,l=crL fa ws S.lb ws.length:=⟨_,rfl⟩
  rw [← hl] at he hx
  have ht':=ht.eff he.log (by omega)
  have hP:∀ n,n<60000→PgK (S.lb 1) (l 1) n:=fun n hn=>he.page n hn (fun k=>k)
  have after:∀ t:ByteArray,t.size≤24→∀ j,64≤j→j<a→bL (onL (16+24 * (1 - c.slot)) t false (l 3)) j=bL (S.lb 3) j:=fun t hts j j1 j2=>by
    rw [onL_get,if_neg (by omega)]
    exact he.log.same j j2
  have hts:=txtB_size (nxN c.number) fr pg
  unfold crS at hx
  by_cases e1:fa ws.length=1
  · rw [if_pos e1] at hx
    replace hx:crL fa S.ws S.lb S.ws.length=updF l 3 (onL (16+24 * (1 - c.slot)) (txtB (nxN c.number) fr pg) false (l 3)):=hx
    refine .inr ⟨flC c fr pg,⟨rfl,hq'⟩,good_of ?_ ?_⟩
    · rw [hx,updF_at]
      exact ht'.whole fr pg hf1 hp1 (hf.imp id fun h=>Nat.le_trans h he.log.len)
    · rw [hx,updF_at,updF_ne _ _ (by decide)]
      exact hv'.keep (fun j j1 j2=>after _ (by rw [hts];omega) j j1 (by omega)) (fun n hn _=>hP n hn)
  · rw [if_neg e1] at hx
    by_cases e2:fa ws.length=2
    · rw [if_pos e2] at hx
      replace hx:crL fa S.ws S.lb S.ws.length=updF l 3 (onL (16+24 * (1 - c.slot)) (half (txtB (nxN c.number) fr pg)) false (l 3)):=hx
      refine .inl ⟨c,⟨rfl,hq⟩,good_of ?_ ?_⟩
      · rw [hx,updF_at]
        exact ht'.half _ (by rw [half_size,hts])
      · rw [hx,updF_at,updF_ne _ _ (by decide)]
        exact hv.keep (fun j j1 j2=>after _ (by rw [half_size,hts];omega) j j1 (by omega)) (fun n hn _=>hP n hn)
    · rw [if_neg e2] at hx
      refine .inl ⟨c,⟨rfl,hq⟩,good_of ?_ ?_⟩
      · rw [hx];exact ht'
      · rw [hx]
        exact hv.keep (fun j j1 j2=>he.log.same j (by omega)) (fun n hn _=>hP n hn)
end Go.Proofs.YtmgjdjjfeapcdaaGreat
namespace Go.Proofs.YtmgjdjjfeapcdaaGreat
/- Append, Back, Commit of a log, and what a crash behind them leaves: plain facts -/
theorem op_two {S:DS} (hd:S.down=false) {f p:Int} (f' p':Nat) (t:ByteArray) (c:Bool) (hf:f=f') (hp:p=p') (hf2:f'<2) (hs:p'+t.size≤67108864) :
    opD S f p t c=(2,{ S with down:=true })∨∃ left,opD S f p t c=(0,⟨updF S.lb (2 * f') (onL p' t c (S.lb (2 * f'))),S.ws ++ [⟨f',p',t,c⟩],left,S.count+1,false⟩):=by
  subst hf hp
  have ha:askE f' p' t.size S.down=0:=by
    unfold askE fitsD
    rw [hd,if_pos (by simp;omega)]
    rfl
  unfold opD
  rw [if_pos ha]
  by_cases hl:S.left=0
  · rw [if_pos hl];exact .inl rfl
  · rw [if_neg hl];exact .inr ⟨decL S.left,by rw [hd];rfl⟩
theorem syn_two {S:DS} (hd:S.down=false) {f:Int} (f':Nat) (hf:f=f') (hf2:f'<2) :
    synD S f=(2,{ S with down:=true })∨∃ left,synD S f=(0,⟨updF S.lb (2 * f'+1) (foldF f' S.ws (S.lb (2 * f'+1))),othF f' S.ws,left,S.count+1,false⟩):=by
  subst hf
  have ha:askE f' 0 0 S.down=0:=by
    unfold askE fitsD
    rw [hd,if_pos (by simp;omega)]
    rfl
  unfold synD
  rw [if_pos ha]
  by_cases hl:S.left=0
  · rw [if_pos hl];exact .inl rfl
  · rw [if_neg hl];exact .inr ⟨decL S.left,by rw [hd];rfl⟩
theorem oth_none {a:Nat} {ws:List Chg} (h:Wt a noK ws):othF 1 ws=[]:=by
  unfold othF
  rw [List.filter_eq_nil_iff]
  intro x hx
  rcases h x hx with h | ⟨_,_,⟨n,hn,_⟩,_⟩ | ⟨_,_,_,n,hn⟩
  · rw [h.1];decide
  · cases hn
  · cases hn
/- a log ahead of a slot's write -/
structure Pre (c:Cm) (S:DS) (a:Nat):Prop where
  tp:TP (S.lb 3) c
  seen:S.lb 2=foldF 1 S.ws (S.lb 3)
  wait:Wt a noK S.ws
theorem tl_out {L:LS} {S:DS} {fr pg a:Nat} {F F':Int→Option ByteArray} (h:Pre L.last S a) (hup:S.down=false) (h1:64+1028 * L.last.frames≤a) (h2:64+1028 * fr≤a) (hf1:fr<4294967296) (hp1:pg<4294967296) (hf:fr=0∨64+1028 * fr≤(S.lb 3).length) (hv:Vw (S.lb 1) (S.lb 3) L.last.frames F) (hv':Vw (S.lb 1) (S.lb 3) fr F') {q:Nat} (hq:L.last.frames≤q) (hq':fr≤q) :
    (∃ S',tlL L S fr pg=(2,L,S')∧S'.down=true∧CrOr S' F L.last.pages F' pg q) ∨
    (∃ S',tlL L S fr pg=(0,{ L with last:=flC L.last fr pg,fr:=fr },S')∧S'.lb 0=S.lb 0∧S'.lb 1=S.lb 1∧S'.lb 3=S'.lb 2∧S'.ws=[]∧S'.down=false∧TP (S'.lb 3) (flC L.last fr pg)∧(∀ j,64≤j→j<a→bL (S'.lb 3) j=bL (S.lb 3) j)∧(S.lb 3).length≤(S'.lb 3).length):=by
  have hs:=h.tp.slot
  have hts:=txtB_size (nxN L.last.number) fr pg
  have hE:EffL a (S.lb 3) (S.lb 2):=by rw [h.seen];exact fold_eff h.wait _
  unfold tlL
  rcases op_two hup 1 (16+24 * (1 - L.last.slot)) (txtB (nxN L.last.number) fr pg) false (f:=1) (p:=16+24 * ((1 - L.last.slot:Nat):Int)) rfl (by omega) (by decide) (by omega) with e | ⟨left,e⟩
  · rw [e]
    refine .inl ⟨_,rfl,rfl,CrOK.or ?_ F' pg⟩
    refine CrOK.same (S:=S) ?_ rfl rfl
    refine crash_wt h.tp hv ?_ hq
    intro x hx
    exact (Wt.more h.wait x hx).elim (fun k=>.inl ⟨k.1,k.2.1,by omega⟩) .inr
  · rw [e,if_pos rfl]
    obtain ⟨T,hT⟩:∃ T:DS,T=⟨updF S.lb (2 * 1) (onL (16+24 * (1 - L.last.slot)) (txtB (nxN L.last.number) fr pg) false (S.lb (2 * 1))),S.ws ++ [⟨1,16+24 * (1 - L.last.slot),txtB (nxN L.last.number) fr pg,false⟩],left,S.count+1,false⟩:=⟨_,rfl⟩
    rw [← hT]
    have t0:T.lb 0=S.lb 0:=by rw [hT];rfl
    have t1:T.lb 1=S.lb 1:=by rw [hT];rfl
    have t2:T.lb 2=onL (16+24 * (1 - L.last.slot)) (txtB (nxN L.last.number) fr pg) false (S.lb 2):=by rw [hT];rfl
    have t3:T.lb 3=S.lb 3:=by rw [hT];rfl
    have tw:T.ws=S.ws ++ [⟨1,16+24 * (1 - L.last.slot),txtB (nxN L.last.number) fr pg,false⟩]:=by rw [hT]
    have td:T.down=false:=by rw [hT]
    clear hT e
    show (∃ S',(if (synD T 1).1=0 then _ else _)=_∧_)∨(∃ S',(if (synD T 1).1=0 then _ else _)=_∧_)
    rcases syn_two td 1 (f:=1) rfl (by decide) with e | ⟨left',e⟩
    · rw [e]
      refine .inl ⟨_,rfl,rfl,?_⟩
      have:=crash_slot (S:=T) (c:=L.last) (F:=F) (F':=F') (by rw [t3];exact h.tp) tw h.wait h1 h2 hf1 hp1 (by rw [t3];exact hf) (by rw [t1,t3];exact hv) (by rw [t1,t3];exact hv') hq hq'
      exact this
    · rw [e,if_pos rfl]
      refine .inr ⟨_,rfl,t0,t1,?_,?_,rfl,?_,?_,?_⟩
      all_goals dsimp only
      all_goals try rw [show updF T.lb (2 * 1+1) (foldF 1 T.ws (T.lb (2 * 1+1))) 3=T.lb 2 by rw [show (2 * 1+1)=3 from rfl,updF_at,tw,t3,foldF_snoc,if_pos rfl,t2,h.seen]]
      · rfl
      · rw [tw,othF_snoc,if_pos rfl,oth_none h.wait]
      · rw [t2]
        exact (h.tp.eff hE (by omega)).whole fr pg hf1 hp1 (hf.imp id fun k=>Nat.le_trans k hE.len)
      · intro j j1 j2
        rw [t2,onL_get,if_neg (by omega)]
        exact hE.same j j2
      · rw [t2]
        exact Nat.le_trans hE.len onL_ge
/- an operation of a disk that may be down: it fails, or the disk was up -/
theorem opD_two (S:DS) {f p:Int} (f' p':Nat) (t:ByteArray) (c:Bool) (hf:f=f') (hp:p=p') (hf2:f'<2) (hs:p'+t.size≤67108864) :
    opD S f p t c=(2,{ S with down:=true })∨(S.down=false∧∃ left,opD S f p t c=(0,⟨updF S.lb (2 * f') (onL p' t c (S.lb (2 * f'))),S.ws ++ [⟨f',p',t,c⟩],left,S.count+1,false⟩)):=by
  cases hd:S.down with
  | false=>exact (op_two hd f' p' t c hf hp hf2 hs).imp id (fun h=>⟨rfl,h⟩)
  | true =>
    left
    subst hf hp
    have ha:askE f' p' t.size S.down=2:=by
      unfold askE fitsD
      rw [hd,if_pos (by simp;omega)]
      rfl
    unfold opD
    rw [ha,if_neg (by decide)]
    have:({ S with down:=true }:DS)=S:=by cases S;simp at hd;rw [hd]
    rw [this]
/- what holds of a log between two calls, whether its disk is up or down: K is committed, N is what it tells; m frames at most -/
structure Inv (L:LS) (S:DS) (kept now:Int→Option ByteArray) (m:Nat):Prop where
  fr:L.last.frames≤L.fr∧L.fr≤m
  len:L.fr=0∨64+1028 * L.fr≤(S.lb 2).length
  pre:Pre L.last S (64+1028 * L.last.frames)
  f0:S.lb 0=S.lb 1
  pl:L.pl=fndM (S.lb 3) noM L.last.frames
  al:mrg L.pl L.fh=fndM (S.lb 2) noM L.fr
  fh:∀ x v,L.fh x=some v→(L.last.frames:Int)≤v∧v<L.fr
  kv:Vw (S.lb 1) (S.lb 3) L.last.frames kept
  nv:Vw (S.lb 1) (S.lb 2) L.fr now
theorem Inv.eff {L:LS} {S:DS} {kept now:Int→Option ByteArray} {m:Nat} (h:Inv L S kept now m):EffL (64+1028 * L.last.frames) (S.lb 3) (S.lb 2):=by rw [h.pre.seen];exact fold_eff h.pre.wait _
theorem Inv.crash {L:LS} {S:DS} {kept now:Int→Option ByteArray} {m:Nat} (h:Inv L S kept now m):CrOK S kept L.last.pages m:=crash_wt h.pre.tp h.kv (Wt.more h.pre.wait) (Nat.le_trans h.fr.1 h.fr.2)
theorem Inv.mono {L:LS} {S:DS} {kept now:Int→Option ByteArray} {m k:Nat} (h:Inv L S kept now m) (hk:m≤k):Inv L S kept now k:=⟨⟨h.fr.1,Nat.le_trans h.fr.2 hk⟩,h.len,h.pre,h.f0,h.pl,h.al,h.fh,h.kv,h.nv⟩
theorem Inv.same {L:LS} {S T:DS} {kept now:Int→Option ByteArray} {m:Nat} (h:Inv L S kept now m) (h1:T.lb=S.lb) (h2:T.ws=S.ws):Inv L T kept now m:=by
  obtain ⟨lb,ws,l,c,d⟩:=S
  obtain ⟨lb',ws',l',c',d'⟩:=T
  dsimp only at h1 h2
  subst h1 h2
  exact ⟨h.fr,h.len,⟨h.pre.tp,h.pre.seen,h.pre.wait⟩,h.f0,h.pl,h.al,h.fh,h.kv,h.nv⟩
theorem Inv.pos {L:LS} {S:DS} {kept now:Int→Option ByteArray} {m:Nat} (h:Inv L S kept now m) (x:Int) (hx:(L.pl x).isSome=true):0≤x∧x<60000:=by
  have:(mrg L.pl L.fh x).isSome=true:=by
    unfold mrg
    cases L.fh x with
    | some v=>rfl
    | none=>exact hx
  rw [h.al] at this
  obtain ⟨v,hv⟩:=Option.isSome_iff_exists.1 this
  exact h.nv.ks x v hv
theorem Inv.posF {L:LS} {S:DS} {kept now:Int→Option ByteArray} {m:Nat} (h:Inv L S kept now m) (x:Int) (hx:(L.fh x).isSome=true):0≤x∧x<60000:=by
  obtain ⟨v,hv⟩:=Option.isSome_iff_exists.1 hx
  have:mrg L.pl L.fh x=some v:=by unfold mrg;rw [hv]
  rw [h.al] at this
  exact h.nv.ks x v this
theorem Inv.okp {L:LS} {S:DS} {kept now:Int→Option ByteArray} {m:Nat} (h:Inv L S kept now m) (hm:m≤1000000):okM L.pl:=fun x v hv=>by
  rw [h.pl] at hv
  have:=fndM_lt hv
  have:=h.fr
  omega
theorem Inv.okf {L:LS} {S:DS} {kept now:Int→Option ByteArray} {m:Nat} (h:Inv L S kept now m) (hm:m≤1000000):okM L.fh:=fun x v hv=>by
  have:=h.fh x v hv
  have:=h.fr
  omega
theorem ap_out {L:LS} {S:DS} {kept now:Int→Option ByteArray} {m n:Nat} {t:ByteArray} (h:Inv L S kept now m) (hm:m≤60000) (hn:n<60000) (ht:t.size=1024) :
    (apL L S n t=(2,L,{ S with down:=true }))∨(S.down=false∧∃ S',apL L S n t=(0,{ L with fh:=updM L.fh n L.fr,fr:=L.fr+1 },S')∧S'.down=false∧Inv { L with fh:=updM L.fh n L.fr,fr:=L.fr+1 } S' kept (wth now n t) (m+1)):=by
  have hfr:=h.fr
  have hs:(fourB n ++ t).size=1028:=by rw [ByteArray.size_append,fourB_size,ht]
  have hpg:isPg n=true:=decide_eq_true (by omega)
  unfold apL
  rw [if_neg (fun k=>k ⟨hpg,ht⟩),if_neg (by omega),Int.toNat_natCast]
  rcases opD_two S 1 (64+1028 * L.fr) (fourB n ++ t) false (f:=1) (p:=64+1028 * (L.fr:Int)) rfl (by omega) (by decide) (by omega) with e | ⟨hd,left,e⟩
  · rw [e]
    exact .inl rfl
  · rw [e,if_pos rfl]
    refine .inr ⟨hd,_,rfl,rfl,?_⟩
    have hE:=h.eff
    have e2:=fndM_new (log:=S.lb 2) (k:=L.fr) ht (n:=n) (by omega)
    refine ⟨⟨by show L.last.frames≤L.fr+1;omega,by show L.fr+1≤m+1;omega⟩,.inr ?_,⟨h.pre.tp,?_,?_⟩,h.f0,h.pl,?_,?_,h.kv,h.nv.append ht hn⟩
    · show 64+1028 * (L.fr+1)≤(onL (64+1028 * L.fr) (fourB n ++ t) false (S.lb 2)).length
      rw [onL_len,hs]
      simp
      omega
    · show onL (64+1028 * L.fr) (fourB n ++ t) false (S.lb 2)=foldF 1 (S.ws ++ [_]) (S.lb 3)
      rw [foldF_snoc,if_pos rfl,h.pre.seen]
    · exact Wt.snoc h.pre.wait (.inl ⟨rfl,rfl,by show 64+1028 * L.last.frames≤64+1028 * L.fr;omega⟩)
    · show mrg L.pl (updM L.fh n L.fr)=fndM (onL (64+1028 * L.fr) (fourB n ++ t) false (S.lb 2)) noM (L.fr+1)
      rw [e2,← h.al]
      funext x
      unfold mrg updM
      by_cases hx:x=(n:Int)
      · rw [if_pos hx,if_pos hx]
      · rw [if_neg hx,if_neg hx]
    · intro x v hv
      have hv:updM L.fh n L.fr x=some v:=hv
      unfold updM at hv
      show (L.last.frames:Int)≤v∧v<((L.fr+1:Nat):Int)
      split at hv
      · injection hv with hv
        omega
      · have:=h.fh x v hv
        omega
theorem cm_out {L:LS} {S:DS} {kept now:Int→Option ByteArray} {m n pg:Nat} {t:ByteArray} (h:Inv L S kept now m) (hm:m≤60000) (hn:n<60000) (ht:t.size=1024) (hp0:1≤pg) (hpg:pg≤60000) :
    (∃ L' S',cmL L S n t pg=(2,L',S')∧S'.down=true∧CrOr S' kept L.last.pages (wth now n t) pg (m+1))∨(∃ L' S',cmL L S n t pg=(0,L',S')∧S'.down=false∧L'.last.pages=pg∧Inv L' S' (wth now n t) (wth now n t) (m+1)):=by
  unfold cmL
  rw [if_neg (fun k=>k ⟨by omega,by omega⟩)]
  rcases ap_out h hm hn ht with e1 | ⟨u1,S1,e1,v1,I1⟩
  · rw [e1]
    exact .inl ⟨_,_,rfl,rfl,((h.mono (Nat.le_succ m)).crash.same rfl rfl).or _ _⟩
  · generalize hL1:({ L with fh:=updM L.fh n L.fr,fr:=L.fr+1 }:LS)=L1 at e1 I1
    have hp:L.pl=L1.pl:=by rw [← hL1]
    have hq:L.last=L1.last:=by rw [← hL1]
    rw [e1,if_neg (fun k=>k rfl),hp,hq]
    clear hp hL1 e1 h
    show (∃ L' S',(if ¬ (synD S1 1).1=0 then ((synD S1 1).1,L1,(synD S1 1).2) else if ¬ (tlL L1 (synD S1 1).2 L1.fr (pg:Int).toNat).1=0 then tlL L1 (synD S1 1).2 L1.fr (pg:Int).toNat else (0,{ (tlL L1 (synD S1 1).2 L1.fr (pg:Int).toNat).2.1 with pl:=mrg L1.pl L1.fh,fh:=fun _=>none },(tlL L1 (synD S1 1).2 L1.fr (pg:Int).toNat).2.2))=_∧_)∨(∃ L' S',(if ¬ (synD S1 1).1=0 then ((synD S1 1).1,L1,(synD S1 1).2) else if ¬ (tlL L1 (synD S1 1).2 L1.fr (pg:Int).toNat).1=0 then tlL L1 (synD S1 1).2 L1.fr (pg:Int).toNat else (0,{ (tlL L1 (synD S1 1).2 L1.fr (pg:Int).toNat).2.1 with pl:=mrg L1.pl L1.fh,fh:=fun _=>none },(tlL L1 (synD S1 1).2 L1.fr (pg:Int).toNat).2.2))=_∧_)
    rw [Int.toNat_natCast]
    have hfr:=I1.fr
    have hE:=I1.eff
    rcases syn_two v1 1 (f:=1) rfl (by decide) with e | ⟨left,e⟩
    · rw [e]
      exact .inl ⟨_,_,rfl,rfl,(I1.crash.same rfl rfl).or _ _⟩
    · generalize hS2:(⟨updF S1.lb (2 * 1+1) (foldF 1 S1.ws (S1.lb (2 * 1+1))),othF 1 S1.ws,left,S1.count+1,false⟩:DS)=S2 at e
      rw [e,if_neg (fun k=>k rfl)]
      have s0:S2.lb 0=S1.lb 0:=by rw [← hS2];rfl
      have s1:S2.lb 1=S1.lb 1:=by rw [← hS2];rfl
      have s2:S2.lb 2=S1.lb 2:=by rw [← hS2];rfl
      have s3:S2.lb 3=S1.lb 2:=by rw [← hS2,I1.pre.seen];rfl
      have sw:S2.ws=[]:=by rw [← hS2];exact oth_none I1.pre.wait
      have sd:S2.down=false:=by rw [← hS2]
      clear hS2 e
      have hlen:=I1.len
      rcases tl_out (L:=L1) (S:=S2) (fr:=L1.fr) (pg:=pg) (a:=64+1028 * L1.fr) (F:=kept) (F':=wth now n t) ⟨by rw [s3];exact I1.pre.tp.eff hE (by omega),by rw [sw,s2,s3];rfl,by rw [sw];exact Wt.nil _ _⟩ sd (by omega) (by omega) (by omega) (by omega) (by rw [s3];exact hlen)
        (by rw [s1,s3];exact I1.kv.keep (fun j _ j2=>hE.same j j2) (fun n _ _=>PgK.refl _ n)) (by rw [s1,s3];exact I1.nv) (q:=m+1) (by omega) (by omega) with ⟨S3,e3,d3,c3⟩ | ⟨S3,e3,k0,k1,k2,k3,k4,k5,k6,k7⟩
      · rw [e3]
        exact .inl ⟨_,_,rfl,d3,c3⟩
      · rw [e3,if_neg (fun k=>k rfl)]
        refine .inr ⟨_,_,rfl,k4,rfl,?_⟩
        have eL:fndM (S3.lb 3) noM L1.fr=fndM (S1.lb 2) noM L1.fr:=fndM_same (fun j j1 j2=>by rw [k6 j j1 j2,s3])
        have hV:Vw (S3.lb 1) (S3.lb 3) L1.fr (wth now n t):=by
          rw [k1,s1]
          exact I1.nv.keep (fun j j1 j2=>by rw [k6 j j1 j2,s3]) (fun n _ _=>PgK.refl _ n)
        refine ⟨⟨Nat.le_refl _,hfr.2⟩,?_,⟨k5,by rw [k3,← k2];rfl,by rw [k3];exact Wt.nil _ _⟩,by rw [k0,k1,s0,s1];exact I1.f0,?_,?_,(fun x v hv=>by cases hv),hV,by rw [← k2];exact hV⟩
        · show L1.fr=0∨64+1028 * L1.fr≤(S3.lb 2).length
          rw [← k2]
          rw [s3] at k7
          omega
        · show mrg L1.pl L1.fh=fndM (S3.lb 3) noM L1.fr
          rw [eL];exact I1.al
        · show mrg (mrg L1.pl L1.fh) (fun _=>none)=fndM (S3.lb 2) noM L1.fr
          rw [← k2,eL,← I1.al]
          funext x
          rfl
/- a page that the log tells is read, or the disk is down -/
theorem rd_out {L:LS} {S:DS} {kept now:Int→Option ByteArray} {m n:Nat} {t:ByteArray} (h:Inv L S kept now m) (hm:m≤60000) (hn:n<60000) (ht:now n=some t) (h0:(S.lb 0).length≤67108864) (h2:(S.lb 2).length≤67108864) :
    rdL L S n=(t,0)∨(S.down=true∧rdL L S n=(⟨#[]⟩,2)):=by
  have hpg:isPg n=true:=decide_eq_true (by omega)
  have hfr:=h.fr
  have hV:=h.nv.pg n hn
  have hal:mrg L.pl L.fh n=fndM (S.lb 2) noM L.fr n:=congrFun h.al n
  have hF:∀ v:Int,fndM (S.lb 2) noM L.fr n=some v→rdF S v=(t,0)∨(S.down=true∧rdF S v=(⟨#[]⟩,2)):=fun v hv=>by
    obtain ⟨t',t1,t2,t3⟩:=hV.inlog v hv
    rw [ht] at t1
    injection t1 with t1
    subst t1
    have hv':=fndM_lt hv
    have hl:=h.len
    obtain ⟨v,rfl⟩:∃ k:Nat,v=k:=⟨v.toNat,by omega⟩
    have ec:((64+1028 * v+4:Nat):Int)=64+1028 * (v:Int)+4:=by omega
    cases hd:S.down with
    | false =>
      left
      have hR:=rd_ok (lb:=S.lb) (f:=1) (p:=64+1028 * v+4) (n:=1024) (by decide) (by show _≤(S.lb 2).length;omega) h2
      obtain ⟨x,y,e2,hx,hy⟩:∃ x y,rdF S (v:Int)=(x,y)∧x=rdS ((1:Nat):Int) ((64+1028 * v+4:Nat):Int) ((1024:Nat):Int) S.lb false∧y=rdE ((1:Nat):Int) ((64+1028 * v+4:Nat):Int) ((1024:Nat):Int) S.lb false:=by
        unfold rdF
        rw [hd,ec]
        exact ⟨_,_,rfl,rfl,rfl⟩
      rw [← hx,← hy] at hR
      obtain ⟨r1,r2,r3⟩:=hR
      rw [e2,r1]
      refine Prod.ext (ext_byt (by show x.size=_;rw [r2,t2]) fun i hi=>?_) rfl
      change i<x.size at hi
      rw [r2] at hi
      exact (r3 i hi).trans (t3 i hi).symm
    | true =>
      right
      refine ⟨rfl,?_⟩
      have ha:rdE 1 (64+1028 * (v:Int)+4) 1024 S.lb true=2:=by
        have a:askE 1 (64+1028 * (v:Int)+4) 1024 true=2:=by
          unfold askE fitsD
          rw [if_pos (by simp;omega)]
          rfl
        unfold rdE
        rw [a,if_neg (by decide)]
      unfold rdF rdS
      rw [hd,ha,if_neg (by decide)]
  unfold rdL
  rw [if_neg (fun h=>h hpg)]
  unfold mrg at hal
  cases hfh:L.fh n with
  | some v =>
    rw [hfh] at hal
    dsimp only
    exact hF v hal.symm
  | none =>
    rw [hfh] at hal
    dsimp only at hal ⊢
    cases hpl:L.pl n with
    | some v =>
      rw [hpl] at hal
      dsimp only
      exact hF v hal.symm
    | none =>
      rw [hpl] at hal
      dsimp only
      obtain ⟨p1,p2⟩:=hV.place hal.symm
      obtain ⟨t2,t4,t3⟩:=p1 t ht
      cases hd:S.down with
      | true=>right;exact ⟨rfl,by rw [if_pos rfl]⟩
      | false =>
        left
        rw [if_neg (by decide)]
        have hl0:S.lb 0=S.lb 1:=h.f0
        rw [if_neg (by rw [hl0];omega)]
        have ec:((1024 * n:Nat):Int)=1024 * (n:Int):=by omega
        have hR:=rd_ok (lb:=S.lb) (f:=0) (p:=1024 * n) (n:=1024) (by decide) (by show _≤(S.lb 0).length;rw [hl0];omega) h0
        rw [show ((0:Nat):Int)=0 from rfl,ec,show ((1024:Nat):Int)=1024 from rfl] at hR
        obtain ⟨r1,r2,r3⟩:=hR
        rw [r1]
        refine Prod.ext (ext_byt (by show (rdS 0 (1024 * (n:Int)) 1024 S.lb false).size=_;rw [r2,t2]) fun i hi=>?_) rfl
        change i<(rdS 0 (1024 * (n:Int)) 1024 S.lb false).size at hi
        rw [r2] at hi
        refine (r3 i hi).trans ?_
        show (bL (S.lb 0) (1024 * n+i)).toNat=_
        rw [hl0]
        exact (t3 i hi).symm
end Go.Proofs.YtmgjdjjfeapcdaaGreat
namespace Go.Proofs.YtmgjdjjfeapcdaaGreat
theorem op_up2 {lb:Nat→List UInt8} {ws:List Chg} {c f:Int} {t:ByteArray} (b:Bool) (hf:f=0∨f=1) (ht:(t.size:Int)≤67108864):opD ⟨lb,ws,-1,c,false⟩ f 0 t b=(0,⟨updF lb (2 * f.toNat) (onL 0 t b (lb (2 * f.toNat))),ws ++ [⟨f.toNat,0,t,b⟩],-1,c+1,false⟩):=by
  unfold opD
  dsimp only
  rw [if_pos (ask0 hf (by omega) ht),if_neg (show ¬ (-1:Int)=0 by decide)]
  rfl
def logN:List UInt8:=ll (markB ++ txtB 1 0 0)
def newS:DS:=⟨updF (updF (fun _=>[]) 2 logN) 3 logN,[],-1,4,false⟩
theorem logN_len:logN.length=40:=by
  unfold logN
  rw [ll_len,ByteArray.size_append,txtB_size]
  rfl
theorem mark_size:markB.size=16:=rfl
theorem beg_new:∃ S1 S2 S3,Beg newD S1 S2 S3 newS 0:=by
  have hs:(markB ++ txtB 1 0 0).size=40:=logN_len
  have e1:opD newD 1 0 ⟨#[]⟩ true=(0,⟨updF (fun _=>[]) 2 [],[⟨1,0,⟨#[]⟩,true⟩],-1,1,false⟩):=by
    rw [show newD=⟨fun _=>[],[],-1,0,false⟩ from rfl,op_up2 true (.inr rfl) (by decide)]
    rfl
  have u0:updF (fun _:Nat=>([]:List UInt8)) 2 []=fun _=>[]:=by funext i;unfold updF;split <;> rfl
  have u1:updF (fun _:Nat=>([]:List UInt8)) 3 []=fun _=>[]:=by funext i;unfold updF;split <;> rfl
  rw [u0] at e1
  have e2:synD ⟨fun _=>[],[⟨1,0,⟨#[]⟩,true⟩],-1,1,false⟩ 1=(0,⟨fun _=>[],[],-1,2,false⟩):=by
    rw [syn_up (.inr rfl)]
    show (0,DS.mk (updF (fun _=>[]) 3 []) [] (-1) 2 false)=_
    rw [u1]
  have e3:opD ⟨fun _=>[],[],-1,2,false⟩ 1 0 (markB ++ txtB 1 0 0) false=(0,⟨updF (fun _=>[]) 2 logN,[⟨1,0,markB ++ txtB 1 0 0,false⟩],-1,3,false⟩):=by
    rw [op_up2 false (.inr rfl) (by rw [hs];decide)]
    have e:onL 0 (markB ++ txtB 1 0 0) false []=logN:=onL_new _
    show (0,DS.mk (updF (fun _=>[]) 2 (onL 0 (markB ++ txtB 1 0 0) false [])) _ (-1) 3 false)=_
    rw [e]
    rfl
  have e4:synD ⟨updF (fun _=>[]) 2 logN,[⟨1,0,markB ++ txtB 1 0 0,false⟩],-1,3,false⟩ 1=(0,newS):=by
    rw [syn_up (.inr rfl)]
    have e:onL 0 (markB ++ txtB 1 0 0) false []=logN:=onL_new _
    show (0,DS.mk (updF (updF (fun _=>[]) 2 logN) 3 (onL 0 (markB ++ txtB 1 0 0) false [])) [] (-1) 4 false)=_
    rw [e]
    rfl
  exact ⟨_,_,_,e1,e2,e3,e4⟩
theorem logN_byt {i:Nat} (h:i<64):bytS (headP logN) i=bytS (markB ++ txtB 1 0 0) i:=by
  rw [headP_byt _ h]
  exact bytS_ll _ _
theorem tp_new:TP logN ⟨0,1,0,0⟩:=by
  have hs:(markB ++ txtB 1 0 0).size=40:=logN_len
  have hh:=headP_size logN
  have ht:=txtB_size 1 0 0
  refine ⟨.inl ⟨by rw [logN_len];decide,by rw [logN_len];decide⟩,?_,by decide,by decide,by decide,by decide,?_,.inl rfl,.inl ?_⟩
  · unfold isMark
    refine decide_eq_true ⟨by rw [hh];decide,ext_byt (by rw [ByteArray.size_extract,hh,mark_size];decide) fun i hi=>?_⟩
    rw [ByteArray.size_extract,hh] at hi
    have hi:i<16:=by omega
    rw [byt_cut (by omega) (by omega),logN_byt (by omega),byt_left (by rw [mark_size];omega),Nat.zero_add]
  · show (headP logN).extract 16 40=txtB 1 0 0
    refine ext_byt (by rw [ByteArray.size_extract,hh,ht];decide) fun i hi=>?_
    rw [ByteArray.size_extract,hh] at hi
    have hi:i<24:=by omega
    rw [byt_cut (by omega) (by omega),logN_byt (by omega),show 16+i=markB.size+i from rfl,byt_right]
  · show numB (headP logN) 52=0
    have z:∀ i,i<4→bytS (headP logN) (52+i)=0:=fun i hi=>by
      rw [logN_byt (by omega)]
      unfold bytS
      rw [dif_neg (by omega)]
    have z0:=z 0 (by decide)
    have z1:=z 1 (by decide)
    have z2:=z 2 (by decide)
    have z3:=z 3 (by decide)
    unfold numB numK numK numK numK numK
    rw [z0,z1,z2,z3]
def noP:Int→Option ByteArray:=fun _=>none
theorem vw_none (log:List UInt8):Vw [] log 0 noP:=⟨fun _ _=>⟨(fun v hv=>by cases hv),fun _=>⟨(fun t ht=>by cases ht),fun _ _ _=>rfl⟩⟩,fun x v hv=>by cases hv⟩
theorem inv_new:Inv ⟨⟨0,1,0,0⟩,0,fun _=>none,fun _=>none⟩ newS noP noP 0:=
  ⟨⟨Nat.le_refl _,Nat.le_refl _⟩,.inl rfl,⟨tp_new,rfl,Wt.nil _ _⟩,rfl,rfl,rfl,(fun x v hv=>by cases hv),vw_none _,vw_none _⟩
theorem new_last:lastC (newD.lb 2)=cm0:=rfl
/- no operation is to fail -/
def NoF (S:DS):Prop:=S.left=-1∧S.down=false
theorem opD_nf {S:DS} (h:NoF S) (f p:Int) (t:ByteArray) (c:Bool):NoF (opD S f p t c).2:=by
  unfold opD
  split
  · split
    · rename_i h1 h2
      rw [h.1] at h2
      exact absurd h2 (by decide)
    · exact ⟨by show decL S.left=-1;rw [h.1];rfl,h.2⟩
  · exact h
theorem synD_nf {S:DS} (h:NoF S) (f:Int):NoF (synD S f).2:=by
  unfold synD
  split
  · split
    · rename_i h1 h2
      rw [h.1] at h2
      exact absurd h2 (by decide)
    · exact ⟨by show decL S.left=-1;rw [h.1];rfl,h.2⟩
  · exact h
theorem apL_nf {L:LS} {S:DS} (h:NoF S) (n:Int) (t:ByteArray):NoF (apL L S n t).2.2:=by
  have h1:=opD_nf h 1 (64+1028 * (L.fr:Int)) (fourB n.toNat ++ t) false
  unfold apL
  split
  · exact h
  · split
    · exact h
    · split
      · exact h1
      · exact h1
theorem tlL_nf {L:LS} {S:DS} (h:NoF S) (fr pg:Nat):NoF (tlL L S fr pg).2.2:=by
  have h1:=opD_nf h 1 (16+24 * ((1 - L.last.slot:Nat):Int)) (txtB (nxN L.last.number) fr pg) false
  have h2:=synD_nf h1 1
  unfold tlL
  split
  · split
    · exact h2
    · exact h2
  · exact h1
theorem cmL_nf {L:LS} {S:DS} (h:NoF S) (n:Int) (t:ByteArray) (pg:Int):NoF (cmL L S n t pg).2.2:=by
  have h1:=apL_nf (L:=L) h n t
  have h2:=synD_nf h1 1
  have h3:=tlL_nf (L:=(apL L S n t).2.1) h2 (apL L S n t).2.1.fr pg.toNat
  unfold cmL
  split
  · exact h
  · split
    · exact h1
    · split
      · exact h2
      · split
        · exact h3
        · exact h3
theorem cmL_ok {L:LS} {S:DS} {k:Nat} (h:okS S k) (n:Int) (t:ByteArray) (pg:Int):okS (cmL L S n t pg).2.2 (k+4):=by
  have h1:=apL_ok (L:=L) h n t
  have h2:=synD_ok h1 1
  have h3:=tlL_ok (L:=(apL L S n t).2.1) h2 (apL L S n t).2.1.fr pg.toNat
  unfold cmL
  split
  · exact h.mono (by omega)
  · split
    · exact h1.mono (by omega)
    · split
      · exact h2.mono (by omega)
      · split
        · exact h3.mono (by omega)
        · exact h3.mono (by omega)
end Go.Proofs.YtmgjdjjfeapcdaaGreat
namespace Go.Proofs.YtmgjdjjfeapcdaaGreat
open Go.RowKit
section
variable {P:Program} {ops:Array Oper} {Q:Exit→Act→World→Prop}
def upd (L:Nat→Bool) (i:Nat):Nat→Bool:=fun j=>j == i || L j
theorem upd_same (L:Nat→Bool) (i:Nat):upd L i i=true:=by simp [upd]
theorem upd_ne (L:Nat→Bool) {i j:Nat} (h:¬ j=i):upd L i j=L j:=by simp [upd,h]
theorem getD_listed {l:Array Bool} {i:Nat} (h:i<l.size) (j:Nat):(l.setIfInBounds i true).getD j false=upd (fun j=>l.getD j false) i j:=by
  by_cases e:j=i
  · subst e;simp [upd,h]
  · rw [upd_ne _ e]
    simp only [Array.getD_eq_getD_getElem?,Array.getElem?_setIfInBounds_ne (Ne.symm e)]
theorem count_listed {l:Array Bool} {i:Nat} (h:l.getD i true=false):(l.setIfInBounds i true).toList.count false+1=l.toList.count false:=by
  have hi:i<l.size:=by
    rcases Nat.lt_or_ge i l.size with h' | h'
    · exact h'
    · simp [Array.getD_eq_getD_getElem?,Array.getElem?_eq_none h'] at h
  have hv:l.toList[i]'(by simpa using hi)=false:=by
    simpa [Array.getD_eq_getD_getElem?,hi] using h
  have e:(l.setIfInBounds i true).toList=l.toList.set i true:=by simp [Array.setIfInBounds,hi]
  rw [e,List.count_set (h:=by simpa using hi)]
  have hpos:0<l.toList.count false:=List.count_pos_iff.2 (by rw [← hv];exact List.getElem_mem _)
  rw [hv,if_pos (by rfl),if_neg (by decide)]
  omega
theorem wpAny_inv (I:(Nat→Bool)→Act→World→Prop)
    (hback:∀ i o,ops[i]?=some o→∀ e ∈ o.after,Region.binds .any e=true→e.on<i)
    (hstep:∀ L a X,I L a X→∀ i o,ops[i]?=some o→L i=false→(∀ e ∈ o.after,Region.binds .any e=true→L e.on=true)→wpOp P ops Q i (fun a' X'=>I (upd L i) a' X') a X)
    (hdone:∀ L a X,I L a X→(∀ i,i<ops.size→L i=true)→Q .normal a X) :
    ∀ (fuel:Nat) (l:Array Bool) (a:Act) (X:World),l.size=ops.size→l.toList.count false≤fuel→I (fun j=>l.getD j false) a X→wpAny P .any ops Q fuel l a X:=by
  have hall:∀ (l:Array Bool),l.size=ops.size→Region.ready .any ops l=[]→∀ i,i<ops.size→l.getD i false=true:=by
    intro l hl hr i
    induction i using Nat.strongRecOn with
    | ind i ih =>
      intro hi
      cases hv:l.getD i false with
      | true=>rfl
      | false =>
        have hm:i ∈ Region.ready .any ops l:=mem_ready.2 ⟨by
          have:i<l.size:=by omega
          simpa [Array.getD_eq_getD_getElem?,this] using hv,ops[i],by simp [hi],fun e he hb=>by
          have:=hback i ops[i] (by simp [hi]) e he hb
          exact ih _ this (by omega)⟩
        rw [hr] at hm
        cases hm
  intro fuel
  induction fuel with
  | zero =>
    intro l a X hl hc hI
    have hr:Region.ready .any ops l=[]:=by
      apply List.eq_nil_iff_forall_not_mem.2
      intro i hi
      have:=count_listed (mem_ready.1 hi).1
      omega
    exact ⟨hr,hdone _ a X hI (hall l hl hr)⟩
  | succ fuel ih =>
    intro l a X hl hc hI
    refine ⟨fun hr=>hdone _ a X hI (hall l hl hr),fun i hi=>?_⟩
    obtain ⟨h0,o,ho,hd⟩:=mem_ready.1 hi
    have hil:i<l.size:=by
      rcases Nat.lt_or_ge i l.size with h' | h'
      · exact h'
      · simp [Array.getD_eq_getD_getElem?,Array.getElem?_eq_none h'] at h0
    have h0':l.getD i false=false:=by simpa [Array.getD_eq_getD_getElem?,hil] using h0
    refine wpOp_mono (fun a' X' h=>ih _ a' X' (by simpa using hl) ?_ ?_) (hstep _ a X hI i o ho h0' hd)
    · have:=count_listed h0;omega
    · have e:(fun j=>(l.setIfInBounds i true).getD j false)=upd (fun j=>l.getD j false) i:=funext (getD_listed hil)
      rw [e];exact h
theorem wp_region_inv {id:Nat} {a:Act} {w:World} (hm:P.follows .mixedOrders=true) (I:Act→(Nat→Bool)→Act→World→Prop)
    (hback:∀ i o,ops[i]?=some o→∀ e ∈ o.after,Region.binds .any e=true→e.on<i)
    (h0:I a (fun _=>false) a w.drew)
    (hstep:∀ L b X,I a L b X→∀ i o,ops[i]?=some o→L i=false→(∀ e ∈ o.after,Region.binds .any e=true→L e.on=true)→wpOp P ops Q i (fun a' X'=>I a (upd L i) a' X') b X)
    (hdone:∀ L b X,I a L b X→(∀ i,i<ops.size→L i=true)→Q .normal b X):(Code.region id ops true).wp P Q a w:=by
  refine wp_region_any hm (wpAny_inv (I a) hback hstep hdone ops.size _ a _ (by simp) (by simp) ?_)
  have e:(fun j=>(Array.replicate ops.size false).getD j false)=fun _=>false:=by
    funext j
    simp only [Array.getD_eq_getD_getElem?,Array.getElem?_replicate]
    split <;> rfl
  rw [e]
  exact h0
def backB (ops:Array Oper):Bool:=(List.range ops.size).all fun i=>(ops.getD i default).after.all fun e=>!Region.binds .any e || decide (e.on<i)
theorem backB_spec (h:backB ops=true):∀ i o,ops[i]?=some o→∀ e ∈ o.after,Region.binds .any e=true→e.on<i:=by
  intro i o ho e he hb
  have hi:i<ops.size:=(Array.getElem?_eq_some_iff.1 ho).1
  have h1:=List.all_eq_true.1 h i (by simpa using hi)
  have eo:ops.getD i default=o:=by simp [Array.getD_eq_getD_getElem?,ho]
  rw [eo] at h1
  have h2:=Array.all_eq_true_iff_forall_mem.1 h1 e he
  simpa [hb] using h2
def depB (f:Array Edge) (js:List Nat):Bool:=js.all fun j=>f.any fun e=>Region.binds .any e && e.on == j
theorem depB_spec {f:Array Edge} {js:List Nat} (h:depB f js=true) {L:Nat→Bool} (hd:∀ e ∈ f,Region.binds .any e=true→L e.on=true):∀ j ∈ js,L j=true:=by
  intro j hj
  obtain ⟨e,he,hb⟩:=Array.any_eq_true'.1 (List.all_eq_true.1 h j hj)
  simp only [Bool.and_eq_true,beq_iff_eq] at hb
  rw [← hb.2]
  exact hd e he hb.1
/- one operation that is not guarded -/
theorem wpOp_value {i:Nat} {o:Oper} {K:Act→World→Prop} {a:Act} {X X':World} {v:Value} (ho:ops[i]?=some o) (hg:o.guard=none) (hr:(execOp a.eval o).run P X=.ok (.value v) X') (h:K (a.put o.dst v) X'):wpOp P ops Q i K a X:=by
  unfold wpOp
  simp only [ho,Region.wanted,hg,if_true,Oper.wp,hr,Oper.upon]
  exact .inl h
theorem wpOp_skip {i:Nat} {o:Oper} {K:Act→World→Prop} {a:Act} {X X':World} (ho:ops[i]?=some o) (hg:o.guard=none) (hr:(execOp a.eval o).run P X=.ok .skip X') (h:K (a.put o.dst undef) X'):wpOp P ops Q i K a X:=by
  unfold wpOp
  simp only [ho,Region.wanted,hg,if_true,Oper.wp,hr,Oper.upon]
  exact .inl h
theorem wpOp_call {i:Nat} {o:Oper} {K:Act→World→Prop} {a:Act} {X X':World} {f:FuncId} {args:Array Value} {R:Value→World→Prop} (ho:ops[i]?=some o) (hg:o.guard=none) (hr:(execOp a.eval o).run P X=.ok (.enter f args) X')
    (hc:Calls P f args X' fun e w'=>∃ v,e=.returned v∧R v w') (h:∀ v w',R v w'→K (a.put o.dst v) w'):wpOp P ops Q i K a X:=by
  unfold wpOp
  simp only [ho,Region.wanted,hg,if_true,Oper.wp,hr,Oper.upon]
  refine .inl (hc.mono fun e w' he=>?_)
  obtain ⟨v,rfl,hR⟩:=he
  exact h v w' hR
end
/- The frame outside of some slots is as it was. -/
def Fr (T:List Nat) (a b:Act):Prop:=b.defers=a.defers∧b.tmps.size=a.tmps.size∧∀ i,¬ i ∈ T→b.tmps[i]?=a.tmps[i]?
theorem Fr.refl (T:List Nat) (a:Act):Fr T a a:=⟨rfl,rfl,fun _ _=>rfl⟩
theorem Fr.put {T:List Nat} {a b:Act} (h:Fr T a b) {j:Nat} (hj:j ∈ T) (v:Value):Fr T a (b.put (some j) v):=by
  refine ⟨h.1,by simpa [Act.put] using h.2.1,fun i hi=>?_⟩
  have:¬ j=i:=fun e=>hi (e ▸ hj)
  simp only [Act.put,Array.getElem?_setIfInBounds_ne this]
  exact h.2.2 i hi
theorem Fr.eval {T:List Nat} {a b:Act} (h:Fr T a b) {i:Nat} (hi:¬ i ∈ T):b.eval (.tmp i)=a.eval (.tmp i):=by
  simp only [Act.eval,Array.getD_eq_getD_getElem?,h.2.2 i hi]
theorem eval_put_same {b:Act} {j:Nat} (h:j<b.tmps.size) (v:Value):(b.put (some j) v).eval (.tmp j)=v:=by
  simp [Act.put,Act.eval,h]
theorem eval_put_ne {b:Act} {i j:Nat} (h:¬ j=i) (v:Value):(b.put (some j) v).eval (.tmp i)=b.eval (.tmp i):=by
  simp only [Act.put,Act.eval,Array.getD_eq_getD_getElem?,Array.getElem?_setIfInBounds_ne h]
def sets:List (Nat × Value)→Array Value→Array Value
  | [],t=>t
  | (i,v) :: l,t=>sets l (t.setIfInBounds i v)
theorem sets_eq {t:Array Value}:∀ (l:List (Nat × Value)) (u:Array Value),u.size=t.size→(∀ p ∈ l,t[p.1]?=some p.2)→(∀ i,¬ i ∈ l.map (·.1)→u[i]?=t[i]?)→sets l u=t
  | [],u,hs,_,h=>Array.ext_getElem? fun i=>h i (by simp)
  | (i,v) :: l,u,hs,hp,h=>by
    refine sets_eq l _ (by simpa using hs) (fun p hpl=>hp p (by simp [hpl])) fun j hj=>?_
    have hv:=hp (i,v) (by simp)
    by_cases e:i=j
    · subst e
      have hi:i<t.size:=by
        rcases Nat.lt_or_ge i t.size with h' | h'
        · exact h'
        · rw [Array.getElem?_eq_none h'] at hv;cases hv
      rw [Array.getElem?_setIfInBounds_self_of_lt (by omega)]
      exact hv.symm
    · rw [Array.getElem?_setIfInBounds_ne e]
      exact h j (by simp only [List.map_cons,List.mem_cons,not_or];exact ⟨Ne.symm e,hj⟩)
theorem get_of_eval {b:Act} {i:Nat} {v:Value} (hi:i<b.tmps.size) (h:b.eval (.tmp i)=v):b.tmps[i]?=some v:=by
  simp only [Act.eval,Array.getD_eq_getD_getElem?,Array.getElem?_eq_getElem hi,Option.getD_some] at h
  rw [Array.getElem?_eq_getElem hi,h]
theorem Fr.eq {T:List Nat} {a b:Act} (h:Fr T a b) (l:List (Nat × Value)) (hT:∀ i,i ∈ T→i ∈ l.map (·.1)) (hp:∀ p ∈ l,p.1<b.tmps.size∧b.eval (.tmp p.1)=p.2):b=⟨sets l a.tmps,a.defers⟩:=by
  have e:=sets_eq (t:=b.tmps) l a.tmps h.2.1.symm (fun p hpl=>get_of_eval (hp p hpl).1 (hp p hpl).2) (fun i hi=>(h.2.2 i (fun hT'=>hi (hT i hT'))).symm)
  rw [e,← h.1]
end Go.Proofs.YtmgjdjjfeapcdaaGreat
namespace Go.Proofs.YtmgjdjjfeapcdaaGreat
open Go.RowKit
theorem wrap_i64n (n:Nat) (h:n<9223372036854775808):IntKind.i64.wrap (n:Int)=(n:Int):=by
  have e:(n:Int) % 2 ^ 64=n:=Int.emod_eq_of_lt (by omega) (by omega)
  simp only [IntKind.wrap,IntKind.bits,IntKind.signed,e]
  rw [if_neg]
  simp
  omega
theorem or_i64 (a b:Nat) (ha:a<4611686018427387904) (hb:b<4611686018427387904):bits .or .i64 (a:Int) (b:Int)=((a ||| b:Nat):Int):=by
  have hx:a ||| b<2 ^ 62:=Nat.or_lt_two_pow (by omega) (by omega)
  show IntKind.i64.wrap ((BitVec.ofInt 64 (a:Int) ||| BitVec.ofInt 64 (b:Int)).toNat:Int)=_
  rw [BitVec.toNat_or,ofInt_u64 a (by omega),ofInt_u64 b (by omega)]
  exact wrap_i64n _ (by omega)
theorem join_i64q (x y k:Nat) (hy:y<2 ^ k) (hx:x * 2 ^ k<4611686018427387904) (hk:2 ^ k≤4611686018427387904):bits .or .i64 ((x * 2 ^ k:Nat):Int) (y:Int)=((x * 2 ^ k+y:Nat):Int):=by
  rw [or_i64 _ _ hx (by omega),nat_join k _ _ (by simp) hy]
/- the polynomial; one bit; one byte; all -/
def poly:Nat:=3988292384
def stp (x:Nat):Nat:=(x / 2) ^^^ (poly * (x % 2))
def stps:Nat→Nat→Nat
  | 0,x=>x
  | k+1,x=>stps k (stp x)
theorem stps_s (k x:Nat):stps (k+1) x=stp (stps k x):=by
  induction k generalizing x with
  | zero=>rfl
  | succ k ih=>rw [stps,ih];rfl
def feed (x c:Nat):Nat:=stps 8 (x ^^^ c)
def fold (s:ByteArray) (x:Nat):Nat→Nat
  | 0=>x
  | k+1=>feed (fold s x k) (s[k]!).toNat
def crc (s:ByteArray):Nat:=4294967295 - fold s 4294967295 s.size
theorem stp_lt {x:Nat} (h:x<4294967296):stp x<4294967296:=by
  have h1:x / 2<2 ^ 32:=by omega
  have h2:poly * (x % 2)<2 ^ 32:=by
    unfold poly
    have:x % 2<2:=Nat.mod_lt _ (by decide)
    omega
  exact Nat.xor_lt_two_pow h1 h2
theorem stps_lt {x:Nat} (h:x<4294967296):∀ k,stps k x<4294967296
  | 0=>h
  | k+1=>by rw [stps_s];exact stp_lt (stps_lt h k)
theorem feed_lt {x c:Nat} (h:x<4294967296) (hc:c<256):feed x c<4294967296:=by
  refine stps_lt ?_ 8
  have:x<2 ^ 32:=h
  exact Nat.xor_lt_two_pow this (show c<2 ^ 32 by omega)
theorem get_lt (s:ByteArray) (k:Nat):(s[k]!).toNat<256:=UInt8.toNat_lt _
theorem fold_lt (s:ByteArray) {x:Nat} (h:x<4294967296):∀ k,fold s x k<4294967296
  | 0=>h
  | k+1=>feed_lt (fold_lt s h k) (get_lt s k)
theorem crc_lt (s:ByteArray):crc s<4294967296:=by unfold crc;omega
theorem stp_bits (Y:Nat) (h:Y<4294967296):bits .xor .u32 ((Y:Int) / 2) (3988292384 * bits .and .u32 (Y:Int) 1 % 4294967296)=((stp Y:Nat):Int):=by
  have x1:bits .and .u32 (Y:Int) 1=((Y % 2:Nat):Int):=by
    have:=u32_and_nat Y 1 h (by omega)
    rw [nat_mask1] at this
    exact this
  have hm:Y % 2<2:=Nat.mod_lt _ (by decide)
  have e1:(3988292384:Int) * ((Y % 2:Nat):Int) % 4294967296=((poly * (Y % 2):Nat):Int):=by unfold poly;omega
  have e2:(Y:Int) / 2=((Y / 2:Nat):Int):=by omega
  rw [x1,e1,e2]
  exact u32_xor_nat _ _ (by omega) (by unfold poly;omega)
theorem not_xor (X:Nat) (h:X<4294967296):4294967295 ^^^ X=4294967295 - X:=by
  have e:(BitVec.allOnes 32 ^^^ BitVec.ofNat 32 X).toNat=(~~~ (BitVec.ofNat 32 X)).toNat:=by rw [BitVec.allOnes_xor]
  rw [BitVec.toNat_xor,BitVec.toNat_not,BitVec.toNat_ofNat,Nat.mod_eq_of_lt (show X<2 ^ 32 by omega)] at e
  exact e
theorem crc_bits (s:ByteArray):bits .xor .u32 IntKind.u32.max ((fold s 4294967295 s.size:Nat):Int)=((crc s:Nat):Int):=by
  have hf:=fold_lt s (x:=4294967295) (by decide) s.size
  have:=u32_xor_nat 4294967295 (fold s 4294967295 s.size) (by decide) hf
  rw [not_xor _ hf] at this
  exact this
end Go.Proofs.YtmgjdjjfeapcdaaGreat
namespace Go.Proofs.YtmgjdjjfeapcdaaGreat
open Go.RowKit
attribute [local go_sem ↓] Go.wp_at_zero Go.wp_at_succ
def byt (s:ByteArray) (i:Nat):Nat:=(s[i]!).toNat
theorem byt_lt (s:ByteArray) (i:Nat):byt s i<256:=UInt8.toNat_lt _
theorem byt_get {s:ByteArray} {i:Nat} (h:i<s.size):(s[i]).toNat=byt s i:=by
  unfold byt
  rw [getElem!_pos s i h]
def two (s:ByteArray) (i:Nat):Nat:=byt s i * 256+byt s (i+1)
theorem two_lt (s:ByteArray) (i:Nat):two s i<65536:=by
  have:=byt_lt s i
  have:=byt_lt s (i+1)
  unfold two;omega
def four (s:ByteArray) (i:Nat):Nat:=two s i * 65536+two s (i+2)
set_option maxHeartbeats 600000 in
theorem ctwo (s:ByteArray) (k:Nat) (w:World) (h:k+1<s.size) (hs:s.size≤4096) :
    Calls Tryz.prog 123 #[.string s,.int .i64 k] w fun e w'=>e=.returned (.int .i64 (two s k))∧∃ nq,w'=w.drewN nq:=by
  have h1:(k:Int)<(s.size:Int):=by omega
  have h2:((k+1:Nat):Int)<(s.size:Int):=by omega
  have e1:IntKind.i64.wrap ((k:Int)+1)=((k+1:Nat):Int):=wrap_i64n (k+1) (by omega)
  have b0:=byt_lt s k
  have b1:=byt_lt s (k+1)
  have g0:=byt_get (show k<s.size by omega)
  have g1:=byt_get h
  have e2:IntKind.i64.wrap ((byt s k:Nat):Int)=((byt s k:Nat):Int):=wrap_i64n _ (by omega)
  have e3:IntKind.i64.wrap ((byt s k:Int) * 256)=((byt s k * 256:Nat):Int):=wrap_i64n (byt s k * 256) (by omega)
  have e4:IntKind.i64.wrap ((byt s (k+1):Nat):Int)=((byt s (k+1):Nat):Int):=wrap_i64n _ (by omega)
  have e5:Hid (bits .or .i64 ((byt s k:Int) * 256) (byt s (k+1):Int)=((two s k:Nat):Int)):=by
    show bits .or .i64 ((byt s k:Int) * 256) (byt s (k+1):Int)=((two s k:Nat):Int)
    rw [show (byt s k:Int) * 256=((byt s k * 2 ^ 8:Nat):Int) by omega]
    exact join_i64q (byt s k) (byt s (k+1)) 8 (by omega) (by omega) (by omega)
  go_enter Tryz.func123,Tryz.ntmps123
  go_wp2
  refine wp_region_quiet_lit (by kernel_rfl) (by kernel_rfl) ?_;(repeat (first | go_big_quiet_step (fail) | (rw [e1])));refine wpQuiet_nil ?_;intro _ hw';obtain ⟨nr,hw''⟩:=hw';subst hw''
  go_wp2
  go_ret
  refine ⟨?_,_,rfl⟩
  show Ending.returned (.int .i64 (bits .or .i64 ((byt s k:Int) * 256) (byt s (k+1):Int)))=_
  rw [e5.out]
set_option maxHeartbeats 600000 in
theorem csum (s:ByteArray) (w:World) (hs:s.size≤4096) :
    Calls Tryz.prog 121 #[.string s] w fun e w'=>e=.returned (.int .u32 (crc s))∧w'=w:=by
  go_enter Tryz.func121,Tryz.ntmps121
  go_wp2
  go_loop [3,8] (fun x y=>∃ k:Nat,y=.int .i64 k∧x=.int .u32 (fold s 4294967295 k)∧k≤s.size) (fun _ y=>s.size - (intOf y).toNat)
  case atStart=>exact ⟨0,rfl,rfl,Nat.zero_le _⟩
  case round =>
    obtain ⟨k,rfl,rfl,hk⟩:=hrel
    have hf:fold s 4294967295 k<4294967296:=fold_lt s (by decide) k
    by_cases h0:k<s.size
    · have h1:(k:Int)<(s.size:Int):=by omega
      have b0:=byt_lt s k
      have g0:=byt_get h0
      have x0:=u32_xor_nat (fold s 4294967295 k) (byt s k) hf (by omega)
      have hX:fold s 4294967295 k ^^^ byt s k<4294967296:=Nat.xor_lt_two_pow (n:=32) hf (by omega)
      go_wp2
      go_loop [3,17] (fun x y=>∃ j:Nat,y=.int .i64 j∧x=.int .u32 (stps j (fold s 4294967295 k ^^^ byt s k))∧j≤8) (fun _ y=>8 - (intOf y).toNat)
      case atStart=>exact ⟨0,rfl,rfl,Nat.zero_le _⟩
      case round =>
        obtain ⟨j,rfl,rfl,hj⟩:=hrel
        have hX':=stps_lt hX j
        by_cases h2:j<8
        · have h3:(j:Int)<8:=by omega
          have x1:=stp_bits _ hX'
          go_wp2
          exact ⟨⟨j+1,by simp,by rw [stps_s],by omega⟩,by simp [intOf];omega⟩
        · obtain rfl:j=8:=by omega
          go_wp2
          exact ⟨⟨k+1,by simp,rfl,by omega⟩,by simp [intOf];omega⟩
    · obtain rfl:k=s.size:=by omega
      have HC:Hid _:=crc_bits s
      go_wp2
      go_ret
      refine ⟨?_,rfl⟩
      show Ending.returned (.int .u32 (bits .xor .u32 IntKind.u32.max ((fold s 4294967295 s.size:Nat):Int)))=_
      rw [HC.out]
end Go.Proofs.YtmgjdjjfeapcdaaGreat
namespace Go.Proofs.YtmgjdjjfeapcdaaGreat
open Go.RowKit
attribute [local go_sem ↓] Go.wp_at_zero Go.wp_at_succ
def cellsB (l:List UInt8):List Value:=l.map fun b=>.int .u8 (b.toNat:Int)
/- 1,024 bytes in a block -/
def Pgq (W:World) (g:Nat) (l:List UInt8):Prop:=l.length=1024∧W.heap[g]?=some (.cells (cellsB l).toArray 5 (0,0))
theorem Pgq.cell {W:World} {g:Nat} {l:List UInt8} (h:Pgq W g l) {i:Nat} (hi:i<1024):∃ x,W.cell? ⟨g,i,none⟩=some (.int .u8 x):=by
  refine ⟨((l[i]'(by rw [h.1];exact hi)).toNat:Int),?_⟩
  have:i<l.length:=by rw [h.1];exact hi
  simp [World.cell?,h.2,cellsB,this]
theorem Pgq.frozen {W:World} {g:Nat} {l:List UInt8} (h:Pgq W g l) (i:Nat):W.frozen? ⟨g,i,none⟩=false:=by simp [World.frozen?,h.2]
theorem Pgq.set {W:World} {g:Nat} {l:List UInt8} (h:Pgq W g l) (i:Nat) (x:Nat) {v:Value} (hv:v=.int .u8 ((x % 256:Nat):Int)):Pgq (W.setCell ⟨g,i,none⟩ v) g (l.set i (UInt8.ofNat x)):=by
  subst hv
  refine ⟨by rw [List.length_set];exact h.1,?_⟩
  obtain ⟨hlt,hk⟩:=Array.getElem?_eq_some_iff.1 h.2
  show (W.heap.modify g _)[g]?=_
  rw [Array.getElem?_eq_getElem (by rw [Array.size_modify];exact hlt),Array.getElem_modify_self,hk]
  have e:cellsB (l.set i (UInt8.ofNat x))=(cellsB l).set i (.int .u8 ((x % 256:Nat):Int)):=by
    unfold cellsB
    rw [List.map_set]
    simp
  rw [e]
  simp
def put2 (l:List UInt8) (a n:Nat):List UInt8:=(l.set a (UInt8.ofNat (n / 256))).set (a+1) (UInt8.ofNat n)
def put4 (l:List UInt8) (a n:Nat):List UInt8:=put2 (put2 l a (n / 65536)) (a+2) n
set_option maxHeartbeats 600000 in
theorem cputTwo (g k n:Nat) (l:List UInt8) (W:World) (h:Pgq W g l) (hk:k+1<1024)  :
    Calls Tryz.prog 119 #[.slice (some ⟨g,0,none⟩) 1024 1024,.int .i64 k,.int .i64 n] W fun e W'=>e=.returned (.tuple #[])∧Pgq W' g (put2 l k n)∧∀ B,B≤g→Below B W W':=by
  have HP:Hid (Pgq W g l):=h
  obtain ⟨x0,c0⟩:=h.cell (show k<1024 by omega)
  obtain ⟨x1,c1⟩:=h.cell hk
  have f0:=h.frozen k
  have f1:=h.frozen (k+1)
  clear h
  have h1:(k:Int)<1024:=by omega
  have h2:(k:Int)+1<1024:=by omega
  go_enter Tryz.func119,Tryz.ntmps119
  go_wp2
  go_end0
  refine ⟨rfl,(HP.out.set k (n / 256) (by congr 1)).set (k+1) n (by congr 1),fun B hB=>((Below.refl _ _).setCell hB _).setCell hB _⟩
set_option maxHeartbeats 600000 in
theorem cputFour (g k n:Nat) (l:List UInt8) (W:World) (h:Pgq W g l) (hk:k+3<1024)  :
    Calls Tryz.prog 120 #[.slice (some ⟨g,0,none⟩) 1024 1024,.int .i64 k,.int .i64 n] W fun e W'=>e=.returned (.tuple #[])∧Pgq W' g (put4 l k n)∧∀ B,B≤g→Below B W W':=by
  have HP:Hid (Pgq W g l):=h
  clear h
  have e1:Hid ((n:Int) / 65536=((n / 65536:Nat):Int)):=(by omega:(n:Int) / 65536=((n / 65536:Nat):Int))
  have e2:Hid ((k:Int)+2=((k+2:Nat):Int)):=(by omega:(k:Int)+2=((k+2:Nat):Int))
  go_enter Tryz.func120,Tryz.ntmps120
  go_wp2_with fail
  rw [e1.out]
  refine (cputTwo g k (n / 65536) l W HP.out (by omega)).mono ?_
  rintro e W1 ⟨rfl,P1,B1⟩
  go_wp2_with fail
  rw [e2.out]
  refine (cputTwo g (k+2) n _ W1 P1 (by omega)).mono ?_
  rintro e W2 ⟨rfl,P2,B2⟩
  go_wp2
  go_end0
  exact ⟨rfl,P2,fun B hB=>(B1 B hB).trans (B2 B hB)⟩
end Go.Proofs.YtmgjdjjfeapcdaaGreat
namespace Go.Proofs.YtmgjdjjfeapcdaaGreat
open Go.RowKit
attribute [local go_sem ↓] Go.wp_at_zero Go.wp_at_succ
set_option maxHeartbeats 600000 in
theorem cfourq (s:ByteArray) (k:Nat) (w:World) (h:k+3<s.size) (hs:s.size≤4096) :
    Calls Tryz.prog 69 #[.string s,.int .i64 k] w fun e w'=>e=.returned (.int .i64 (four s k))∧∃ nq,w'=w.drewN nq:=by
  have b0:=two_lt s k
  have b1:=two_lt s (k+2)
  have e5:Hid (bits .or .i64 ((two s k:Int) * 65536) (two s (k+2):Int)=((four s k:Nat):Int)):=by
    show bits .or .i64 ((two s k:Int) * 65536) (two s (k+2):Int)=((four s k:Nat):Int)
    rw [show (two s k:Int) * 65536=((two s k * 2 ^ 16:Nat):Int) by omega]
    exact join_i64q (two s k) (two s (k+2)) 16 (by omega) (by omega) (by omega)
  go_enter Tryz.func69,Tryz.ntmps69
  have HK:Hid ((k:Int)+2=((k+2:Nat):Int)):=(by omega:(k:Int)+2=((k+2:Nat):Int))
  go_wp2_with fail
  refine (ctwo s k _ (by omega) hs).mono ?_
  rintro e w1 ⟨rfl,nq,rfl⟩
  go_wp2_with fail
  rw [HK.out]
  refine (ctwo s (k+2) _ (by omega) hs).mono ?_
  rintro e w2 ⟨rfl,nq2,rfl⟩
  go_wp2
  go_ret
  refine ⟨?_,_,rfl⟩
  show Ending.returned (.int .i64 (bits .or .i64 ((two s k:Int) * 65536) (two s (k+2):Int)))=_
  rw [e5.out]
/- texts in a slice -/
def StA (w:World) (a:Option Addr) (n:Nat) (S:Nat→ByteArray):Prop:=n=0∨∃ b off,a=some ⟨b,off,none⟩∧b<w.heap.size∧∀ i,i<n→w.cell? ⟨b,off+i,none⟩=some (.string (S i))
theorem StA.below {w X:World} {a:Option Addr} {n:Nat} {S:Nat→ByteArray} (h:StA w a n S) (hb:Below w.heap.size w X):StA X a n S:=by
  rcases h with h | ⟨b,off,e,hlt,h⟩
  · exact Or.inl h
  · exact Or.inr ⟨b,off,e,keepSize hb hlt,fun i hi=>keepCell hb hlt (h i hi)⟩
/- how many bytes the first k texts have -/
def len (S:Nat→ByteArray):Nat→Nat
  | 0=>0
  | k+1=>len S k+(S k).size
theorem len_mono (S:Nat→ByteArray) {i:Nat}:∀ {j:Nat},i≤j→len S i≤len S j
  | 0,h=>by have:i=0:=by omega
               subst this;exact Nat.le_refl _
  | j+1,h=>by
    rcases Nat.lt_or_ge j i with h' | h'
    · have:i=j+1:=by omega
      subst this;exact Nat.le_refl _
    · have:=len_mono S h'
      show len S i≤len S j+(S j).size
      omega
set_option maxHeartbeats 600000 in
theorem cused (a:Option Addr) (n cap:Nat) (S:Nat→ByteArray) (w:World) (h:StA w a n S) (hn:4 * n+len S n≤1099511627776) :
    Calls Tryz.prog 118 #[.slice a n cap] w fun e w'=>e=.returned (.int .i64 (4 * n+len S n:Nat))∧w'=w:=by
  have HS:Hid (StA w a n S):=h
  clear h
  go_enter Tryz.func118,Tryz.ntmps118
  go_wp2
  go_loop [3,11] (fun x y=>∃ k:Nat,y=.int .i64 k∧x=.int .i64 (4 * (n:Int)+(len S k:Nat))∧k≤n) (fun _ y=>n - (intOf y).toNat)
  case atStart=>exact ⟨0,rfl,by simp [len],Nat.zero_le _⟩
  case round =>
    obtain ⟨k,rfl,rfl,hk⟩:=hrel
    by_cases h0:k<n
    · obtain ⟨b,off,rfl,hlt,hcells⟩:∃ b off,a=some ⟨b,off,none⟩∧b<w.heap.size∧∀ j,j<n→w.cell? ⟨b,off+j,none⟩=some (.string (S j)):=by
        rcases HS.out with h | h
        · omega
        · exact h
      have c0:=hcells k h0
      have h1:(k:Int)<(n:Int):=by omega
      have h2:=len_mono S (show k+1≤n by omega)
      have h3:len S (k+1)=len S k+(S k).size:=rfl
      clear hcells
      go_wp2
      go_round
      case rel=>exact ⟨k+1,by go_num,by rw [h3];go_num,by omega⟩
      case measure=>simp [intOf];omega
    · obtain rfl:k=n:=by omega
      go_wp2
      go_ret
      exact ⟨by go_num,rfl⟩
def pk (c n:Int):Int:=(if c<0 then -(c+1) else c) % n
set_option maxHeartbeats 600000 in
theorem cpickq (c n:Int) (w:World) (hc:-9223372036854775808≤c∧c≤9223372036854775807) (hn:0<n) (hn':n≤4096) :
    Calls Tryz.prog 18 #[.int .i64 c,.int .i64 n] w fun e w'=>e=.returned (.int .i64 (pk c n))∧w'=w:=by
  unfold pk
  obtain ⟨c1,c2⟩:=hc
  by_cases h:c<0
  · rw [if_pos h]
    have e1:(-(c+1)).tmod n=-(c+1) % n:=Int.tmod_eq_emod_of_nonneg (by omega)
    go_enter Tryz.func18,Tryz.ntmps18
    go_wp2
    go_ret
    exact ⟨rfl,rfl⟩
  · rw [if_neg h]
    have e1:c.tmod n=c % n:=Int.tmod_eq_emod_of_nonneg (by omega)
    go_enter Tryz.func18,Tryz.ntmps18
    go_wp2
    go_ret
    exact ⟨rfl,rfl⟩
end Go.Proofs.YtmgjdjjfeapcdaaGreat
namespace Go.Proofs.YtmgjdjjfeapcdaaGreat
open Go.RowKit
attribute [local go_sem ↓] Go.wp_at_zero Go.wp_at_succ
def blankq:List UInt8:=List.replicate 1024 0
theorem blank_lenq:blankq.length=1024:=by unfold blankq;exact List.length_replicate
theorem blank_cellsq:cellsB blankq=List.replicate 1024 (.int .u8 0):=by unfold cellsB blankq;rw [List.map_replicate];rfl
theorem blank_4:(cellsB blankq).toArray[4]?=some (.int .u8 0):=by rw [blank_cellsq];kernel_rfl
def spl (l:List UInt8) (o:Nat) (s:ByteArray):List UInt8:=l.take o ++ s.data.toList ++ l.drop (o+s.size)
/- where the k-th cell's end is -/
def at' (S:Nat→ByteArray) (k:Nat):Nat:=1024 - (2 * k+len S k)
def lay (S:Nat→ByteArray) (l:List UInt8):Nat→List UInt8
  | 0=>l
  | k+1=>spl (put2 (put2 (lay S l k) (12+2 * k) (at' S (k+1))) (at' S (k+1)) (S k).size) (at' S (k+1)+2) (S k)
def head (k lk n:Nat):List UInt8:=put4 (put2 (blankq.set 4 (UInt8.ofNat k)) 6 n) 8 lk
def body (k lk n:Nat) (S:Nat→ByteArray):List UInt8:=lay S (head k lk n) n
def sealed (k lk n:Nat) (S:Nat→ByteArray):List UInt8:=put4 (body k lk n S) 0 (crc ⟨((body k lk n S).drop 4).toArray⟩)
theorem put2_len (l:List UInt8) (a n:Nat):(put2 l a n).length=l.length:=by simp [put2]
theorem put4_len (l:List UInt8) (a n:Nat):(put4 l a n).length=l.length:=by simp [put4,put2_len]
theorem spl_len (l:List UInt8) (o:Nat) (s:ByteArray) (h:o+s.size≤l.length):(spl l o s).length=l.length:=by
  have:s.data.size=s.size:=rfl
  simp [spl]
  omega
theorem head_lenq (k lk n:Nat):(head k lk n).length=1024:=by unfold head;rw [put4_len,put2_len,List.length_set,blank_lenq]
theorem below_cell {N:Nat} {W W':World} (h:Below N W W') {b o:Nat} {v:Value} (hb:b<N) (hc:W.cell? ⟨b,o,none⟩=some v):W'.cell? ⟨b,o,none⟩=some v:=
  (World.cell?_of_block (h.block b hb)).trans hc
theorem spl_nil (l:List UInt8) (o:Nat) (s:ByteArray) (h:s.size=0):spl l o s=l:=by
  have:s.data.toList=[]:=by
    have h':s.data.toList.length=0:=h
    exact List.eq_nil_of_length_eq_zero h'
  simp [spl,this,h]
theorem hszU8:(Tryz.prog.info? 5).map (·.size)=some 1:=by kernel_rfl
theorem Pgq.copy {W:World} {g:Nat} {l:List UInt8} (h:Pgq W g l) (off dl dc:Nat) (t:ByteArray) (hle:t.size≤dl) (hfit:off+t.size≤1024) :
    ∃ W',(Builtin.copy_ #[59,9] 3 #[.slice (some ⟨g,off,none⟩) dl dc,.string t]).run Tryz.prog W=.ok (.int .i64 t.size) W'∧Pgq W' g (spl l off t)∧∀ B,B≤g→Below B W W':=by
  have hl:(cellsB l).toArray.size=1024:=by simp [cellsB,h.1]
  refine ⟨_,Lib.run_copy_row_string (P:=Tryz.prog) W 59 9 3 5 g off dl dc t (cellsB l).toArray 5 Tryz.underlying59 hszU8 h.2 hle (by rw [hl];exact hfit),?_,fun B hB=>below_setRow (Below.refl _ _) hB _⟩
  refine ⟨by rw [spl_len _ _ _ (by rw [h.1];exact hfit)];exact h.1,?_⟩
  rw [setRow_heap W g _ _ _ _ h.2]
  congr 3
  simp [cellsB,spl,Lib.byteCells]
theorem copy0 (W:World) (d:Option Addr) (dl dc:Nat) (t:ByteArray) (h0:t.size=0) :
    (Builtin.copy_ #[59,9] 3 #[.slice d dl dc,.string t]).run Tryz.prog W=.ok (.int .i64 0) W:=
  Lib.run_copy_empty_string (P:=Tryz.prog) W 59 9 3 5 d dl dc t Tryz.underlying59 (by rw [hszU8];rfl) h0
theorem Pgq.text {W:World} {g:Nat} {l:List UInt8} (h:Pgq W g l) (o:Nat):(convert 59 9 (.slice (some ⟨g,o,none⟩) (1024 - o) (1024 - o))).run Tryz.prog W=.ok (.string ⟨(l.drop o).toArray⟩) W:=by
  have hl:(l.drop o).length=1024 - o:=by rw [List.length_drop,h.1]
  have:=run_convert_bytes_back (P:=Tryz.prog) W 59 9 5 ⟨g,o,none⟩ (1024 - o) (l.drop o) Tryz.underlying59 Tryz.underlying5 Tryz.underlying9 (fun j hj=>by
    rw [Addr.add_lit]
    have hj':o+j<l.length:=by rw [List.length_drop] at hj;omega
    simp [World.cell?,h.2,cellsB,hj'])
  rw [hl] at this
  exact this
theorem makeBq (w:World):(Instr.makeSlice 59 (.int .i64 1024) (.int .i64 1024)).run Tryz.prog w=.ok (.slice (some ⟨w.heap.size,0,none⟩) 1024 1024) (w.alloc (.cells (cellsB blankq).toArray 5)):=by
  have hI:(Tryz.prog.info? 5).map (fun i=>(i.zero,i.size,i.bytes))=some (some (.int .u8 0),1,1):=by kernel_rfl
  obtain ⟨i0,hi,hz0,hz1,hz2⟩:=info_parts hI
  rw [run_make w 59 5 i0 (.int .u8 0) Tryz.underlying59 hi hz0 .i64 .i64 1024 1024 (by decide) (by decide) (by rw [hz2];decide) (by decide),hz1]
  have e:madeCells (Value.int IntKind.u8 0).cells ((1024:Int).toNat * 1)=(cellsB blankq).toArray:=by
    apply Array.ext'
    show (madeCells #[.int .u8 0] 1024).toList=cellsB blankq
    rw [toList_madeCells_one,blank_cellsq]
  rw [e]
  rfl
set_option maxRecDepth 20000 in
set_option maxHeartbeats 1000000 in
theorem cseal_ok (K Lk:Nat) (a:Option Addr) (n cap:Nat) (S:Nat→ByteArray) (w:World) (h:StA w a n S) (hK:1≤K∧K≤5) (hL:Lk≤2147483647) (hn:4 * n+len S n≤1012) :
    Calls Tryz.prog 64 #[.agg #[.int .i64 K,.int .i64 Lk,.slice a n cap]] w fun e w'=>e=.returned (.tuple #[.string ⟨(sealed K Lk n S).toArray⟩,.int .i64 0])∧Below w.heap.size w w':=by
  have HS:Hid (∀ W,Below w.heap.size w W→StA W a n S):=fun W hb=>h.below hb
  clear h
  have hmk:=makeBq
  have k1:((K:Int)<1)=False:=by simp <;> omega
  have k2:((5:Int)<K)=False:=by simp <;> omega
  have k3:((Lk:Int)<0)=False:=by simp <;> omega
  have k4:((2147483647:Int)<Lk)=False:=by simp <;> omega
  go_enter Tryz.func64,Tryz.ntmps64
  go_wp2_with fail
  refine (cused a n cap S _ (HS.out _ ((Below.refl _ _).alloc (Nat.le_refl _) _)) (by omega)).mono ?_
  rintro e w1 ⟨rfl,rfl⟩
  have hu:((1012:Int)<((4 * n+len S n:Nat):Int))=False:=by simp;omega
  have b4:=blank_4
  go_wp2_with fail
  have P0:Pgq ((w.alloc (.cells #[.int .i64 K,.int .i64 Lk,.slice a n cap] 82)).alloc (.cells ((cellsB blankq).set 4 (.int .u8 K)).toArray 5)) (w.heap.size+1) (blankq.set 4 (UInt8.ofNat K)):=by
    refine ⟨by rw [List.length_set,blank_lenq],?_⟩
    have e:(cellsB blankq).set 4 (.int .u8 K)=cellsB (blankq.set 4 (UInt8.ofNat K)):=by
      unfold cellsB
      rw [List.map_set]
      congr 2
      have:K % 256=K:=by omega
      simp [this]
    rw [e]
    have:=World.alloc_heap_new (w.alloc (.cells #[.int .i64 K,.int .i64 Lk,.slice a n cap] 82)) (.cells (cellsB (blankq.set 4 (UInt8.ofNat K))).toArray 5)
    simpa using this
  refine (cputTwo _ 6 n _ _ P0 (by omega)).mono ?_
  rintro e W1 ⟨rfl,P1,B1⟩
  have q0:W1.cell? ⟨w.heap.size,0,none⟩=some (.int .i64 K):=below_cell (B1 _ (Nat.le_refl _)) (by omega) (by go_simp)
  have q1:W1.cell? ⟨w.heap.size,1,none⟩=some (.int .i64 Lk):=below_cell (B1 _ (Nat.le_refl _)) (by omega) (by go_simp)
  have q2:W1.cell? ⟨w.heap.size,2,none⟩=some (.slice a n cap):=below_cell (B1 _ (Nat.le_refl _)) (by omega) (by go_simp)
  have HB1:Hid (Below w.heap.size w W1):=((((Below.refl _ _).alloc (Nat.le_refl _) _).alloc (by simp) _)).trans (B1 _ (Nat.le_succ _))
  have HP1:Hid _:=P1
  clear B1 P0 P1 b4 hmk k1 k2 k3 k4 hu
  go_wp2_with fail
  refine (cputFour _ 8 Lk _ _ HP1.out (by omega)).mono ?_
  rintro e W2 ⟨rfl,P2,B2⟩
  have r2:W2.cell? ⟨w.heap.size,2,none⟩=some (.slice a n cap):=below_cell (B2 _ (Nat.le_refl _)) (by omega) q2
  have HB2:Hid (Below w.heap.size w W2):=HB1.out.trans (B2 _ (Nat.le_succ _))
  have HP2:Hid (Pgq W2 (w.heap.size+1) (head K Lk n)):=P2
  clear B2 P2 HB1 HP1 q0 q1 q2
  go_wp2_with fail
  go_loopw [5,50] (fun x y X=>∃ k:Nat,y=.int .i64 k∧x=.int .i64 (at' S k)∧k≤n∧Hid (Pgq X (w.heap.size+1) (lay S (head K Lk n) k))∧Hid (Below w.heap.size w X)) (fun _ y _=>n - (intOf y).toNat)
  case atStart=>exact ⟨0,rfl,rfl,Nat.zero_le _,HP2.out,HB2.out⟩
  case round =>
    obtain ⟨k,rfl,rfl,hk,HP,HB⟩:=hrel
    by_cases h0:k<n
    · obtain ⟨b,off,rfl,hlt,hcells⟩:∃ b off,a=some ⟨b,off,none⟩∧b<wr.heap.size∧∀ j,j<n→wr.cell? ⟨b,off+j,none⟩=some (.string (S j)):=by
        rcases HS.out _ HB.out with h | h
        · omega
        · exact h
      have c0:=hcells k h0
      have i1:(k:Int)<(n:Int):=by omega
      have l1:=len_mono S (show k+1≤n by omega)
      have l2:len S (k+1)=len S k+(S k).size:=rfl
      have s0:(S k).size≤1012:=by omega
      have a1:at' S k≤1024:=by unfold at';omega
      have a2:at' S (k+1)≤1022:=by unfold at';omega
      have a3:12+2 * k+2≤at' S (k+1):=by unfold at';omega
      have a4:at' S (k+1)+2+(S k).size≤1024:=by unfold at';omega
      have HA:Hid ((at' S k:Int) - (2+((S k).size:Int))=(at' S (k+1):Nat)):=by
        show (at' S k:Int) - (2+((S k).size:Int))=(at' S (k+1):Nat)
        unfold at';omega
      have HI:Hid (12+2 * (k:Int)=((12+2 * k:Nat):Int)):=(by omega:12+2 * (k:Int)=((12+2 * k:Nat):Int))
      clear l1 l2
      clear hcells HB2 HP2 r2
      go_wp2_with fail
      rw [HA.out,HI.out]
      refine (cputTwo _ (12+2 * k) (at' S (k+1)) _ _ HP.out (by omega)).mono ?_
      rintro e W1 ⟨rfl,P1,B1⟩
      have HB1:Hid (Below w.heap.size w W1):=HB.out.trans (B1 _ (Nat.le_succ _))
      have HP1:Hid _:=P1
      clear P1 B1 HB HP
      go_wp2_with fail
      refine (cputTwo _ (at' S (k+1)) (S k).size _ _ HP1.out (by omega)).mono ?_
      rintro e W2 ⟨rfl,P2,B2⟩
      have HB2:Hid (Below w.heap.size w W2):=HB1.out.trans (B2 _ (Nat.le_succ _))
      have HP2:Hid _:=P2
      clear P2 B2 HB1 HP1
      by_cases hz:at' S (k+1)=1022
      · have HZ0:Hid ((S k).size=0):=(by omega:(S k).size=0)
        have hcp:=copy0 W2 (some ⟨w.heap.size+1,0,none⟩) 0 0 (S k) HZ0.out
        have HP3:Hid (Pgq W2 (w.heap.size+1) (lay S (head K Lk n) (k+1))):=by
          show Pgq W2 (w.heap.size+1) (spl _ _ (S k))
          rw [spl_nil _ _ _ HZ0.out]
          exact HP2.out
        go_wp2
        go_roundw
        case rel=>exact ⟨k+1,by go_num,by simp [hz],by omega,HP3,HB2⟩
        case measure=>simp [intOf];omega
      · have hz1:at' S (k+1)<1022:=by omega
        obtain ⟨W3,hcp,P3,B3⟩:=Pgq.copy HP2.out (at' S (k+1)+2) (1022 - at' S (k+1)) (1022 - at' S (k+1)) (S k) (by omega) a4
        have HB3:Hid (Below w.heap.size w W3):=HB2.out.trans (B3 _ (Nat.le_succ _))
        have HP3:Hid (Pgq W3 (w.heap.size+1) (lay S (head K Lk n) (k+1))):=P3
        clear P3 B3 HB2 HP2
        go_wp2
        go_roundw
        case rel=>exact ⟨k+1,by go_num,rfl,by omega,HP3,HB3⟩
        case measure=>simp [intOf];omega
    · obtain rfl:k=n:=by omega
      have hcv:=HP.out.text 4
      go_wp2_with fail
      refine (csum _ _ ?_).mono ?_
      · show (List.drop 4 (lay S (head K Lk k) k)).toArray.size≤4096
        have:=HP.out.1
        simp [this]
      rintro e W1 ⟨rfl,rfl⟩
      have HC:=crc_lt ⟨(List.drop 4 (lay S (head K Lk k) k)).toArray⟩
      go_wp2_with fail
      refine (cputFour _ 0 (crc ⟨(List.drop 4 (lay S (head K Lk k) k)).toArray⟩) _ _ HP.out (by omega)).mono ?_
      rintro e W2 ⟨rfl,P2,B2⟩
      have hcv2:=P2.text 0
      have HB3:Hid (Below w.heap.size w W2):=HB.out.trans (B2 _ (Nat.le_succ _))
      clear P2 B2 hcv
      go_wp2_with fail
      go_ret2
      exact ⟨rfl,HB3.out⟩
set_option maxHeartbeats 1000000 in
theorem cseal_room (K Lk:Nat) (a:Option Addr) (n cap:Nat) (S:Nat→ByteArray) (w:World) (h:StA w a n S) (hK:1≤K∧K≤5) (hL:Lk≤2147483647) (hn:1012<4 * n+len S n) (hn':4 * n+len S n≤1099511627776) :
    Calls Tryz.prog 64 #[.agg #[.int .i64 K,.int .i64 Lk,.slice a n cap]] w fun e w'=>e=.returned (.tuple #[.string ⟨#[]⟩,.int .i64 5])∧Below w.heap.size w w':=by
  have HS:Hid (∀ W,Below w.heap.size w W→StA W a n S):=fun W hb=>h.below hb
  clear h
  have k1:((K:Int)<1)=False:=by simp <;> omega
  have k2:((5:Int)<K)=False:=by simp <;> omega
  have k3:((Lk:Int)<0)=False:=by simp <;> omega
  have k4:((2147483647:Int)<Lk)=False:=by simp <;> omega
  go_enter Tryz.func64,Tryz.ntmps64
  go_wp2_with fail
  refine (cused a n cap S _ (HS.out _ ((Below.refl _ _).alloc (Nat.le_refl _) _)) hn').mono ?_
  rintro e w1 ⟨rfl,rfl⟩
  have hu:(1012:Int)<4 * (n:Int)+(len S n:Int):=by omega
  go_wp2_with fail
  go_ret2
  exact ⟨rfl,((Below.refl _ _).alloc (Nat.le_refl _) _)⟩
set_option maxHeartbeats 1000000 in
theorem cseal_arg1 (K Lk:Int) (v:Value) (w:World) (h1:K<1) (hv:∃ a n cap,v=.slice a n cap) :
    Calls Tryz.prog 64 #[.agg #[.int .i64 K,.int .i64 Lk,v]] w fun e w'=>e=.returned (.tuple #[.string ⟨#[]⟩,.int .i64 1])∧Below w.heap.size w w':=by
  obtain ⟨a,n,cap,rfl⟩:=hv
  go_enter Tryz.func64,Tryz.ntmps64
  go_wp2_with fail
  go_ret2
  exact ⟨rfl,((Below.refl _ _).alloc (Nat.le_refl _) _)⟩
set_option maxHeartbeats 1000000 in
theorem cseal_arg2 (K Lk:Int) (v:Value) (w:World) (h1:1≤K) (h2:5<K) (hv:∃ a n cap,v=.slice a n cap) :
    Calls Tryz.prog 64 #[.agg #[.int .i64 K,.int .i64 Lk,v]] w fun e w'=>e=.returned (.tuple #[.string ⟨#[]⟩,.int .i64 1])∧Below w.heap.size w w':=by
  obtain ⟨a,n,cap,rfl⟩:=hv
  go_enter Tryz.func64,Tryz.ntmps64
  go_wp2_with fail
  go_ret2
  exact ⟨rfl,((Below.refl _ _).alloc (Nat.le_refl _) _)⟩
set_option maxHeartbeats 1000000 in
theorem cseal_arg3 (K Lk:Int) (v:Value) (w:World) (h1:1≤K) (h2:K≤5) (h3:Lk<0) (hv:∃ a n cap,v=.slice a n cap) :
    Calls Tryz.prog 64 #[.agg #[.int .i64 K,.int .i64 Lk,v]] w fun e w'=>e=.returned (.tuple #[.string ⟨#[]⟩,.int .i64 1])∧Below w.heap.size w w':=by
  obtain ⟨a,n,cap,rfl⟩:=hv
  go_enter Tryz.func64,Tryz.ntmps64
  go_wp2_with fail
  go_ret2
  exact ⟨rfl,((Below.refl _ _).alloc (Nat.le_refl _) _)⟩
set_option maxHeartbeats 1000000 in
theorem cseal_arg4 (K Lk:Int) (v:Value) (w:World) (h1:1≤K) (h2:K≤5) (h3:0≤Lk) (h4:2147483647<Lk) (hv:∃ a n cap,v=.slice a n cap) :
    Calls Tryz.prog 64 #[.agg #[.int .i64 K,.int .i64 Lk,v]] w fun e w'=>e=.returned (.tuple #[.string ⟨#[]⟩,.int .i64 1])∧Below w.heap.size w w':=by
  obtain ⟨a,n,cap,rfl⟩:=hv
  go_enter Tryz.func64,Tryz.ntmps64
  go_wp2_with fail
  go_ret2
  exact ⟨rfl,((Below.refl _ _).alloc (Nat.le_refl _) _)⟩
/- Seal, whatever it is given -/
theorem cseal (K Lk:Int) (a:Option Addr) (n cap:Nat) (S:Nat→ByteArray) (w:World) (h:StA w a n S) (hn:4 * n+len S n≤1099511627776) :
    Calls Tryz.prog 64 #[.agg #[.int .i64 K,.int .i64 Lk,.slice a n cap]] w fun e w' =>
      ((e=.returned (.tuple #[.string ⟨#[]⟩,.int .i64 1])∧¬ (1≤K∧K≤5∧0≤Lk∧Lk≤2147483647)) ∨
       (e=.returned (.tuple #[.string ⟨#[]⟩,.int .i64 5])∧(1≤K∧K≤5∧0≤Lk∧Lk≤2147483647)∧1012<4 * n+len S n) ∨
       (e=.returned (.tuple #[.string ⟨(sealed K.toNat Lk.toNat n S).toArray⟩,.int .i64 0])∧(1≤K∧K≤5∧0≤Lk∧Lk≤2147483647)∧4 * n+len S n≤1012))∧Below w.heap.size w w':=by
  have hv:∃ a' n' cap',Value.slice a n cap=.slice a' n' cap':=⟨_,_,_,rfl⟩
  by_cases h1:K<1
  · exact (cseal_arg1 K Lk _ w h1 hv).mono fun e w' ⟨h,hb⟩=>⟨.inl ⟨h,by omega⟩,hb⟩
  by_cases h2:5<K
  · exact (cseal_arg2 K Lk _ w (by omega) h2 hv).mono fun e w' ⟨h,hb⟩=>⟨.inl ⟨h,by omega⟩,hb⟩
  by_cases h3:Lk<0
  · exact (cseal_arg3 K Lk _ w (by omega) (by omega) h3 hv).mono fun e w' ⟨h,hb⟩=>⟨.inl ⟨h,by omega⟩,hb⟩
  by_cases h4:2147483647<Lk
  · exact (cseal_arg4 K Lk _ w (by omega) (by omega) (by omega) h4 hv).mono fun e w' ⟨h,hb⟩=>⟨.inl ⟨h,by omega⟩,hb⟩
  obtain ⟨k,rfl⟩:=Int.eq_ofNat_of_zero_le (show 0≤K by omega)
  obtain ⟨lk,rfl⟩:=Int.eq_ofNat_of_zero_le (show 0≤Lk by omega)
  by_cases h5:4 * n+len S n≤1012
  · exact (cseal_ok k lk a n cap S w h (by omega) (by omega) h5).mono fun e w' ⟨h,hb⟩=>⟨.inr (.inr ⟨h,by omega,h5⟩),hb⟩
  · exact (cseal_room k lk a n cap S w h (by omega) (by omega) (by omega) hn).mono fun e w' ⟨h,hb⟩=>⟨.inr (.inl ⟨h,by omega,by omega⟩),hb⟩
end Go.Proofs.YtmgjdjjfeapcdaaGreat
namespace Go.Proofs.YtmgjdjjfeapcdaaGreat
open Go.RowKit
attribute [local go_sem ↓] Go.wp_at_zero Go.wp_at_succ
/- the cells from the i-th on, the one before ending at e -/
def rd (s:ByteArray):Nat→Nat→Nat→List ByteArray
  | 0,_,_=>[]
  | f+1,i,e=>if e<two s (12+2 * i)+2∨two s (12+2 * i)+2+two s (two s (12+2 * i)) ≠ e then [] else s.extract (two s (12+2 * i)+2) e :: rd s f (i+1) (two s (12+2 * i))
def many (s:ByteArray):Nat:=min (two s 6) 253
theorem infoS:(Tryz.prog.info? 9).map (fun i=>(i.zero,i.size,i.bytes))=some (some (.string ⟨#[]⟩),1,16):=by kernel_rfl
def valsS (L:List ByteArray):List Value:=L.map (.string ·)
theorem valsS_app (L:List ByteArray) (x:ByteArray):valsS L ++ [.string x]=valsS (L ++ [x]):=by simp [valsS]
theorem rd_len (s:ByteArray):∀ f i e,(rd s f i e).length≤f
  | 0,_,_=>Nat.le_refl _
  | f+1,i,e=>by
    unfold rd
    split
    · exact Nat.zero_le _
    · have:=rd_len s f (i+1) (two s (12+2 * i))
      simp only [List.length_cons]
      omega
theorem rd_stop {s:ByteArray} {f i e:Nat} (h:e<two s (12+2 * i)+2∨two s (12+2 * i)+2+two s (two s (12+2 * i)) ≠ e):rd s f i e=[]:=by
  cases f with
  | zero=>rfl
  | succ f=>unfold rd;rw [if_pos h]
theorem rd_go {s:ByteArray} {f i e:Nat} (h:¬ (e<two s (12+2 * i)+2∨two s (12+2 * i)+2+two s (two s (12+2 * i)) ≠ e)):rd s (f+1) i e=s.extract (two s (12+2 * i)+2) e :: rd s f (i+1) (two s (12+2 * i)):=by
  rw [rd,if_neg h]
/- what the loop keeps: the cells so far and those to come are all -/
structure Ro (s:ByteArray) (M i e:Nat) (xs:List ByteArray):Prop where
  len:xs.length=i
  le:i≤M
  end':e≤1024
  all:xs ++ rd s (M - i) i e=rd s M 0 1024
theorem Ro.start (s:ByteArray) (M:Nat):Ro s M 0 1024 []:=⟨rfl,Nat.zero_le _,Nat.le_refl _,rfl⟩
theorem Ro.step {s:ByteArray} {M i e:Nat} {xs:List ByteArray} (h:Ro s M i e xs) (hi:i<M) (hg:¬ (e<two s (12+2 * i)+2∨two s (12+2 * i)+2+two s (two s (12+2 * i)) ≠ e)):Ro s M (i+1) (two s (12+2 * i)) (xs ++ [s.extract (two s (12+2 * i)+2) e]):=by
  refine ⟨by simp [h.len],hi,by have:=h.end';omega,?_⟩
  rw [← h.all,show M - i=(M - (i+1))+1 by omega,rd_go hg]
  simp
theorem Ro.stop {s:ByteArray} {M i e:Nat} {xs:List ByteArray} (h:Ro s M i e xs) (hg:i=M∨(e<two s (12+2 * i)+2∨two s (12+2 * i)+2+two s (two s (12+2 * i)) ≠ e)):xs=rd s M 0 1024:=by
  have:=h.all
  rcases hg with rfl | hg
  · rw [Nat.sub_self] at this
    simpa [rd] using this
  · rw [rd_stop hg] at this
    simpa using this
set_option maxRecDepth 20000 in
set_option maxHeartbeats 1000000 in
theorem ccells_a (s:ByteArray) (w:World) (hs:s.size=1024) (hm:two s 6≤253) :
    Calls Tryz.prog 70 #[.string s] w fun e w'=>∃ v,e=.returned v∧w'.ownsRow w.heap.size 9 1 v (rd s (two s 6) 0 1024).length (valsS (rd s (two s 6) 0 1024))∧Below w.heap.size w w':=by
  obtain ⟨i0,hi,hz0,hz1,hz2⟩:=info_parts infoS
  have hm':(two s 6:Int)≤253:=by omega
  go_enter Tryz.func70,Tryz.ntmps70
  go_wp2_with fail
  refine (ctwo s 6 _ (by omega) (by omega)).mono ?_
  rintro e w1 ⟨rfl,nq,rfl⟩
  obtain ⟨w2,hmk,hown,hgr⟩:=run_make_own (P:=Tryz.prog) (w:=w.drewN nq) w.heap.size 43 9 i0 (.string ⟨#[]⟩) 1 Tryz.underlying43 hi hz0 hz1 .i64 .i64 (two s 6) (by rw [hz2];omega) (by unfold maxLen;omega) (by simp)
  have HO:Hid (w2.ownsRow w.heap.size 9 1 (.slice (some ⟨w.heap.size,0,none⟩) 0 (two s 6)) 0 (valsS [])):=(by simpa [valsS] using hown:w2.ownsRow w.heap.size 9 1 (.slice (some ⟨w.heap.size,0,none⟩) 0 (two s 6)) 0 (valsS []))
  have HB:Hid (Below w.heap.size w w2):=(below_drewN (Below.refl _ _) nq).grown hgr (by simp) (fun k hk=>by cases hk)
  skip
  clear hown hgr
  go_wp2_with fail
  go_loopw [4,5,16] (fun v x y X=>∃ (i e:Nat) (xs:List ByteArray),y=.int .i64 i∧x=.int .i64 e∧Hid (Ro s (two s 6) i e xs)∧Hid (X.ownsRow w.heap.size 9 1 v i (valsS xs))∧Hid (Below w.heap.size w X)) (fun _ _ y _=>two s 6 - (intOf y).toNat)
  case atStart=>exact ⟨0,1024,[],rfl,rfl,Ro.start s _,HO.out,HB.out⟩
  case round =>
    obtain ⟨i,e,xs,rfl,rfl,HR,HO,HB⟩:=hrel
    have e0:e≤1024:=HR.out.end'
    have i1:=HR.out.le
    have fin:Hid (xs=rd s (two s 6) 0 1024→wr.ownsRow w.heap.size 9 1 u4 (rd s (two s 6) 0 1024).length (valsS (rd s (two s 6) 0 1024))):=fun h=>by
      have hl:=HR.out.len
      subst hl
      rw [← h]
      exact HO.out
    by_cases h0:i<two s 6
    · have h1:(i:Int)<(two s 6:Int):=by omega
      have HI:Hid (12+2 * (i:Int)=((12+2 * i:Nat):Int)):=(by omega:12+2 * (i:Int)=((12+2 * i:Nat):Int))
      go_wp2_with fail
      rw [HI.out]
      refine (ctwo s (12+2 * i) _ (by omega) (by omega)).mono ?_
      rintro e1 w3 ⟨rfl,nq3,rfl⟩
      have l0:=two_lt s (12+2 * i)
      have HB3:Hid (Below w.heap.size w (wr.drewN nq3)):=below_drewN HB.out _
      have HO3:Hid ((wr.drewN nq3).ownsRow w.heap.size 9 1 u4 i (valsS xs)):=HO.out
      generalize hA:two s (12+2 * i)=A at *
      have HA:Hid (two s (12+2 * i)=A):=hA
      clear hA
      by_cases h2:e<A+2
      · have h3:(e:Int)<(A:Int)+2:=by omega
        go_wp2_with fail
        go_ret
        exact ⟨u4,rfl,fin.out (HR.out.stop (.inr (.inl (by rw [HA.out];exact h2)))),HB3.out⟩
      · have h3:¬ (e:Int)<(A:Int)+2:=by omega
        have h3':(A:Int)+2≤e:=by omega
        go_wp2_with fail
        refine (ctwo s A _ (by omega) (by omega)).mono ?_
        rintro e1 w4 ⟨rfl,nq4,rfl⟩
        have l1:=two_lt s A
        have HB4:Hid (Below w.heap.size w (wr.drewN (nq3+nq4))):=below_drewN HB.out _
        have HO4:Hid ((wr.drewN (nq3+nq4)).ownsRow w.heap.size 9 1 u4 i (valsS xs)):=HO.out
        generalize hT:two s A=T at *
        have HT:Hid (two s A=T):=hT
        clear hT
        by_cases h4:A+2+T=e
        · have h5:((A:Int)+2+(T:Int) != (e:Int))=false:=by simp;omega
          have HR':Hid (Ro s (two s 6) (i+1) A (xs ++ [s.extract (A+2) e])):=by
            have:=HR.out.step h0 (by rw [HA.out,HT.out];omega)
            rw [HA.out] at this
            exact this
          have h6:(e:Int)≤(s.size:Int):=by omega
          have h7:(0:Int)≤(A:Int)+2:=by omega
          clear HO HB HO3 HB3 fin HR
          go_wp2_with (at_builtin;go_must (refine wpList_append_lies _ rfl _ _ _ rfl w.heap.size 9 i0 (.string ⟨#[]⟩) 1 16 Tryz.underlying43 hi hz0 hz1 hz2 rfl (by decide) _ i (valsS xs) rfl (World.ownsRow.alloc HO4.out _) _ 1 1 [.string (s.extract (A+2) e)] rfl rfl ?q1 ?q2 (by decide) ?q3 ?q4 ?q5 _ rfl ?_))
          (try (case q1=>exact cell_one_new _ _ _))
          case q2=>first | (intro u hu;simp at hu;rw [hu];rfl) | rfl | simp
          case q3=>unfold maxLen;omega
          case q4=>omega
          case q5=>have:=Below.size HB4.out;simp at this ⊢;omega
          intro g1 cap1 W1 hown1 hgrow hat hlt1
          rw [valsS_app] at hown1
          have HB5:Hid (Below w.heap.size w W1):=(Below.alloc HB4.out (Below.size HB4.out) _).grown hgrow (by have:=Below.size HB4.out;simp at this ⊢;omega) (fun k hk=>((World.ownsRow.lt HO4.out) k hk).1)
          have HO5:Hid (W1.ownsRow w.heap.size 9 1 (.slice (some ⟨g1,0,none⟩) (i+1) cap1) (i+1) (valsS (xs ++ [s.extract (A+2) e]))):=hown1
          clear hown1 hgrow hat hlt1 HO4 HB4
          go_wp2
          go_roundw
          case rel=>exact ⟨i+1,A,_,by go_num,rfl,HR',HO5,HB5⟩
          case measure=>simp [intOf];omega
        · have h5:((A:Int)+2+(T:Int) != (e:Int))=true:=by simp;omega
          go_wp2_with fail
          go_ret
          exact ⟨u4,rfl,fin.out (HR.out.stop (.inr (.inr (by rw [HA.out,HT.out];exact h4)))),HB4.out⟩
    · obtain rfl:i=two s 6:=by omega
      go_wp2_with fail
      go_ret
      exact ⟨u4,rfl,fin.out (HR.out.stop (.inl rfl)),HB.out⟩
set_option maxRecDepth 20000 in
set_option maxHeartbeats 1000000 in
theorem ccells_b (s:ByteArray) (w:World) (hs:s.size=1024) (hm:253<two s 6) :
    Calls Tryz.prog 70 #[.string s] w fun e w'=>∃ v,e=.returned v∧w'.ownsRow w.heap.size 9 1 v (rd s (253) 0 1024).length (valsS (rd s (253) 0 1024))∧Below w.heap.size w w':=by
  obtain ⟨i0,hi,hz0,hz1,hz2⟩:=info_parts infoS
  have hm':253<(two s 6:Int):=by omega
  go_enter Tryz.func70,Tryz.ntmps70
  go_wp2_with fail
  refine (ctwo s 6 _ (by omega) (by omega)).mono ?_
  rintro e w1 ⟨rfl,nq,rfl⟩
  obtain ⟨w2,hmk,hown,hgr⟩:=run_make_own (P:=Tryz.prog) (w:=w.drewN nq) w.heap.size 43 9 i0 (.string ⟨#[]⟩) 1 Tryz.underlying43 hi hz0 hz1 .i64 .i64 (253) (by rw [hz2];omega) (by unfold maxLen;omega) (by simp)
  have HO:Hid (w2.ownsRow w.heap.size 9 1 (.slice (some ⟨w.heap.size,0,none⟩) 0 (253)) 0 (valsS [])):=(by simpa [valsS] using hown:w2.ownsRow w.heap.size 9 1 (.slice (some ⟨w.heap.size,0,none⟩) 0 (253)) 0 (valsS []))
  have HB:Hid (Below w.heap.size w w2):=(below_drewN (Below.refl _ _) nq).grown hgr (by simp) (fun k hk=>by cases hk)
  replace hmk:(Instr.makeSlice 43 (.int .i64 0) (.int .i64 253)).run Tryz.prog (w.drewN nq)=.ok (.slice (some ⟨w.heap.size,0,none⟩) 0 253) w2:=hmk
  clear hown hgr
  go_wp2_with fail
  go_loopw [4,5,16] (fun v x y X=>∃ (i e:Nat) (xs:List ByteArray),y=.int .i64 i∧x=.int .i64 e∧Hid (Ro s (253) i e xs)∧Hid (X.ownsRow w.heap.size 9 1 v i (valsS xs))∧Hid (Below w.heap.size w X)) (fun _ _ y _=>253 - (intOf y).toNat)
  case atStart=>exact ⟨0,1024,[],rfl,rfl,Ro.start s _,HO.out,HB.out⟩
  case round =>
    obtain ⟨i,e,xs,rfl,rfl,HR,HO,HB⟩:=hrel
    have e0:e≤1024:=HR.out.end'
    have i1:=HR.out.le
    have fin:Hid (xs=rd s (253) 0 1024→wr.ownsRow w.heap.size 9 1 u4 (rd s (253) 0 1024).length (valsS (rd s (253) 0 1024))):=fun h=>by
      have hl:=HR.out.len
      subst hl
      rw [← h]
      exact HO.out
    by_cases h0:i<253
    · have h1:(i:Int)<(253:Int):=by omega
      have HI:Hid (12+2 * (i:Int)=((12+2 * i:Nat):Int)):=(by omega:12+2 * (i:Int)=((12+2 * i:Nat):Int))
      go_wp2_with fail
      rw [HI.out]
      refine (ctwo s (12+2 * i) _ (by omega) (by omega)).mono ?_
      rintro e1 w3 ⟨rfl,nq3,rfl⟩
      have l0:=two_lt s (12+2 * i)
      have HB3:Hid (Below w.heap.size w (wr.drewN nq3)):=below_drewN HB.out _
      have HO3:Hid ((wr.drewN nq3).ownsRow w.heap.size 9 1 u4 i (valsS xs)):=HO.out
      generalize hA:two s (12+2 * i)=A at *
      have HA:Hid (two s (12+2 * i)=A):=hA
      clear hA
      by_cases h2:e<A+2
      · have h3:(e:Int)<(A:Int)+2:=by omega
        go_wp2_with fail
        go_ret
        exact ⟨u4,rfl,fin.out (HR.out.stop (.inr (.inl (by rw [HA.out];exact h2)))),HB3.out⟩
      · have h3:¬ (e:Int)<(A:Int)+2:=by omega
        have h3':(A:Int)+2≤e:=by omega
        go_wp2_with fail
        refine (ctwo s A _ (by omega) (by omega)).mono ?_
        rintro e1 w4 ⟨rfl,nq4,rfl⟩
        have l1:=two_lt s A
        have HB4:Hid (Below w.heap.size w (wr.drewN (nq3+nq4))):=below_drewN HB.out _
        have HO4:Hid ((wr.drewN (nq3+nq4)).ownsRow w.heap.size 9 1 u4 i (valsS xs)):=HO.out
        generalize hT:two s A=T at *
        have HT:Hid (two s A=T):=hT
        clear hT
        by_cases h4:A+2+T=e
        · have h5:((A:Int)+2+(T:Int) != (e:Int))=false:=by simp;omega
          have HR':Hid (Ro s (253) (i+1) A (xs ++ [s.extract (A+2) e])):=by
            have:=HR.out.step h0 (by rw [HA.out,HT.out];omega)
            rw [HA.out] at this
            exact this
          have h6:(e:Int)≤(s.size:Int):=by omega
          have h7:(0:Int)≤(A:Int)+2:=by omega
          clear HO HB HO3 HB3 fin HR
          go_wp2_with (at_builtin;go_must (refine wpList_append_lies _ rfl _ _ _ rfl w.heap.size 9 i0 (.string ⟨#[]⟩) 1 16 Tryz.underlying43 hi hz0 hz1 hz2 rfl (by decide) _ i (valsS xs) rfl (World.ownsRow.alloc HO4.out _) _ 1 1 [.string (s.extract (A+2) e)] rfl rfl ?q1 ?q2 (by decide) ?q3 ?q4 ?q5 _ rfl ?_))
          (try (case q1=>exact cell_one_new _ _ _))
          case q2=>first | (intro u hu;simp at hu;rw [hu];rfl) | rfl | simp
          case q3=>unfold maxLen;omega
          case q4=>omega
          case q5=>have:=Below.size HB4.out;simp at this ⊢;omega
          intro g1 cap1 W1 hown1 hgrow hat hlt1
          rw [valsS_app] at hown1
          have HB5:Hid (Below w.heap.size w W1):=(Below.alloc HB4.out (Below.size HB4.out) _).grown hgrow (by have:=Below.size HB4.out;simp at this ⊢;omega) (fun k hk=>((World.ownsRow.lt HO4.out) k hk).1)
          have HO5:Hid (W1.ownsRow w.heap.size 9 1 (.slice (some ⟨g1,0,none⟩) (i+1) cap1) (i+1) (valsS (xs ++ [s.extract (A+2) e]))):=hown1
          clear hown1 hgrow hat hlt1 HO4 HB4
          go_wp2
          go_roundw
          case rel=>exact ⟨i+1,A,_,by go_num,rfl,HR',HO5,HB5⟩
          case measure=>simp [intOf];omega
        · have h5:((A:Int)+2+(T:Int) != (e:Int))=true:=by simp;omega
          go_wp2_with fail
          go_ret
          exact ⟨u4,rfl,fin.out (HR.out.stop (.inr (.inr (by rw [HA.out,HT.out];exact h4)))),HB4.out⟩
    · obtain rfl:i=253:=by omega
      go_wp2_with fail
      go_ret
      exact ⟨u4,rfl,fin.out (HR.out.stop (.inl rfl)),HB.out⟩
theorem ccells (s:ByteArray) (w:World) (hs:s.size=1024) :
    Calls Tryz.prog 70 #[.string s] w fun e w'=>∃ v,e=.returned v∧w'.ownsRow w.heap.size 9 1 v (rd s (many s) 0 1024).length (valsS (rd s (many s) 0 1024))∧Below w.heap.size w w':=by
  unfold many
  by_cases h:two s 6≤253
  · rw [Nat.min_eq_left h];exact ccells_a s w hs h
  · rw [Nat.min_eq_right (by omega)];exact ccells_b s w hs (by omega)
end Go.Proofs.YtmgjdjjfeapcdaaGreat
