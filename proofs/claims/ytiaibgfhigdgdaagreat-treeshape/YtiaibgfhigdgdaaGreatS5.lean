/- a part -/
import Derived.Test.YtiaibgfhigdgdaaGreatS3
import Derived.Test.YtiaibgfhigdgdaaGreatSrt
import Derived.Maps.StringElems
set_option maxRecDepth 100000
set_option maxHeartbeats 8000000
namespace Go.Proofs.YtiaibgfhigdgdaaGreat
open Go.RowKit Go.Maps Go.Sort Go.Shelf
variable {f:Int}{n p q i a slot size k m fr pg:Nat}{lb:Nat→List UInt8}{ws:List Chg}{c:Cm}{t s b:ByteArray}{l l' log' P P':List UInt8}{x:Chg}{F F' kept now:Int→Option ByteArray}{K:Nat→Prop}{fa:Nat→Int}{S:DS}{L:LS}
open Go.Lib
attribute [local go_sem ↓] Go.wp_at_zero Go.wp_at_succ
theorem drawnB (w:World)(m:Nat):Below w.heap.size w (w.drewN m):=⟨rfl,rfl,rfl,Nat.le_refl _,fun _ _=>rfl⟩
def updS (F:Int→Option ByteArray)(k:Int)(v:ByteArray):Int→Option ByteArray:=fun x=>if x=k then some v else F x
def wth (F:Int→Option ByteArray)(n:Int)(s:ByteArray):Int→Option ByteArray:=updS F n s
def newD:DS:=⟨fun _=>[],[],-1,0,false⟩
theorem ask0 {n:Int}(hf:f=0∨f=1)(h0:0≤n)(h1:n≤67108864):askE f 0 n false=0:=by
 have:fitsD f 0 n:=by
  unfold fitsD;rcases hf with rfl | rfl<;>simp<;>omega
 unfold askE;rw[if_pos this];rfl
theorem kshort (a:Option Addr)(n c:Nat)(w:World)(hn:n≤140737488355328)(hc:n≤c)(ha:a=none→n=0∧c=0):Calls Tryz.prog 17 #[.slice a n c] w fun e w'=>e=.returned (.slice a (min n 250) c)∧w'=w:=by
 by_cases h:n≤250
 ·rw[Nat.min_eq_left h];have h':(n:Int)≤250:=by omega
  go_enter Tryz.func17,Tryz.ntmps17;go_wp2_with fail
  go_ret;exact⟨by show Ending.returned (Value.slice a (min (n:Int) 250).toNat c)=_;rw[show(min (n:Int) 250).toNat=n by omega],rfl⟩
 ·rw[Nat.min_eq_right (by omega)];have h':¬(n:Int)≤250:=by omega
  have h2:(250:Int)≤(c:Int):=by omega
  cases a with
  | none=>have:=ha rfl;omega
  | some ad =>
   clear ha;go_enter Tryz.func17,Tryz.ntmps17;go_wp2_with fail
   go_ret;exact⟨by show Ending.returned (Value.slice (some ad) (min (n:Int) 250).toNat c)=_;rw[show(min (n:Int) 250).toNat=250 by omega],rfl⟩
theorem cnewD (X:World):Calls Tryz.prog 5 #[] X fun e w'=>e=.returned (.pointer (some ⟨X.heap.size,0,none⟩))∧PDs w' X.heap.size X.heap.size newD∧Below X.heap.size X w':=by
 refine(cnew X).mono ?_;rintro e w⟨h1,h2,h3⟩;exact⟨h1,⟨_,_,h2⟩,h3⟩
def crD (fa:Nat→Int)(S:DS):DS:=⟨cpL (crL fa S.ws S.lb S.ws.length) 2,[],-1,S.count,false⟩
theorem onL_new (t:ByteArray):onL 0 t false []=ll t:=by
 unfold onL fil;simp
theorem syn_up {c:Int}(hf:f=0∨f=1):synD ⟨lb,ws,-1,c,false⟩ f=(0,⟨updF lb (2*f.toNat+1) (foldF f.toNat ws (lb (2*f.toNat+1))),othF f.toNat ws,-1,c+1,false⟩):=by
 unfold synD
 dsimp only
 rw[if_pos (ask0 hf (by omega) (by omega)),if_neg (show ¬(-1:Int)=0 by decide)];rfl
theorem onL_ge:l.length≤(onL p t false l).length:=by
 rw[onL_len];simp;omega
theorem cp_at (l:Nat→List UInt8):cpL l 2 0=l 1∧cpL l 2 1=l 1∧cpL l 2 2=l 3∧cpL l 2 3=l 3:=by
 simp[cpL,updF]
theorem byt_cut (hq:q≤s.size)(hi:p+i<q):bytS (s.extract p q) i=bytS s (p+i):=by
 unfold bytS;have h1:i<(s.extract p q).size:=by rw[ByteArray.size_extract];omega
 rw[dif_pos h1,dif_pos (by omega),ByteArray.getElem_extract]
theorem byt_left {a:ByteArray}(h:i<a.size):bytS (a++b) i=bytS a i:=by
 unfold bytS;rw[dif_pos (by rw[ByteArray.size_append];omega),dif_pos h,ByteArray.getElem_append_left h]
theorem byt_right {a:ByteArray}:bytS (a++b) (a.size+i)=bytS b i:=by
 unfold bytS;by_cases h:i<b.size
 ·rw[dif_pos (by rw[ByteArray.size_append];omega),dif_pos h,ByteArray.getElem_append_right (by omega)]
  congr 2
  omega
 ·rw[dif_neg (by rw[ByteArray.size_append];omega),dif_neg h]
theorem four_num (h:n<4294967296):numB (fourB n) 0=n:=by
 have b0:bytS (fourB n) 0=n/16777216%256:=rfl;have b1:bytS (fourB n) 1=n/65536%256:=rfl;have b2:bytS (fourB n) 2=n/256%256:=rfl;have b3:bytS (fourB n) 3=n%256:=rfl;unfold numB numK numK numK numK numK;simp only[Nat.zero_add,b0,b1,b2,b3];omega
theorem num_same {a:ByteArray}(h:∀i<4,bytS a (p+i)=bytS b (q+i)):numB a p=numB b q:=by
 unfold numB numK numK numK numK numK;rw[h 0 (by decide),h 1 (by decide),h 2 (by decide),h 3 (by decide)]
theorem half_num {f:Nat}(hn:n<4294967296)(hf:f<4294967296)(hp:p<4294967296):numB (halfB n f p) 0=n∧numB (halfB n f p) 4=f∧numB (halfB n f p) 8=p:=by
 have s1:(fourB n++fourB f).size=8:=by rw[ByteArray.size_append];rfl
 refine⟨?_,?_,?_⟩
 ·refine(num_same (b:=fourB n) (q:=0) fun i hi=>?_).trans (four_num hn);show bytS (fourB n++fourB f++fourB p) (0+i)=_;rw[byt_left (by omega),byt_left (by rw[fourB_size];omega)]
 ·refine(num_same (b:=fourB f) (q:=0) fun i hi=>?_).trans (four_num hf);show bytS (fourB n++fourB f++fourB p) ((fourB n).size+i)=_;rw[byt_left (by rw[s1,fourB_size];omega),byt_right,Nat.zero_add]
 ·refine(num_same (b:=fourB p) (q:=0) fun i hi=>?_).trans (four_num hp);have e:(8:Nat)+i=(fourB n++fourB f).size+i:=by rw[s1]
  show bytS (fourB n++fourB f++fourB p) (8+i)=_;rw[e,byt_right,Nat.zero_add]
theorem txt_num {f:Nat}(hn:n<4294967296)(hf:f<4294967296)(hp:p<4294967296):numB (txtB n f p) 0=n∧numB (txtB n f p) 4=f∧numB (txtB n f p) 8=p:=by
 obtain⟨h1,h2,h3⟩:=half_num hn hf hp;have k:∀q,q+4≤12→numB (txtB n f p) q=numB (halfB n f p) q:=fun q hq=>num_same fun i hi=>by
  unfold txtB;rw[byt_left (by rw[halfB_size];omega)]
 exact⟨(k 0 (by omega)).trans h1,(k 4 (by omega)).trans h2,(k 8 (by omega)).trans h3⟩
theorem told_of {head:ByteArray}{f:Nat}(hs:q+24≤head.size)(h:head.extract q (q+24)=txtB n f p)(hn:1≤n∧n≤3)(hf:f<4294967296)(hp:p<4294967296)(hz:f=0∨64+1028*f≤size):toldA head q slot size=⟨slot,n,f,p⟩:=by
 obtain⟨h1,h2,h3⟩:=txt_num (n:=n) (by omega) hf hp;have k:∀d,d+4≤24→numB head (q+d)=numB (txtB n f p) d:=fun d hd=>num_same fun i hi=>by
  rw[←h,byt_cut hs (by omega),Nat.add_assoc]
 have e0:numB head q=n:=(k 0 (by omega)).trans h1;have e4:numB head (q+4)=f:=(k 4 (by omega)).trans h2;have e8:numB head (q+8)=p:=(k 8 (by omega)).trans h3;unfold toldA;rw[if_neg (by omega),e0,e4,e8,if_neg (fun hh=>hh hn),if_neg (fun hh=>hh h.symm),if_neg (by omega)]
theorem num_lt (s:ByteArray)(p:Nat):numB s p<4294967296:=numK_lt s p 4
theorem txt_second {f:Nat}(hn:n<4294967296)(hf:f<4294967296)(hp:p<4294967296):numB (txtB n f p) 12=n:=by
 obtain⟨h1,_,_⟩:=half_num hn hf hp;refine(num_same (b:=halfB n f p) (q:=0) fun i hi=>?_).trans h1;have e:(12:Nat)+i=(halfB n f p).size+i:=by rw[halfB_size]
 unfold txtB;rw[e,byt_right,Nat.zero_add]
theorem told_second (head:ByteArray)(q slot size:Nat):(toldA head q slot size).number=0∨((toldA head q slot size).number=numB head (q+12)∧1≤numB head (q+12)):=by
 unfold toldA;by_cases h1:head.size<q+24
 ·rw[if_pos h1];exact .inl rfl
 ·rw[if_neg h1];by_cases h2:1≤numB head q∧numB head q≤3
  ·rw[if_neg (fun h=>h h2)];by_cases h3:txtB (numB head q) (numB head (q+4)) (numB head (q+8))=head.extract q (q+24)
   ·rw[if_neg (fun h=>h h3)];have k:numB head (q+12)=numB head q:=by
     refine Eq.trans ?_ (txt_second (num_lt head q) (num_lt head (q+4)) (num_lt head (q+8)));refine num_same fun i hi=>?_
     rw[h3,byt_cut (by omega) (by omega),Nat.add_assoc]
    split
    ·exact .inl rfl
    ·exact .inr ⟨k.symm,by omega⟩
   ·rw[if_pos h3];exact .inl rfl
  ·rw[if_pos h2];exact .inl rfl
def headP (log:List UInt8):ByteArray:=⟨((fil log 64).take 64).toArray⟩
theorem headP_size (log:List UInt8):(headP log).size=64:=by
 show((fil log 64).take 64).toArray.size=64;rw[List.size_toArray,List.length_take,fil_len];omega
theorem headP_long {log:List UInt8}(h:64≤log.length):headP log=headB log:=by
 unfold headP headB;rw[fil_le h]
def bL (l:List UInt8)(i:Nat):UInt8:=(l[i]?).getD 0
theorem bL_fil (l:List UInt8)(n i:Nat):bL (fil l n) i=bL l i:=by
 unfold bL fil;by_cases h:i<l.length
 ·rw[List.getElem?_append_left h]
 ·rw[List.getElem?_append_right (by omega),List.getElem?_replicate,List.getElem?_eq_none (by omega)];split<;>rfl
theorem headP_byt (log:List UInt8)(h:i<64):bytS (headP log) i=(bL log i).toNat:=by
 have hs:=headP_size log;rw[←bL_fil log 64 i];unfold bytS bL;rw[dif_pos (by omega)];have hl:i<((fil log 64).take 64).length:=by rw[List.length_take,fil_len];omega
 show(((fil log 64).take 64).toArray[i]'(by simpa using hl)).toNat=_;rw[List.getElem_toArray,List.getElem_take,List.getElem?_eq_getElem (by rw[fil_len];omega)];rfl
theorem bytS_ll (t:ByteArray)(i:Nat):(bL (ll t) i).toNat=bytS t i:=by
 unfold bytS bL ll;by_cases h:i<t.size
 ·rw[dif_pos h,List.getElem?_eq_getElem (show i<t.data.toList.length from h)];rfl
 ·rw[dif_neg h,List.getElem?_eq_none (show t.data.toList.length≤i from Nat.le_of_not_lt h)];rfl
theorem ext_byt {a:ByteArray}(hs:a.size=b.size)(h:∀i,i<a.size→bytS a i=bytS b i):a=b:=by
 apply ByteArray.ext;apply Array.ext
 ·exact hs
 ·intro i h1 h2;have:=h i h1;unfold bytS at this;rw[dif_pos (show i<a.size from h1),dif_pos (show i<b.size from h2)] at this;exact UInt8.toNat_inj.1 this
theorem head_len {log:List UInt8}(h:log.length≤64):(headB log).size=log.length:=by
 show(log.take 64).toArray.size=log.length;rw[List.size_toArray,List.length_take];omega
theorem headB_byt {log:List UInt8}(h:log.length≤64)(i:Nat):bytS (headB log) i=(bL log i).toNat:=by
 rw[←bytS_ll];show(bL (log.take 64).toArray.toList i).toNat=_;rw[List.take_of_length_le h]
theorem pad_byte {log:List UInt8}(h:log.length≤64)(i:Nat):bytS (headP log) i=bytS (headB log) i:=by
 by_cases hi:i<64
 ·rw[headP_byt _ hi,headB_byt h]
 ·have h1:=headP_size log;have h2:=head_len h;unfold bytS;rw[dif_neg (by omega),dif_neg (by omega)]
theorem pad_num {log:List UInt8}(h:log.length≤64)(p:Nat):numB (headP log) p=numB (headB log) p:=num_same fun i _=>pad_byte h (p+i)
theorem pad_cut {log:List UInt8}(h:log.length≤64){b:Nat}(hb:b≤log.length):(headP log).extract a b=(headB log).extract a b:=by
 have h1:=headP_size log;have h2:=head_len h;refine ext_byt (by rw[ByteArray.size_extract,ByteArray.size_extract];omega) fun i hi=>?_
 rw[ByteArray.size_extract] at hi;rw[byt_cut (by omega) (by omega),byt_cut (by omega) (by omega),pad_byte h]
theorem pad_mark {log:List UInt8}(h:(40≤log.length∧log.length≤52)∨64≤log.length):isMark (headP log)=isMark (headB log):=by
 rcases h with h|h
 ·have h2:=head_len (log:=log) (by omega);unfold isMark;rw[pad_cut (by omega) (by omega),headP_size,h2]
  congr 1
  exact propext ⟨fun k=>⟨by omega,k.2⟩,fun k=>⟨by omega,k.2⟩⟩
 ·rw[headP_long h]
theorem num_far (h:s.size≤p):numB s p=0:=by
 have z:∀i,bytS s (p+i)=0:=fun i=>by unfold bytS;rw[dif_neg (by omega)]
 unfold numB;have z0:bytS s p=0:=z 0;simp[numK,z,z0]
theorem told_zero {head:ByteArray}(h:(toldA head q slot size).number=0):toldA head q slot size=cm0:=by
 revert h
 unfold toldA;split
 ·exact fun _=>rfl
 ·split
  ·exact fun _=>rfl
  ·rename_i _ hn
   split
   ·exact fun _=>rfl
   ·split
    ·exact fun _=>rfl
    ·intro h;exact absurd (fun k=>by have:numB head q=0:=h;omega) hn
theorem pad_told {log:List UInt8}(h:(40≤log.length∧log.length≤52)∨64≤log.length)(hs:slot≤1)(size:Nat):toldA (headP log) (16+24*slot) slot size=toldA (headB log) (16+24*slot) slot size:=by
 rcases h with h|h
 ·have h2:=head_len (log:=log) (by omega);have:slot=0∨slot=1:=by omega
  rcases this with rfl|rfl
  ·unfold toldA;rw[pad_num (by omega),pad_num (by omega),pad_num (by omega),pad_cut (by omega) (by omega),if_neg (show ¬(headP log).size<16+24*0+24 by rw[headP_size];omega),if_neg (show ¬(headB log).size<16+24*0+24 by rw[h2];omega)]
  ·have e:toldA (headB log) (16+24*1) 1 size=cm0:=by unfold toldA;rw[if_pos (by rw[h2];omega)]
   rw[e];apply told_zero;rcases told_second (headP log) (16+24*1) 1 size with k | ⟨_,k⟩
   ·exact k
   ·rw[pad_num (by omega),num_far (by rw[h2];omega)] at k;omega
 ·rw[headP_long h]
structure CurP (log:List UInt8) (c:Cm):Prop where
 len:(40≤log.length∧log.length≤52)∨64≤log.length
 mark:isMark (headP log)=true
 slot:c.slot≤1
 number:1≤c.number∧c.number≤3
 told:∀size,c.frames=0∨64+1028*c.frames≤size→toldA (headP log) (16+24*c.slot) c.slot size=c
 fits:c.frames=0∨64+1028*c.frames≤log.length
 other:∀size,(toldA (headP log) (16+24*(1-c.slot)) (1-c.slot) size).number=0∨nxN (toldA (headP log) (16+24*(1-c.slot)) (1-c.slot) size).number=c.number
theorem CurP.last {log:List UInt8}(h:CurP log c):lastC log=c:=by
 obtain⟨h0,h1,h2,h3,h4,h5,h6⟩:=h;have k4:=h4 log.length h5;have k6:=h6 log.length;rw[pad_mark h0] at h1;rw[pad_told h0 h2] at k4;rw[pad_told h0 (by omega)] at k6;unfold lastC;rw[if_pos h1];obtain⟨s,n,f,p⟩:=c
 dsimp only at *
 have hs:s=0∨s=1:=by omega
 unfold pickC;rcases hs with rfl | rfl
 ·rw[show(16:Nat)=16+24*0 from rfl,k4]
  dsimp only at *
  rw[if_neg];intro hh;rcases hh with hh | hh
  ·omega
  ·change _=nxN n at hh
   have e:(toldA (headB log) (16+24*(1-0)) (1-0) log.length).number=nxN n:=hh;unfold nxN at e k6;omega
 ·have e:toldA (headB log) 40 1 log.length=⟨1,n,f,p⟩:=k4;rw[e];refine if_pos ?_;rcases k6 with k | k
  ·exact .inl k
  ·exact .inr k.symm
theorem curP_of {log:List UInt8}(hl:(40≤log.length∧log.length≤52)∨64≤log.length)(hm:isMark (headP log)=true)(hs:c.slot≤1)(hn:1≤c.number∧c.number≤3)(hf:c.frames<4294967296)(hp:c.pages<4294967296)(hx:(headP log).extract (16+24*c.slot) (16+24*c.slot+24)=txtB c.number c.frames c.pages)(hz:c.frames=0∨64+1028*c.frames≤log.length)(ho:numB (headP log) (16+24*(1-c.slot)+12)=0∨nxN (numB (headP log) (16+24*(1-c.slot)+12))=c.number):CurP log c:=by
 refine⟨hl,hm,hs,hn,fun size h=>told_of (by rw[headP_size];omega) hx hn hf hp h,hz,fun size=>?_⟩;rcases told_second (headP log) (16+24*(1-c.slot)) (1-c.slot) size with h | ⟨h,h'⟩
 ·exact .inl h
 ·rcases ho with ho|ho
  ·omega
  ·rw[h];exact .inr ho
theorem onL_get (q:Nat)(t:ByteArray)(l:List UInt8)(i:Nat):bL (onL q t false l) i=if q≤i∧i<q+t.size then bL (ll t) (i-q) else bL l i:=by
 have hF:((fil l (q+t.size)).take q).length=q:=by rw[List.length_take,fil_len];omega
 have hT:(ll t).length=t.size:=rfl;have hg:=bL_fil l (q+t.size);unfold onL;rw[if_neg (by decide),List.append_assoc];by_cases h1:i<q
 ·rw[if_neg (by omega),←hg];unfold bL;rw[List.getElem?_append_left (by omega),List.getElem?_take_of_lt h1]
 ·by_cases h2:i<q+t.size
  ·rw[if_pos (by omega)];unfold bL;rw[List.getElem?_append_right (by omega),hF,List.getElem?_append_left (by omega)]
  ·rw[if_neg (by omega),←hg];unfold bL;rw[List.getElem?_append_right (by omega),hF,List.getElem?_append_right (by omega),hT,List.getElem?_drop]
   congr 2
   omega
theorem wr_in {log:List UInt8}(hq:q+t.size≤64):(headP (onL q t false log)).extract q (q+t.size)=t:=by
 have hs:=headP_size (onL q t false log);have he:((headP (onL q t false log)).extract q (q+t.size)).size=t.size:=by rw[ByteArray.size_extract];omega
 refine ext_byt he fun i hi=>?_
 rw[he] at hi;rw[byt_cut (by omega) (by omega),headP_byt _ (by omega),onL_get,if_pos (by omega),bytS_ll,show q+i-q=i by omega]
theorem wr_out {log:List UInt8}(hi:i<64)(h:i<q∨q+t.size≤i):bytS (headP (onL q t false log)) i=bytS (headP log) i:=by
 rw[headP_byt _ hi,headP_byt _ hi,onL_get,if_neg (by omega)]
theorem wr_cut {log:List UInt8}{b:Nat}(hb:b≤64)(h:b≤q∨q+t.size≤a):(headP (onL q t false log)).extract a b=(headP log).extract a b:=by
 have h1:=headP_size (onL q t false log);have h2:=headP_size log;refine ext_byt (by rw[ByteArray.size_extract,ByteArray.size_extract,h1,h2]) fun i hi=>?_
 rw[ByteArray.size_extract] at hi;rw[byt_cut (by omega) (by omega),byt_cut (by omega) (by omega)];exact wr_out (by omega) (by omega)
theorem wr_num {log:List UInt8}(hp:p+4≤64)(h:p+4≤q∨q+t.size≤p):numB (headP (onL q t false log)) p=numB (headP log) p:=
 num_same fun i hi=>wr_out (by omega) (by omega)
theorem headP_ext (h:∀i,i<64→bL l' i=bL l i):headP l'=headP l:=by
 refine ext_byt (by rw[headP_size,headP_size]) fun i hi=>?_
 rw[headP_size] at hi;rw[headP_byt _ hi,headP_byt _ hi,h i hi]
structure TP (log:List UInt8) (c:Cm):Prop where
 len:(40≤log.length∧log.length≤52)∨64≤log.length
 mark:isMark (headP log)=true
 slot:c.slot≤1
 number:1≤c.number∧c.number≤3
 frames:c.frames<4294967296
 pages:c.pages<4294967296
 text:(headP log).extract (16+24*c.slot) (16+24*c.slot+24)=txtB c.number c.frames c.pages
 fits:c.frames=0∨64+1028*c.frames≤log.length
 other:numB (headP log) (16+24*(1-c.slot)+12)=0∨nxN (numB (headP log) (16+24*(1-c.slot)+12))=c.number
theorem TP.cur {log:List UInt8}(h:TP log c):CurP log c:=curP_of h.len h.mark h.slot h.number h.frames h.pages h.text h.fits h.other
theorem TP.last {log:List UInt8}(h:TP log c):lastC log=c:=h.cur.last
theorem TP.ok {log:List UInt8}(h:TP log c):okCm c:=by rw[←h.last];exact last_ok log
theorem TP.keep {log:List UInt8}(h:TP log c)(hb:∀i,i<64→bL log' i=bL log i)(hl:(40≤log'.length∧log'.length≤52)∨64≤log'.length)(hf:c.frames=0∨64+1028*c.frames≤log'.length):TP log' c:=by
 have e:=headP_ext hb;exact⟨hl,by rw[e];exact h.mark,h.slot,h.number,h.frames,h.pages,by rw[e];exact h.text,hf,by rw[e];exact h.other⟩
theorem mark_wr {log:List UInt8}(hq:16≤q):isMark (headP (onL q t false log))=isMark (headP log):=by
 unfold isMark;rw[headP_size,headP_size,wr_cut (by omega) (.inl hq)]
theorem TP.second {log:List UInt8}(h:TP log c):numB (headP log) (16+24*c.slot+12)=c.number:=by
 have hn:=h.number;refine Eq.trans ?_ (txt_second (n:=c.number) (by omega) h.frames h.pages);have hs:=headP_size log;have:=h.slot;refine num_same fun i hi=>?_
 rw[←h.text,byt_cut (by omega) (by omega),Nat.add_assoc]
theorem TP.whole {log:List UInt8}(h:TP log c)(fr pg:Nat)(h1:fr<4294967296)(h2:pg<4294967296)(hf:fr=0∨64+1028*fr≤log.length):TP (onL (16+24*(1-c.slot)) (txtB (nxN c.number) fr pg) false log) (flC c fr pg):=by
 have hs:=h.slot;have hn:=h.number;have ht:=txtB_size (nxN c.number) fr pg;have hlen:(onL (16+24*(1-c.slot)) (txtB (nxN c.number) fr pg) false log).length=max log.length (16+24*(1-c.slot)+24):=by rw[onL_len,ht];rfl
 have hL:=h.len;have e1:16+24*(1-c.slot)+24=16+24*(1-c.slot)+(txtB (nxN c.number) fr pg).size:=by rw[ht]
 refine⟨by rw[hlen];omega,by rw[mark_wr (by omega)];exact h.mark,by show 1-c.slot≤1;omega,by show 1≤c.number%3+1∧c.number%3+1≤3;omega,h1,h2,?_,?_,.inr ?_⟩
 ·show(headP _).extract (16+24*(1-c.slot)) (16+24*(1-c.slot)+24)=_;rw[e1];exact wr_in (by omega)
 ·show fr=0∨64+1028*fr≤_;rw[hlen];omega
 ·show nxN (numB _ (16+24*(1-(1-c.slot))+12))=nxN c.number;rw[show 1-(1-c.slot)=c.slot by omega,wr_num (by omega) (by rw[ht];omega),h.second]
theorem TP.half {log:List UInt8}(h:TP log c)(t:ByteArray)(ht:t.size=12):TP (onL (16+24*(1-c.slot)) t false log) c:=by
 have hs:=h.slot;have hlen:(onL (16+24*(1-c.slot)) t false log).length=max log.length (16+24*(1-c.slot)+12):=by rw[onL_len,ht];rfl
 have hL:=h.len;have hf:=h.fits;refine⟨by rw[hlen];omega,by rw[mark_wr (by omega)];exact h.mark,hs,h.number,h.frames,h.pages,?_,by rw[hlen];omega,?_⟩
 ·rw[wr_cut (by omega) (by rw[ht];omega)];exact h.text
 ·rw[wr_num (by omega) (by rw[ht];omega)];exact h.other
theorem cut_byt (hi:i<n):bytS ⟨((l.drop p).take n).toArray⟩ i=(bL l (p+i)).toNat:=by
 rw[←bytS_ll];show(bL ((l.drop p).take n).toArray.toList i).toNat=_;unfold bL;rw[List.getElem?_take_of_lt hi,List.getElem?_drop]
theorem frN_same {log:List UInt8}(h:∀j,j<4→bL log' (64+1028*i+j)=bL log (64+1028*i+j)):frN log' i=frN log i:=by
 refine num_same fun j hj=>?_
 unfold frT;rw[Nat.zero_add,cut_byt hj,cut_byt hj,h j hj]
theorem fndM_same {log log':List UInt8}{F:Int→Option Int}:∀{k:Nat},(∀j,64≤j→j<64+1028*k→bL log' j=bL log j)→fndM log' F k=fndM log F k
 | 0,_=>rfl
 | k + 1, h => by
  show updM (fndM log' F k) (frN log' k) k=updM (fndM log F k) (frN log k) k;rw[fndM_same (k:=k) (fun j h1 h2=>h j h1 (by omega)),frN_same (fun j hj=>h _ (by omega) (by omega))]
theorem fndM_lt {log:List UInt8}{x v:Int}:∀{k:Nat},fndM log (fun _=>none) k x=some v→0≤v∧v<k
 | 0,h=>by cases h
 | k + 1, h => by
  have h:updM (fndM log (fun _=>none) k) (frN log k) k x=some v:=h;unfold updM at h;split at h
  ·injection h with h;omega
  ·have:=fndM_lt h;omega
def noM:Int→Option Int:=fun _=>none
structure VwA (P log:List UInt8) (k:Nat) (F:Int→Option ByteArray) (n:Nat):Prop where
 inlog:∀v,fndM log noM k n=some v→∃t,F n=some t∧t.size=1024∧∀i,i<1024→bytS t i=(bL log (64+1028*v.toNat+4+i)).toNat
 place:fndM log noM k n=none→(∀t,F n=some t→t.size=1024∧1024*(n+1)≤P.length∧∀i,i<1024→bytS t i=(bL P (1024*n+i)).toNat)∧(F n=none→∀i,i<1024→bL P (1024*n+i)=0)
def VwN (P log:List UInt8)(k:Nat)(F:Int→Option ByteArray):Prop:=∀n,n<60000→VwA P log k F n
def PgK (P P':List UInt8)(n:Nat):Prop:=(∀i,i<1024→bL P' (1024*n+i)=bL P (1024*n+i))∧(1024*(n+1)≤P.length→1024*(n+1)≤P'.length)
theorem PgK.refl (P:List UInt8)(n:Nat):PgK P P n:=⟨fun _ _=>rfl,id⟩
theorem PgK.trans {Q R:List UInt8}(h:PgK P Q n)(k:PgK Q R n):PgK P R n:=⟨fun i hi=>(k.1 i hi).trans (h.1 i hi),fun hl=>k.2 (h.2 hl)⟩
theorem VwN.keep {log:List UInt8}(h:VwN P log k F)(hl:∀j,64≤j→j<64+1028*k→bL log' j=bL log j)(hp:∀n:Nat,n<60000→fndM log noM k n=none→PgK P P' n):VwN P' log' k F:=fun n hn=>by
 have e:=fndM_same (F:=noM) hl;refine⟨fun v hv=>?_,fun hv=>?_⟩
 ·rw[e] at hv;obtain⟨t,h1,h2,h3⟩:=(h n hn).inlog v hv;have hv':=fndM_lt hv;exact⟨t,h1,h2,fun i hi=>by rw[h3 i hi,hl _ (by omega) (by omega)]⟩
 ·rw[e] at hv;obtain⟨h1,h2⟩:=(h n hn).place hv;obtain⟨p1,p2⟩:=hp n hn hv;exact⟨fun t ht=>⟨(h1 t ht).1,p2 (h1 t ht).2.1,fun i hi=>by rw[(h1 t ht).2.2 i hi,p1 i hi]⟩,fun hF i hi=>by rw[p1 i hi];exact h2 hF i hi⟩
theorem frame_byt {log:List UInt8}(ht:t.size=1024)(hi:i<1028):(bL (onL (64+1028*k) (fourB n++t) false log) (64+1028*k+i)).toNat=bytS (fourB n++t) i:=by
 have hs:(fourB n++t).size=1028:=by rw[ByteArray.size_append,fourB_size,ht]
 rw[onL_get,if_pos (by omega),bytS_ll]
 congr 1
 omega
theorem frN_new {log:List UInt8}(ht:t.size=1024)(hn:n<4294967296):frN (onL (64+1028*k) (fourB n++t) false log) k=n:=by
 refine Eq.trans (num_same fun j hj=>?_) (four_num hn);unfold frT;rw[Nat.zero_add,cut_byt hj,frame_byt ht (by omega),byt_left (by rw[fourB_size];exact hj)]
theorem fndM_new {log:List UInt8}(ht:t.size=1024)(hn:n<4294967296):fndM (onL (64+1028*k) (fourB n++t) false log) noM (k+1)=updM (fndM log noM k) n k:=by
 show updM (fndM _ noM k) (frN _ k) k=_;rw[frN_new ht hn,fndM_same (log:=log)];intro j h1 h2;rw[onL_get,if_neg (by omega)]
theorem VwN.append {log:List UInt8}(h:VwN P log k F)(ht:t.size=1024)(hn:n<60000):VwN P (onL (64+1028*k) (fourB n++t) false log) (k+1) (wth F n t):=fun m hm=>by
 have e:=fndM_new (log:=log) (k:=k) ht (n:=n) (by omega);by_cases hmn:m=n
 ·subst hmn;have e1:fndM (onL (64+1028*k) (fourB m++t) false log) noM (k+1) m=some (k:Int):=by rw[e];unfold updM;rw[if_pos rfl]
  have w1:wth F m t m=some t:=by unfold wth updS;rw[if_pos rfl]
  refine⟨fun v hv=>?_,fun hv=>by rw[e1] at hv;cases hv⟩;rw[e1] at hv;injection hv with hv;subst hv;refine⟨t,w1,ht,fun i hi=>?_⟩;rw[Int.toNat_natCast,Nat.add_assoc,frame_byt ht (by omega)];rw[show 4+i=(fourB m).size+i by rw[fourB_size],byt_right]
 ·have hz:¬(m:Int)=(n:Int):=by omega
  have e1:fndM (onL (64+1028*k) (fourB n++t) false log) noM (k+1) m=fndM log noM k m:=by rw[e];unfold updM;rw[if_neg hz]
  have w1:wth F n t m=F m:=by unfold wth updS;rw[if_neg hz]
  refine⟨fun v hv=>?_,fun hv=>?_⟩
  ·rw[e1] at hv;obtain⟨t',h1,h2,h3⟩:=(h m hm).inlog v hv;have hv':=fndM_lt hv;refine⟨t',by rw[w1];exact h1,h2,fun i hi=>?_⟩;rw[h3 i hi,onL_get,if_neg (by omega)]
  ·rw[e1] at hv;rw[w1];exact(h m hm).place hv
theorem rd_ok {f:Nat}(hf:f<2)(hl:p+n≤(lb (2*f)).length)(hz:(lb (2*f)).length≤67108864):rdE f p n lb false=0∧(rdS f p n lb false).size=n∧∀i,i<n→bytS (rdS f p n lb false) i=(bL (lb (2*f)) (p+i)).toNat:=by
 have ha:askE f p n false=0:=by
  unfold askE fitsD;rw[if_pos (by simp;omega)];rfl
 have hE:rdE f p n lb false=0:=by
  unfold rdE;rw[if_pos ha,if_neg (by simp;omega)]
 have e:rdS f p n lb false=⟨(((lb (2*f)).drop p).take n).toArray⟩:=by
  unfold rdS;rw[if_pos hE];rfl
 refine⟨hE,?_,fun i hi=>?_⟩
 ·rw[e];show(((lb (2*f)).drop p).take n).toArray.size=n;simp;omega
 ·rw[e,cut_byt hi]
def VwK (log:List UInt8)(k:Nat):Prop:=∀x v,fndM log noM k x=some v→0≤x∧x<60000
structure Vw (P log:List UInt8) (k:Nat) (F:Int→Option ByteArray):Prop where
 pg:VwN P log k F
 ks:VwK log k
theorem Vw.keep {log:List UInt8}(h:Vw P log k F)(hl:∀j,64≤j→j<64+1028*k→bL log' j=bL log j)(hp:∀n:Nat,n<60000→fndM log noM k n=none→PgK P P' n):Vw P' log' k F:=
 ⟨h.pg.keep hl hp,fun x v hv=>by rw[fndM_same (F:=noM) hl] at hv;exact h.ks x v hv⟩
theorem Vw.append {log:List UInt8}(h:Vw P log k F)(ht:t.size=1024)(hn:n<60000):Vw P (onL (64+1028*k) (fourB n++t) false log) (k+1) (wth F n t):=
 ⟨h.pg.append ht hn,fun x v hv=>by
  rw[fndM_new ht (by omega)] at hv;unfold updM at hv;split at hv
  ·omega
  ·exact h.ks x v hv⟩
theorem cut_get (hi:i<p+t.size):bL (onL p t true l) i=bL l i:=by
 unfold onL;rw[if_pos rfl,←bL_fil l (p+t.size)];unfold bL;rw[List.getElem?_take_of_lt hi]
structure EffL (a:Nat) (log log':List UInt8):Prop where
 same:∀i,i<a→bL log' i=bL log i
 len:log.length≤log'.length
 big:log'=log∨a≤log'.length
theorem EffL.refl (a:Nat)(log:List UInt8):EffL a log log:=⟨fun _ _=>rfl,Nat.le_refl _,.inl rfl⟩
theorem EffL.trans {l'':List UInt8}(h:EffL a l l')(k:EffL a l' l''):EffL a l l'':=by
 refine⟨fun i hi=>(k.same i hi).trans (h.same i hi),Nat.le_trans h.len k.len,?_⟩;rcases k.big with e | e
 ·rcases h.big with e'|e'
  ·exact .inl (e.trans e')
  ·exact .inr (by rw[e];exact e')
 ·exact .inr e
theorem eff_write (t:ByteArray)(l:List UInt8)(hp:a≤p):EffL a l (onL p t false l):=
 ⟨fun i hi=>by rw[onL_get,if_neg (by omega)],onL_ge,.inr (by rw[onL_len];simp;omega)⟩
theorem TP.eff {log:List UInt8}(h:TP log c)(he:EffL a log log')(ha:64≤a):TP log' c:=by
 refine h.keep (fun i hi=>he.same i (by omega)) ?_ ?_
 ·rcases he.big with e|e
  ·rw[e];exact h.len
  ·exact .inr (by omega)
 ·have:=he.len;rcases h.fits with e | e
  ·exact .inl e
  ·exact .inr (by omega)
def WtC (a:Nat)(K:Nat→Prop)(x:Chg):Prop:=
 (x.f=1∧x.c=false∧a≤x.p)∨(x.f=0∧x.c=false∧(∃n,K n∧x.p=1024*n)∧x.t.size≤1024)∨(x.f=0∧x.c=true∧61440000≤x.p∧∃n,K n)
def Wt (a:Nat)(K:Nat→Prop)(ws:List Chg):Prop:=∀x∈ws,WtC a K x
theorem Wt.nil (a:Nat)(K:Nat→Prop):Wt a K []:=fun _ h=>by cases h
theorem Wt.snoc (h:Wt a K ws)(hx:WtC a K x):Wt a K (ws++[x]):=fun y hy=>by
 rcases List.mem_append.1 hy with hy|hy
 ·exact h y hy
 ·obtain rfl:=List.mem_singleton.1 hy;exact hx
def noK:Nat→Prop:=fun _=>False
theorem Wt.more (h:Wt a noK ws):Wt a K ws:=fun x hx=>by
 rcases h x hx with h|⟨_,_,⟨n,hn,_⟩,_⟩|h
 ·exact .inl h
 ·cases hn
 ·obtain⟨_,_,_,n,hn⟩:=h;cases hn
theorem pg_write (ht:t.size≤1024)(h:¬n=m):PgK P (onL (1024*m) t false P) n:=
 ⟨fun i hi=>by rw[onL_get,if_neg (by omega)],fun hl=>Nat.le_trans hl onL_ge⟩
theorem pg_cut (hp:61440000≤p)(hn:n<60000):PgK P (onL p t true P) n:=
 ⟨fun i hi=>cut_get (by omega),fun _=>by rw[onL_len,if_pos rfl];omega⟩
theorem WtC.page (h:WtC a K x)(hf:x.f=0)(ht:t.size≤x.t.size)(P:List UInt8)(hn:n<60000)(hK:¬K n):PgK P (onL x.p t x.c P) n:=by
 rcases h with⟨h1,_⟩|⟨_,h2,⟨m,hm,hp⟩,h4⟩|⟨_,h2,h3,_⟩
 ·omega
 ·rw[h2,hp];exact pg_write (by omega) (fun e=>hK (e ▸ hm))
 ·rw[h2];exact pg_cut h3 hn
theorem WtC.log (h:WtC a K x)(hf:x.f=1)(t:ByteArray)(l:List UInt8):EffL a l (onL x.p t x.c l):=by
 rcases h with⟨_,h2,h3⟩|⟨h1,_⟩|⟨h1,_⟩
 ·rw[h2];exact eff_write t l h3
 ·omega
 ·omega
theorem WtC.file (h:WtC a K x):x.f=0∨x.f=1:=by
 rcases h with h|h|h
 ·exact .inr h.1
 ·exact .inl h.1
 ·exact .inl h.1
structure CrE (a:Nat) (K:Nat→Prop) (lb l:Nat→List UInt8):Prop where
 log:EffL a (lb 3) (l 3)
 page:∀n,n<60000→¬K n→PgK (lb 1) (l 1) n
theorem CrE.refl (a:Nat)(K:Nat→Prop)(lb:Nat→List UInt8):CrE a K lb lb:=⟨EffL.refl _ _,fun n _ _=>PgK.refl _ n⟩
theorem CrE.trans {l l' l'':Nat→List UInt8}(h:CrE a K l l')(k:CrE a K l' l''):CrE a K l l'':=⟨h.log.trans k.log,fun n hn hK=>(h.page n hn hK).trans (k.page n hn hK)⟩
theorem crS_eff (h:WtC a K x)(fa:Int)(l:Nat→List UInt8):CrE a K l (crS fa x l):=by
 have step:∀t:ByteArray,t.size≤x.t.size→CrE a K l (updF l (2*x.f+1) (onL x.p t x.c (l (2*x.f+1)))):=fun t ht=>by
  rcases h.file with e|e
  ·refine⟨?_,fun n hn hK=>?_⟩
   ·rw[e,updF_ne _ _ (by decide)];exact EffL.refl _ _
   ·have:=h.page e ht (l 1) hn hK;rw[e,updF_at];exact this
  ·refine⟨?_,fun n hn hK=>?_⟩
   ·have:=h.log e t (l 3);rw[e,updF_at];exact this
   ·rw[e,updF_ne _ _ (by decide)];exact PgK.refl _ n
 unfold crS;split
 ·exact step _ (Nat.le_refl _)
 ·split
  ·exact step _ (by rw[half_size];omega)
  ·exact CrE.refl _ _ _
theorem crL_eff (h:Wt a K ws)(fa:Nat→Int)(lb:Nat→List UInt8):∀i,i≤ws.length→CrE a K lb (crL fa ws lb i)
 | 0,_=>CrE.refl _ _ _
 | i + 1, hi => by
  rw[crL_succ (by omega)];exact(crL_eff h fa lb i (by omega)).trans (crS_eff (h _ (List.getElem_mem _)) _ _)
theorem crL_pre:∀i,i≤ws.length→crL fa (ws++[x]) lb i=crL fa ws lb i
 | 0,_=>rfl
 | i + 1, hi => by
  rw[crL_succ (by rw[List.length_append];omega),crL_succ (by omega),crL_pre i (by omega),List.getElem_append_left (by omega)]
theorem crL_snoc (fa:Nat→Int)(ws:List Chg)(x:Chg)(lb:Nat→List UInt8):crL fa (ws++[x]) lb (ws++[x]).length=crS (fa ws.length) x (crL fa ws lb ws.length):=by
 rw[show(ws++[x]).length=ws.length+1 by simp,crL_succ (by simp),crL_pre _ (Nat.le_refl _)];simp
theorem fold_eff:∀{ws:List Chg},Wt a K ws→∀l,EffL a l (foldF 1 ws l)
 | [],_,l=>EffL.refl _ _
 | x :: r, h, l => by
  have hr:Wt a K r:=fun y hy=>h y (List.mem_cons_of_mem _ hy)
  show EffL a l (foldF 1 r (if x.f=1 then onL x.p x.t x.c l else l));refine EffL.trans ?_ (fold_eff hr _);split
  ·rename_i e
   exact(h x (List.mem_cons_self ..)).log e _ _
  ·exact EffL.refl _ _
structure GoodS (S:DS) (F:Int→Option ByteArray) (c:Cm):Prop where
 tp:TP (S.lb 2) c
 vw:Vw (S.lb 0) (S.lb 2) c.frames F
 f0:S.lb 1=S.lb 0
 f1:S.lb 3=S.lb 2
 ws:S.ws=[]
 down:S.down=false
def CrOK (S:DS)(F:Int→Option ByteArray)(p q:Nat):Prop:=∀fa,∃c,(c.pages=p∧c.frames≤q)∧GoodS (crD fa S) F c
def CrOr (S:DS)(F:Int→Option ByteArray)(p:Nat)(F':Int→Option ByteArray)(p' q:Nat):Prop:=∀fa,(∃c,(c.pages=p∧c.frames≤q)∧GoodS (crD fa S) F c)∨∃c,(c.pages=p'∧c.frames≤q)∧GoodS (crD fa S) F' c
theorem CrOK.or (h:CrOK S F p q)(F':Int→Option ByteArray)(p':Nat):CrOr S F p F' p' q:=fun fa=>.inl (h fa)
theorem CrOK.same {T:DS}(h:CrOK S F p q)(h1:T.lb=S.lb)(h2:T.ws=S.ws):CrOK T F p q:=fun fa=>by
 obtain⟨c,hp,g⟩:=h fa;have e:(crD fa T).lb=(crD fa S).lb:=by unfold crD;rw[h1,h2]
 exact⟨c,hp,by rw[e];exact g.tp,by rw[e];exact g.vw,by rw[e];exact g.f0,by rw[e];exact g.f1,rfl,rfl⟩
theorem good_of (h1:TP (crL fa S.ws S.lb S.ws.length 3) c)(h2:Vw (crL fa S.ws S.lb S.ws.length 1) (crL fa S.ws S.lb S.ws.length 3) c.frames F):GoodS (crD fa S) F c:=by
 obtain⟨c0,c1,c2,c3⟩:=cp_at (crL fa S.ws S.lb S.ws.length);have e0:(crD fa S).lb 0=crL fa S.ws S.lb S.ws.length 1:=c0;have e1:(crD fa S).lb 1=crL fa S.ws S.lb S.ws.length 1:=c1;have e2:(crD fa S).lb 2=crL fa S.ws S.lb S.ws.length 3:=c2;have e3:(crD fa S).lb 3=crL fa S.ws S.lb S.ws.length 3:=c3;exact⟨by rw[e2];exact h1,by rw[e0,e2];exact h2,by rw[e0,e1],by rw[e2,e3],rfl,rfl⟩
theorem crash_wt (ht:TP (S.lb 3) c)(hv:Vw (S.lb 1) (S.lb 3) c.frames F)(hw:Wt (64+1028*c.frames) (fun n=>¬fndM (S.lb 3) noM c.frames n=none) S.ws)(hq:c.frames≤q):CrOK S F c.pages q:=fun fa=>by
 have he:=crL_eff hw fa S.lb S.ws.length (Nat.le_refl _);refine⟨c,⟨rfl,hq⟩,good_of (ht.eff he.log (by omega)) (hv.keep (fun j _ h2=>he.log.same j h2) (fun n hn h=>he.page n hn (fun k=>k h)))⟩
theorem crash_slot (ht:TP (S.lb 3) c)(hS:S.ws=ws++[⟨1,16+24*(1-c.slot),txtB (nxN c.number) fr pg,false⟩])(hw:Wt a noK ws)(h1:64+1028*c.frames≤a)(h2:64+1028*fr≤a)(hf1:fr<4294967296)(hp1:pg<4294967296)(hf:fr=0∨64+1028*fr≤(S.lb 3).length)(hv:Vw (S.lb 1) (S.lb 3) c.frames F)(hv':Vw (S.lb 1) (S.lb 3) fr F')(hq:c.frames≤q)(hq':fr≤q):CrOr S F c.pages F' pg q:=fun fa=>by
 have hs:=ht.slot;have he:=crL_eff hw fa S.lb ws.length (Nat.le_refl _);have hx:crL fa S.ws S.lb S.ws.length=crS (fa ws.length) ⟨1,16+24*(1-c.slot),txtB (nxN c.number) fr pg,false⟩ (crL fa ws S.lb ws.length):=by rw[hS];exact crL_snoc fa ws _ S.lb
 obtain⟨l,hl⟩:∃l,l=crL fa ws S.lb ws.length:=⟨_,rfl⟩;rw[←hl] at he hx;have ht':=ht.eff he.log (by omega);have hP:∀n,n<60000→PgK (S.lb 1) (l 1) n:=fun n hn=>he.page n hn (fun k=>k)
 have after:∀t:ByteArray,t.size≤24→∀j,64≤j→j<a→bL (onL (16+24*(1-c.slot)) t false (l 3)) j=bL (S.lb 3) j:=fun t hts j j1 j2=>by
  rw[onL_get,if_neg (by omega)];exact he.log.same j j2
 have hts:=txtB_size (nxN c.number) fr pg;unfold crS at hx;by_cases e1:fa ws.length=1
 ·rw[if_pos e1] at hx
  replace hx:crL fa S.ws S.lb S.ws.length=updF l 3 (onL (16+24*(1-c.slot)) (txtB (nxN c.number) fr pg) false (l 3)):=hx
  refine .inr ⟨flC c fr pg,⟨rfl,hq'⟩,good_of ?_ ?_⟩
  ·rw[hx,updF_at];exact ht'.whole fr pg hf1 hp1 (hf.imp id fun h=>Nat.le_trans h he.log.len)
  ·rw[hx,updF_at,updF_ne _ _ (by decide)];exact hv'.keep (fun j j1 j2=>after _ (by rw[hts];omega) j j1 (by omega)) (fun n hn _=>hP n hn)
 ·rw[if_neg e1] at hx;by_cases e2:fa ws.length=2
  ·rw[if_pos e2] at hx
   replace hx:crL fa S.ws S.lb S.ws.length=updF l 3 (onL (16+24*(1-c.slot)) (half (txtB (nxN c.number) fr pg)) false (l 3)):=hx
   refine .inl ⟨c,⟨rfl,hq⟩,good_of ?_ ?_⟩
   ·rw[hx,updF_at];exact ht'.half _ (by rw[half_size,hts])
   ·rw[hx,updF_at,updF_ne _ _ (by decide)];exact hv.keep (fun j j1 j2=>after _ (by rw[half_size,hts];omega) j j1 (by omega)) (fun n hn _=>hP n hn)
  ·rw[if_neg e2] at hx;refine .inl ⟨c,⟨rfl,hq⟩,good_of ?_ ?_⟩
   ·rw[hx];exact ht'
   ·rw[hx];exact hv.keep (fun j j1 j2=>he.log.same j (by omega)) (fun n hn _=>hP n hn)
theorem op_two (hd:S.down=false){p:Int}(f' p':Nat)(t:ByteArray)(c:Bool)(hf:f=f')(hp:p=p')(hf2:f'<2)(hs:p'+t.size≤67108864):opD S f p t c=(2,{ S with down:=true })∨∃left,opD S f p t c=(0,⟨updF S.lb (2*f') (onL p' t c (S.lb (2*f'))),S.ws++[⟨f',p',t,c⟩],left,S.count+1,false⟩):=by
 subst hf hp;have ha:askE f' p' t.size S.down=0:=by
  unfold askE fitsD;rw[hd,if_pos (by simp;omega)];rfl
 unfold opD;rw[if_pos ha];by_cases hl:S.left=0
 ·rw[if_pos hl];exact .inl rfl
 ·rw[if_neg hl];exact .inr ⟨decL S.left,by rw[hd];rfl⟩
theorem syn_two (hd:S.down=false)(f':Nat)(hf:f=f')(hf2:f'<2):synD S f=(2,{ S with down:=true })∨∃left,synD S f=(0,⟨updF S.lb (2*f'+1) (foldF f' S.ws (S.lb (2*f'+1))),othF f' S.ws,left,S.count+1,false⟩):=by
 subst hf;have ha:askE f' 0 0 S.down=0:=by
  unfold askE fitsD;rw[hd,if_pos (by simp;omega)];rfl
 unfold synD;rw[if_pos ha];by_cases hl:S.left=0
 ·rw[if_pos hl];exact .inl rfl
 ·rw[if_neg hl];exact .inr ⟨decL S.left,by rw[hd];rfl⟩
theorem oth_none (h:Wt a noK ws):othF 1 ws=[]:=by
 unfold othF;rw[List.filter_eq_nil_iff];intro x hx;rcases h x hx with h | ⟨_,_,⟨n,hn,_⟩,_⟩ | ⟨_,_,_,n,hn⟩
 ·rw[h.1];decide
 ·cases hn
 ·cases hn
structure Pre (c:Cm) (S:DS) (a:Nat):Prop where
 tp:TP (S.lb 3) c
 seen:S.lb 2=foldF 1 S.ws (S.lb 3)
 wait:Wt a noK S.ws
theorem tl_out (h:Pre L.last S a)(hup:S.down=false)(h1:64+1028*L.last.frames≤a)(h2:64+1028*fr≤a)(hf1:fr<4294967296)(hp1:pg<4294967296)(hf:fr=0∨64+1028*fr≤(S.lb 3).length)(hv:Vw (S.lb 1) (S.lb 3) L.last.frames F)(hv':Vw (S.lb 1) (S.lb 3) fr F')(hq:L.last.frames≤q)(hq':fr≤q):(∃S',tlL L S fr pg=(2,L,S')∧S'.down=true∧CrOr S' F L.last.pages F' pg q)∨(∃S',tlL L S fr pg=(0,{ L with last:=flC L.last fr pg,fr:=fr },S')∧S'.lb 0=S.lb 0∧S'.lb 1=S.lb 1∧S'.lb 3=S'.lb 2∧S'.ws=[]∧S'.down=false∧TP (S'.lb 3) (flC L.last fr pg)∧(∀j,64≤j→j<a→bL (S'.lb 3) j=bL (S.lb 3) j)∧(S.lb 3).length≤(S'.lb 3).length):=by
 have hs:=h.tp.slot;have hts:=txtB_size (nxN L.last.number) fr pg;have hE:EffL a (S.lb 3) (S.lb 2):=by rw[h.seen];exact fold_eff h.wait _
 unfold tlL;rcases op_two hup 1 (16+24*(1-L.last.slot)) (txtB (nxN L.last.number) fr pg) false (f:=1) (p:=16+24*((1-L.last.slot:Nat):Int)) rfl (by omega) (by decide) (by omega) with e | ⟨left,e⟩
 ·rw[e];refine .inl ⟨_,rfl,rfl,CrOK.or ?_ F' pg⟩;refine CrOK.same (S:=S) ?_ rfl rfl;refine crash_wt h.tp hv ?_ hq;intro x hx;exact(Wt.more h.wait x hx).elim (fun k=>.inl ⟨k.1,k.2.1,by omega⟩) .inr
 ·rw[e,if_pos rfl];obtain⟨T,hT⟩:∃T:DS,T=⟨updF S.lb (2*1) (onL (16+24*(1-L.last.slot)) (txtB (nxN L.last.number) fr pg) false (S.lb (2*1))),S.ws++[⟨1,16+24*(1-L.last.slot),txtB (nxN L.last.number) fr pg,false⟩],left,S.count+1,false⟩:=⟨_,rfl⟩;rw[←hT];have t0:T.lb 0=S.lb 0:=by rw[hT];rfl
  have t1:T.lb 1=S.lb 1:=by rw[hT];rfl
  have t2:T.lb 2=onL (16+24*(1-L.last.slot)) (txtB (nxN L.last.number) fr pg) false (S.lb 2):=by rw[hT];rfl
  have t3:T.lb 3=S.lb 3:=by rw[hT];rfl
  have tw:T.ws=S.ws++[⟨1,16+24*(1-L.last.slot),txtB (nxN L.last.number) fr pg,false⟩]:=by rw[hT]
  have td:T.down=false:=by rw[hT]
  clear hT e;show(∃S',(if(synD T 1).1=0 then _ else _)=_∧_)∨(∃S',(if(synD T 1).1=0 then _ else _)=_∧_);rcases syn_two td 1 (f:=1) rfl (by decide) with e | ⟨left',e⟩
  ·rw[e];refine .inl ⟨_,rfl,rfl,?_⟩;have:=crash_slot (S:=T) (c:=L.last) (F:=F) (F':=F') (by rw[t3];exact h.tp) tw h.wait h1 h2 hf1 hp1 (by rw[t3];exact hf) (by rw[t1,t3];exact hv) (by rw[t1,t3];exact hv') hq hq';exact this
  ·rw[e,if_pos rfl];refine .inr ⟨_,rfl,t0,t1,?_,?_,rfl,?_,?_,?_⟩
   all_goals dsimp only
   all_goals try rw[show updF T.lb (2*1+1) (foldF 1 T.ws (T.lb (2*1+1))) 3=T.lb 2 by rw[show(2*1+1)=3 from rfl,updF_at,tw,t3,foldF_snoc,if_pos rfl,t2,h.seen]]
   ·rfl
   ·rw[tw,othF_snoc,if_pos rfl,oth_none h.wait]
   ·rw[t2];exact(h.tp.eff hE (by omega)).whole fr pg hf1 hp1 (hf.imp id fun k=>Nat.le_trans k hE.len)
   ·intro j j1 j2;rw[t2,onL_get,if_neg (by omega)];exact hE.same j j2
   ·rw[t2];exact Nat.le_trans hE.len onL_ge
theorem opD_two (S:DS){p:Int}(f' p':Nat)(t:ByteArray)(c:Bool)(hf:f=f')(hp:p=p')(hf2:f'<2)(hs:p'+t.size≤67108864):opD S f p t c=(2,{ S with down:=true })∨(S.down=false∧∃left,opD S f p t c=(0,⟨updF S.lb (2*f') (onL p' t c (S.lb (2*f'))),S.ws++[⟨f',p',t,c⟩],left,S.count+1,false⟩)):=by
 cases hd:S.down with
 | false=>exact(op_two hd f' p' t c hf hp hf2 hs).imp id (fun h=>⟨rfl,h⟩)
 | true =>
  left;subst hf hp;have ha:askE f' p' t.size S.down=2:=by
   unfold askE fitsD;rw[hd,if_pos (by simp;omega)];rfl
  unfold opD;rw[ha,if_neg (by decide)];have:({ S with down:=true }:DS)=S:=by cases S;simp at hd;rw[hd]
  rw[this]
structure Inv (L:LS) (S:DS) (kept now:Int→Option ByteArray) (m:Nat):Prop where
 fr:L.last.frames≤L.fr∧L.fr≤m
 len:L.fr=0∨64+1028*L.fr≤(S.lb 2).length
 pre:Pre L.last S (64+1028*L.last.frames)
 f0:S.lb 0=S.lb 1
 pl:L.pl=fndM (S.lb 3) noM L.last.frames
 al:mrg L.pl L.fh=fndM (S.lb 2) noM L.fr
 fh:∀x v,L.fh x=some v→(L.last.frames:Int)≤v∧v<L.fr
 kv:Vw (S.lb 1) (S.lb 3) L.last.frames kept
 nv:Vw (S.lb 1) (S.lb 2) L.fr now
theorem Inv.eff (h:Inv L S kept now m):EffL (64+1028*L.last.frames) (S.lb 3) (S.lb 2):=by rw[h.pre.seen];exact fold_eff h.pre.wait _
theorem Inv.crash (h:Inv L S kept now m):CrOK S kept L.last.pages m:=crash_wt h.pre.tp h.kv (Wt.more h.pre.wait) (Nat.le_trans h.fr.1 h.fr.2)
theorem Inv.mono (h:Inv L S kept now m)(hk:m≤k):Inv L S kept now k:=⟨⟨h.fr.1,Nat.le_trans h.fr.2 hk⟩,h.len,h.pre,h.f0,h.pl,h.al,h.fh,h.kv,h.nv⟩
theorem Inv.same {T:DS}(h:Inv L S kept now m)(h1:T.lb=S.lb)(h2:T.ws=S.ws):Inv L T kept now m:=by
 obtain⟨lb,ws,l,c,d⟩:=S;obtain⟨lb',ws',l',c',d'⟩:=T
 dsimp only at h1 h2
 subst h1 h2;exact⟨h.fr,h.len,⟨h.pre.tp,h.pre.seen,h.pre.wait⟩,h.f0,h.pl,h.al,h.fh,h.kv,h.nv⟩
theorem Inv.pos (h:Inv L S kept now m)(x:Int)(hx:(L.pl x).isSome=true):0≤x∧x<60000:=by
 have:(mrg L.pl L.fh x).isSome=true:=by
  unfold mrg;cases L.fh x with
  | some v=>rfl
  | none=>exact hx
 rw[h.al] at this;obtain⟨v,hv⟩:=Option.isSome_iff_exists.1 this;exact h.nv.ks x v hv
theorem Inv.posF (h:Inv L S kept now m)(x:Int)(hx:(L.fh x).isSome=true):0≤x∧x<60000:=by
 obtain⟨v,hv⟩:=Option.isSome_iff_exists.1 hx;have:mrg L.pl L.fh x=some v:=by unfold mrg;rw[hv]
 rw[h.al] at this;exact h.nv.ks x v this
theorem Inv.okp (h:Inv L S kept now m)(hm:m≤1000000):okM L.pl:=fun x v hv=>by
 rw[h.pl] at hv;have:=fndM_lt hv;have:=h.fr;omega
theorem Inv.okf (h:Inv L S kept now m)(hm:m≤1000000):okM L.fh:=fun x v hv=>by
 have:=h.fh x v hv;have:=h.fr;omega
theorem ap_out (h:Inv L S kept now m)(hm:m≤60000)(hn:n<60000)(ht:t.size=1024):(apL L S n t=(2,L,{ S with down:=true }))∨(S.down=false∧∃S',apL L S n t=(0,{ L with fh:=updM L.fh n L.fr,fr:=L.fr+1 },S')∧S'.down=false∧Inv { L with fh:=updM L.fh n L.fr,fr:=L.fr+1 } S' kept (wth now n t) (m+1)):=by
 have hfr:=h.fr;have hs:(fourB n++t).size=1028:=by rw[ByteArray.size_append,fourB_size,ht]
 have hpg:isPg n=true:=decide_eq_true (by omega);unfold apL;rw[if_neg (fun k=>k ⟨hpg,ht⟩),if_neg (by omega),Int.toNat_natCast];rcases opD_two S 1 (64+1028*L.fr) (fourB n++t) false (f:=1) (p:=64+1028*(L.fr:Int)) rfl (by omega) (by decide) (by omega) with e | ⟨hd,left,e⟩
 ·rw[e];exact .inl rfl
 ·rw[e,if_pos rfl];refine .inr ⟨hd,_,rfl,rfl,?_⟩;have hE:=h.eff;have e2:=fndM_new (log:=S.lb 2) (k:=L.fr) ht (n:=n) (by omega);refine⟨⟨by show L.last.frames≤L.fr+1;omega,by show L.fr+1≤m+1;omega⟩,.inr ?_,⟨h.pre.tp,?_,?_⟩,h.f0,h.pl,?_,?_,h.kv,h.nv.append ht hn⟩
  ·show 64+1028*(L.fr+1)≤(onL (64+1028*L.fr) (fourB n++t) false (S.lb 2)).length;rw[onL_len,hs];simp;omega
  ·show onL (64+1028*L.fr) (fourB n++t) false (S.lb 2)=foldF 1 (S.ws++[_]) (S.lb 3);rw[foldF_snoc,if_pos rfl,h.pre.seen]
  ·exact Wt.snoc h.pre.wait (.inl ⟨rfl,rfl,by show 64+1028*L.last.frames≤64+1028*L.fr;omega⟩)
  ·show mrg L.pl (updM L.fh n L.fr)=fndM (onL (64+1028*L.fr) (fourB n++t) false (S.lb 2)) noM (L.fr+1);rw[e2,←h.al];funext x;unfold mrg updM;by_cases hx:x=(n:Int)
   ·rw[if_pos hx,if_pos hx]
   ·rw[if_neg hx,if_neg hx]
  ·intro x v hv;have hv:updM L.fh n L.fr x=some v:=hv;unfold updM at hv;show(L.last.frames:Int)≤v∧v<((L.fr+1:Nat):Int);split at hv
   ·injection hv with hv;omega
   ·have:=h.fh x v hv;omega
theorem cm_out (h:Inv L S kept now m)(hm:m≤60000)(hn:n<60000)(ht:t.size=1024)(hp0:1≤pg)(hpg:pg≤60000):(∃L' S',cmL L S n t pg=(2,L',S')∧S'.down=true∧CrOr S' kept L.last.pages (wth now n t) pg (m+1))∨(∃L' S',cmL L S n t pg=(0,L',S')∧S'.down=false∧L'.last.pages=pg∧Inv L' S' (wth now n t) (wth now n t) (m+1)):=by
 unfold cmL;rw[if_neg (fun k=>k ⟨by omega,by omega⟩)];rcases ap_out h hm hn ht with e1 | ⟨u1,S1,e1,v1,I1⟩
 ·rw[e1];exact .inl ⟨_,_,rfl,rfl,((h.mono (Nat.le_succ m)).crash.same rfl rfl).or _ _⟩
 ·generalize hL1:({ L with fh:=updM L.fh n L.fr,fr:=L.fr+1 }:LS)=L1 at e1 I1;have hp:L.pl=L1.pl:=by rw[←hL1]
  have hq:L.last=L1.last:=by rw[←hL1]
  rw[e1,if_neg (fun k=>k rfl),hp,hq];clear hp hL1 e1 h;show(∃L' S',(if ¬(synD S1 1).1=0 then((synD S1 1).1,L1,(synD S1 1).2) else if ¬(tlL L1 (synD S1 1).2 L1.fr (pg:Int).toNat).1=0 then tlL L1 (synD S1 1).2 L1.fr (pg:Int).toNat else(0,{ (tlL L1 (synD S1 1).2 L1.fr (pg:Int).toNat).2.1 with pl:=mrg L1.pl L1.fh,fh:=fun _=>none },(tlL L1 (synD S1 1).2 L1.fr (pg:Int).toNat).2.2))=_∧_)∨(∃L' S',(if ¬(synD S1 1).1=0 then((synD S1 1).1,L1,(synD S1 1).2) else if ¬(tlL L1 (synD S1 1).2 L1.fr (pg:Int).toNat).1=0 then tlL L1 (synD S1 1).2 L1.fr (pg:Int).toNat else(0,{ (tlL L1 (synD S1 1).2 L1.fr (pg:Int).toNat).2.1 with pl:=mrg L1.pl L1.fh,fh:=fun _=>none },(tlL L1 (synD S1 1).2 L1.fr (pg:Int).toNat).2.2))=_∧_);rw[Int.toNat_natCast];have hfr:=I1.fr;have hE:=I1.eff;rcases syn_two v1 1 (f:=1) rfl (by decide) with e | ⟨left,e⟩
  ·rw[e];exact .inl ⟨_,_,rfl,rfl,(I1.crash.same rfl rfl).or _ _⟩
  ·generalize hS2:(⟨updF S1.lb (2*1+1) (foldF 1 S1.ws (S1.lb (2*1+1))),othF 1 S1.ws,left,S1.count+1,false⟩:DS)=S2 at e;rw[e,if_neg (fun k=>k rfl)];have s0:S2.lb 0=S1.lb 0:=by rw[←hS2];rfl
   have s1:S2.lb 1=S1.lb 1:=by rw[←hS2];rfl
   have s2:S2.lb 2=S1.lb 2:=by rw[←hS2];rfl
   have s3:S2.lb 3=S1.lb 2:=by rw[←hS2,I1.pre.seen];rfl
   have sw:S2.ws=[]:=by rw[←hS2];exact oth_none I1.pre.wait
   have sd:S2.down=false:=by rw[←hS2]
   clear hS2 e;have hlen:=I1.len;rcases tl_out (L:=L1) (S:=S2) (fr:=L1.fr) (pg:=pg) (a:=64+1028*L1.fr) (F:=kept) (F':=wth now n t) ⟨by rw[s3];exact I1.pre.tp.eff hE (by omega),by rw[sw,s2,s3];rfl,by rw[sw];exact Wt.nil _ _⟩ sd (by omega) (by omega) (by omega) (by omega) (by rw[s3];exact hlen)
    (by rw[s1,s3];exact I1.kv.keep (fun j _ j2=>hE.same j j2) (fun n _ _=>PgK.refl _ n)) (by rw[s1,s3];exact I1.nv) (q:=m+1) (by omega) (by omega) with⟨S3,e3,d3,c3⟩ | ⟨S3,e3,k0,k1,k2,k3,k4,k5,k6,k7⟩
   ·rw[e3];exact .inl ⟨_,_,rfl,d3,c3⟩
   ·rw[e3,if_neg (fun k=>k rfl)];refine .inr ⟨_,_,rfl,k4,rfl,?_⟩;have eL:fndM (S3.lb 3) noM L1.fr=fndM (S1.lb 2) noM L1.fr:=fndM_same (fun j j1 j2=>by rw[k6 j j1 j2,s3]);have hV:Vw (S3.lb 1) (S3.lb 3) L1.fr (wth now n t):=by
     rw[k1,s1];exact I1.nv.keep (fun j j1 j2=>by rw[k6 j j1 j2,s3]) (fun n _ _=>PgK.refl _ n)
    refine⟨⟨Nat.le_refl _,hfr.2⟩,?_,⟨k5,by rw[k3,←k2];rfl,by rw[k3];exact Wt.nil _ _⟩,by rw[k0,k1,s0,s1];exact I1.f0,?_,?_,(fun x v hv=>by cases hv),hV,by rw[←k2];exact hV⟩
    ·show L1.fr=0∨64+1028*L1.fr≤(S3.lb 2).length;rw[←k2];rw[s3] at k7;omega
    ·show mrg L1.pl L1.fh=fndM (S3.lb 3) noM L1.fr;rw[eL];exact I1.al
    ·show mrg (mrg L1.pl L1.fh) (fun _=>none)=fndM (S3.lb 2) noM L1.fr;rw[←k2,eL,←I1.al];funext x;rfl
theorem rd_out (h:Inv L S kept now m)(hm:m≤60000)(hn:n<60000)(ht:now n=some t)(h0:(S.lb 0).length≤67108864)(h2:(S.lb 2).length≤67108864):rdL L S n=(t,0)∨(S.down=true∧rdL L S n=(⟨#[]⟩,2)):=by
 have hpg:isPg n=true:=decide_eq_true (by omega);have hfr:=h.fr;have hV:=h.nv.pg n hn;have hal:mrg L.pl L.fh n=fndM (S.lb 2) noM L.fr n:=congrFun h.al n;have hF:∀v:Int,fndM (S.lb 2) noM L.fr n=some v→rdF S v=(t,0)∨(S.down=true∧rdF S v=(⟨#[]⟩,2)):=fun v hv=>by
  obtain⟨t',t1,t2,t3⟩:=hV.inlog v hv;rw[ht] at t1;injection t1 with t1;subst t1;have hv':=fndM_lt hv;have hl:=h.len;obtain⟨v,rfl⟩:∃k:Nat,v=k:=⟨v.toNat,by omega⟩;have ec:((64+1028*v+4:Nat):Int)=64+1028*(v:Int)+4:=by omega
  cases hd:S.down with
  | false =>
   left;have hR:=rd_ok (lb:=S.lb) (f:=1) (p:=64+1028*v+4) (n:=1024) (by decide) (by show _≤(S.lb 2).length;omega) h2;obtain⟨x,y,e2,hx,hy⟩:∃x y,rdF S (v:Int)=(x,y)∧x=rdS ((1:Nat):Int) ((64+1028*v+4:Nat):Int) ((1024:Nat):Int) S.lb false∧y=rdE ((1:Nat):Int) ((64+1028*v+4:Nat):Int) ((1024:Nat):Int) S.lb false:=by
    unfold rdF;rw[hd,ec];exact⟨_,_,rfl,rfl,rfl⟩
   rw[←hx,←hy] at hR;obtain⟨r1,r2,r3⟩:=hR;rw[e2,r1];refine Prod.ext (ext_byt (by show x.size=_;rw[r2,t2]) fun i hi=>?_) rfl
   change i<x.size at hi
   rw[r2] at hi;exact(r3 i hi).trans (t3 i hi).symm
  | true =>
   right;refine⟨rfl,?_⟩;have ha:rdE 1 (64+1028*(v:Int)+4) 1024 S.lb true=2:=by
    have a:askE 1 (64+1028*(v:Int)+4) 1024 true=2:=by
     unfold askE fitsD;rw[if_pos (by simp;omega)];rfl
    unfold rdE;rw[a,if_neg (by decide)]
   unfold rdF rdS;rw[hd,ha,if_neg (by decide)]
 unfold rdL;rw[if_neg (fun h=>h hpg)];unfold mrg at hal;cases hfh:L.fh n with
 | some v =>
  rw[hfh] at hal
  dsimp only
  exact hF v hal.symm
 | none =>
  rw[hfh] at hal
  dsimp only at hal ⊢
  cases hpl:L.pl n with
  | some v =>
   rw[hpl] at hal
   dsimp only
   exact hF v hal.symm
  | none =>
   rw[hpl] at hal
   dsimp only
   obtain⟨p1,p2⟩:=hV.place hal.symm;obtain⟨t2,t4,t3⟩:=p1 t ht;cases hd:S.down with
   | true=>right;exact⟨rfl,by rw[if_pos rfl]⟩
   | false =>
    left;rw[if_neg (by decide)];have hl0:S.lb 0=S.lb 1:=h.f0;rw[if_neg (by rw[hl0];omega)];have ec:((1024*n:Nat):Int)=1024*(n:Int):=by omega
    have hR:=rd_ok (lb:=S.lb) (f:=0) (p:=1024*n) (n:=1024) (by decide) (by show _≤(S.lb 0).length;rw[hl0];omega) h0;rw[show((0:Nat):Int)=0 from rfl,ec,show((1024:Nat):Int)=1024 from rfl] at hR;obtain⟨r1,r2,r3⟩:=hR;rw[r1];refine Prod.ext (ext_byt (by show(rdS 0 (1024*(n:Int)) 1024 S.lb false).size=_;rw[r2,t2]) fun i hi=>?_) rfl
    change i<(rdS 0 (1024*(n:Int)) 1024 S.lb false).size at hi
    rw[r2] at hi;refine(r3 i hi).trans ?_;show(bL (S.lb 0) (1024*n+i)).toNat=_;rw[hl0];exact(t3 i hi).symm
theorem op_up2 {c:Int}(b:Bool)(hf:f=0∨f=1)(ht:(t.size:Int)≤67108864):opD ⟨lb,ws,-1,c,false⟩ f 0 t b=(0,⟨updF lb (2*f.toNat) (onL 0 t b (lb (2*f.toNat))),ws++[⟨f.toNat,0,t,b⟩],-1,c+1,false⟩):=by
 unfold opD
 dsimp only
 rw[if_pos (ask0 hf (by omega) ht),if_neg (show ¬(-1:Int)=0 by decide)];rfl
def logN:List UInt8:=ll (markB++txtB 1 0 0)
def newS:DS:=⟨updF (updF (fun _=>[]) 2 logN) 3 logN,[],-1,4,false⟩
theorem logN_len:logN.length=40:=by
 unfold logN;rw[ll_len,ByteArray.size_append,txtB_size];rfl
theorem cut_none:onL 0 (⟨#[]⟩:ByteArray) true []=[]:=rfl
theorem mark_size:markB.size=16:=rfl
theorem beg_new:∃S1 S2 S3,Beg newD S1 S2 S3 newS 0:=by
 have hs:(markB++txtB 1 0 0).size=40:=logN_len;have e1:opD newD 1 0 ⟨#[]⟩ true=(0,⟨updF (fun _=>[]) 2 [],[⟨1,0,⟨#[]⟩,true⟩],-1,1,false⟩):=by
  rw[show newD=⟨fun _=>[],[],-1,0,false⟩ from rfl,op_up2 true (.inr rfl) (by decide)];rfl
 have u0:updF (fun _:Nat=>([]:List UInt8)) 2 []=fun _=>[]:=by funext i;unfold updF;split<;>rfl
 have u1:updF (fun _:Nat=>([]:List UInt8)) 3 []=fun _=>[]:=by funext i;unfold updF;split<;>rfl
 rw[u0] at e1;have e2:synD ⟨fun _=>[],[⟨1,0,⟨#[]⟩,true⟩],-1,1,false⟩ 1=(0,⟨fun _=>[],[],-1,2,false⟩):=by
  rw[syn_up (.inr rfl)];show(0,DS.mk (updF (fun _=>[]) 3 []) [] (-1) 2 false)=_;rw[u1]
 have e3:opD ⟨fun _=>[],[],-1,2,false⟩ 1 0 (markB++txtB 1 0 0) false=(0,⟨updF (fun _=>[]) 2 logN,[⟨1,0,markB++txtB 1 0 0,false⟩],-1,3,false⟩):=by
  rw[op_up2 false (.inr rfl) (by rw[hs];decide)];have e:onL 0 (markB++txtB 1 0 0) false []=logN:=onL_new _;show(0,DS.mk (updF (fun _=>[]) 2 (onL 0 (markB++txtB 1 0 0) false [])) _ (-1) 3 false)=_;rw[e];rfl
 have e4:synD ⟨updF (fun _=>[]) 2 logN,[⟨1,0,markB++txtB 1 0 0,false⟩],-1,3,false⟩ 1=(0,newS):=by
  rw[syn_up (.inr rfl)];have e:onL 0 (markB++txtB 1 0 0) false []=logN:=onL_new _;show(0,DS.mk (updF (updF (fun _=>[]) 2 logN) 3 (onL 0 (markB++txtB 1 0 0) false [])) [] (-1) 4 false)=_;rw[e];rfl
 exact⟨_,_,_,e1,e2,e3,e4⟩
theorem logN_byt (h:i<64):bytS (headP logN) i=bytS (markB++txtB 1 0 0) i:=by
 rw[headP_byt _ h];exact bytS_ll _ _
theorem tp_new:TP logN ⟨0,1,0,0⟩:=by
 have hs:(markB++txtB 1 0 0).size=40:=logN_len;have hh:=headP_size logN;have ht:=txtB_size 1 0 0;refine⟨.inl ⟨by rw[logN_len];decide,by rw[logN_len];decide⟩,?_,by decide,by decide,by decide,by decide,?_,.inl rfl,.inl ?_⟩
 ·unfold isMark;refine decide_eq_true ⟨by rw[hh];decide,ext_byt (by rw[ByteArray.size_extract,hh,mark_size];decide) fun i hi=>?_⟩;rw[ByteArray.size_extract,hh] at hi;have hi:i<16:=by omega
  rw[byt_cut (by omega) (by omega),logN_byt (by omega),byt_left (by rw[mark_size];omega),Nat.zero_add]
 ·show(headP logN).extract 16 40=txtB 1 0 0;refine ext_byt (by rw[ByteArray.size_extract,hh,ht];decide) fun i hi=>?_
  rw[ByteArray.size_extract,hh] at hi;have hi:i<24:=by omega
  rw[byt_cut (by omega) (by omega),logN_byt (by omega),show 16+i=markB.size+i from rfl,byt_right]
 ·show numB (headP logN) 52=0;have z:∀i,i<4→bytS (headP logN) (52+i)=0:=fun i hi=>by
   rw[logN_byt (by omega)];unfold bytS;rw[dif_neg (by omega)]
  have z0:=z 0 (by decide);have z1:=z 1 (by decide);have z2:=z 2 (by decide);have z3:=z 3 (by decide);unfold numB numK numK numK numK numK;rw[z0,z1,z2,z3]
def noP:Int→Option ByteArray:=fun _=>none
theorem vw_none (log:List UInt8):Vw [] log 0 noP:=⟨fun _ _=>⟨(fun v hv=>by cases hv),fun _=>⟨(fun t ht=>by cases ht),fun _ _ _=>rfl⟩⟩,fun x v hv=>by cases hv⟩
theorem inv_new:Inv ⟨⟨0,1,0,0⟩,0,fun _=>none,fun _=>none⟩ newS noP noP 0:=
 ⟨⟨Nat.le_refl _,Nat.le_refl _⟩,.inl rfl,⟨tp_new,rfl,Wt.nil _ _⟩,rfl,rfl,rfl,(fun x v hv=>by cases hv),vw_none _,vw_none _⟩
theorem new_last:lastC (newD.lb 2)=cm0:=rfl
def NoF (S:DS):Prop:=S.left=-1∧S.down=false
theorem opD_nf (h:NoF S)(f p:Int)(t:ByteArray)(c:Bool):NoF (opD S f p t c).2:=by
 unfold opD;split
 ·split
  ·rename_i h1 h2
   rw[h.1] at h2;exact absurd h2 (by decide)
  ·exact⟨by show decL S.left=-1;rw[h.1];rfl,h.2⟩
 ·exact h
theorem synD_nf (h:NoF S)(f:Int):NoF (synD S f).2:=by
 unfold synD;split
 ·split
  ·rename_i h1 h2
   rw[h.1] at h2;exact absurd h2 (by decide)
  ·exact⟨by show decL S.left=-1;rw[h.1];rfl,h.2⟩
 ·exact h
theorem apL_nf (h:NoF S)(n:Int)(t:ByteArray):NoF (apL L S n t).2.2:=by
 have h1:=opD_nf h 1 (64+1028*(L.fr:Int)) (fourB n.toNat++t) false;unfold apL;split
 ·exact h
 ·split
  ·exact h
  ·split
   ·exact h1
   ·exact h1
theorem tlL_nf (h:NoF S)(fr pg:Nat):NoF (tlL L S fr pg).2.2:=by
 have h1:=opD_nf h 1 (16+24*((1-L.last.slot:Nat):Int)) (txtB (nxN L.last.number) fr pg) false;have h2:=synD_nf h1 1;unfold tlL;split
 ·split
  ·exact h2
  ·exact h2
 ·exact h1
theorem cmL_nf (h:NoF S)(n:Int)(t:ByteArray)(pg:Int):NoF (cmL L S n t pg).2.2:=by
 have h1:=apL_nf (L:=L) h n t;have h2:=synD_nf h1 1;have h3:=tlL_nf (L:=(apL L S n t).2.1) h2 (apL L S n t).2.1.fr pg.toNat;unfold cmL;split
 ·exact h
 ·split
  ·exact h1
  ·split
   ·exact h2
   ·split
    ·exact h3
    ·exact h3
theorem cmL_ok (h:okS S k)(n:Int)(t:ByteArray)(pg:Int):okS (cmL L S n t pg).2.2 (k+4):=by
 have h1:=apL_ok (L:=L) h n t;have h2:=synD_ok h1 1;have h3:=tlL_ok (L:=(apL L S n t).2.1) h2 (apL L S n t).2.1.fr pg.toNat;unfold cmL;split
 ·exact h.mono (by omega)
 ·split
  ·exact h1.mono (by omega)
  ·split
   ·exact h2.mono (by omega)
   ·split
    ·exact h3.mono (by omega)
    ·exact h3.mono (by omega)
end Go.Proofs.YtiaibgfhigdgdaaGreat
