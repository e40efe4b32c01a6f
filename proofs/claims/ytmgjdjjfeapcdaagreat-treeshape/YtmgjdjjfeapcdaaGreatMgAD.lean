/- package relstorekeep: has -/
import Derived.Test.YtmgjdjjfeapcdaaGreatMgAC
import Derived.Test.YtmgjdjjfeapcdaaGreatMgAA
namespace Go.Proofs.YtmgjdjjfeapcdaaGreat
open Go.RowKit Go.Lib Go.Maps Go.Sort Go.Shelf
attribute [local go_sem ↓] Go.wp_at_zero Go.wp_at_succ
end Go.Proofs.YtmgjdjjfeapcdaaGreat
namespace Go.Proofs.YtmgjdjjfeapcdaaGreat
open Go.RowKit Go.Lib Go.Maps Go.Sort Go.Shelf
attribute [local go_sem ↓] Go.wp_at_zero Go.wp_at_succ
def newD:DS:=⟨fun _=>[],[],-1,0,false⟩
theorem ask0 {f n:Int} (hf:f=0∨f=1) (h0:0≤n) (h1:n≤67108864):askE f 0 n false=0:=by
  have:fitsD f 0 n:=by
    unfold fitsD
    rcases hf with rfl | rfl <;> simp <;> omega
  unfold askE
  rw [if_pos this]
  rfl
end Go.Proofs.YtmgjdjjfeapcdaaGreat
namespace Go.Proofs.YtmgjdjjfeapcdaaGreat
open Go.RowKit Go.Lib
attribute [local go_sem ↓] Go.wp_at_zero Go.wp_at_succ
set_option maxRecDepth 20000 in
set_option maxHeartbeats 1000000 in
theorem kshort (a:Option Addr) (n c:Nat) (w:World) (hn:n≤140737488355328) (hc:n≤c) (ha:a=none→n=0∧c=0) :
    Calls Tryz.prog 17 #[.slice a n c] w fun e w'=>e=.returned (.slice a (min n 250) c)∧w'=w:=by
  by_cases h:n≤250
  · rw [Nat.min_eq_left h]
    have h':(n:Int)≤250:=by omega
    go_enter Tryz.func17,Tryz.ntmps17
    go_wp2_with fail
    go_ret
    exact ⟨by show Ending.returned (Value.slice a (min (n:Int) 250).toNat c)=_;rw [show (min (n:Int) 250).toNat=n by omega],rfl⟩
  · rw [Nat.min_eq_right (by omega)]
    have h':¬ (n:Int)≤250:=by omega
    have h2:(250:Int)≤(c:Int):=by omega
    cases a with
    | none=>have:=ha rfl;omega
    | some ad =>
      clear ha
      go_enter Tryz.func17,Tryz.ntmps17
      go_wp2_with fail
      go_ret
      exact ⟨by show Ending.returned (Value.slice (some ad) (min (n:Int) 250).toNat c)=_;rw [show (min (n:Int) 250).toNat=250 by omega],rfl⟩
theorem cnewD (X:World):Calls Tryz.prog 5 #[] X fun e w'=>e=.returned (.pointer (some ⟨X.heap.size,0,none⟩))∧PDs w' X.heap.size X.heap.size newD∧Below X.heap.size X w':=by
  refine (cnew X).mono ?_
  rintro e w ⟨h1,h2,h3⟩
  exact ⟨h1,⟨_,_,h2⟩,h3⟩
/- what a crash leaves of a disk -/
def crD (fa:Nat→Int) (S:DS):DS:=⟨cpL (crL fa S.ws S.lb S.ws.length) 2,[],-1,S.count,false⟩
theorem onL_new (t:ByteArray):onL 0 t false []=ll t:=by
  unfold onL fil
  simp
theorem syn_up {lb:Nat→List UInt8} {ws:List Chg} {c f:Int} (hf:f=0∨f=1):synD ⟨lb,ws,-1,c,false⟩ f=(0,⟨updF lb (2 * f.toNat+1) (foldF f.toNat ws (lb (2 * f.toNat+1))),othF f.toNat ws,-1,c+1,false⟩):=by
  unfold synD
  dsimp only
  rw [if_pos (ask0 hf (by omega) (by omega)),if_neg (show ¬ (-1:Int)=0 by decide)]
  rfl
end Go.Proofs.YtmgjdjjfeapcdaaGreat
namespace Go.Proofs.YtmgjdjjfeapcdaaGreat
theorem onL_ge {p:Nat} {t:ByteArray} {l:List UInt8}:l.length≤(onL p t false l).length:=by
  rw [onL_len]
  simp
  omega
theorem cp_at (l:Nat→List UInt8):cpL l 2 0=l 1∧cpL l 2 1=l 1∧cpL l 2 2=l 3∧cpL l 2 3=l 3:=by
  simp [cpL,updF]
end Go.Proofs.YtmgjdjjfeapcdaaGreat
namespace Go.Proofs.YtmgjdjjfeapcdaaGreat
end Go.Proofs.YtmgjdjjfeapcdaaGreat
namespace Go.Proofs.YtmgjdjjfeapcdaaGreat
theorem byt_cut {s:ByteArray} {p q i:Nat} (hq:q≤s.size) (hi:p+i<q):bytS (s.extract p q) i=bytS s (p+i):=by
  unfold bytS
  have h1:i<(s.extract p q).size:=by rw [ByteArray.size_extract];omega
  rw [dif_pos h1,dif_pos (by omega),ByteArray.getElem_extract]
theorem byt_left {a b:ByteArray} {i:Nat} (h:i<a.size):bytS (a ++ b) i=bytS a i:=by
  unfold bytS
  rw [dif_pos (by rw [ByteArray.size_append];omega),dif_pos h,ByteArray.getElem_append_left h]
theorem byt_right {a b:ByteArray} {i:Nat}:bytS (a ++ b) (a.size+i)=bytS b i:=by
  unfold bytS
  by_cases h:i<b.size
  · rw [dif_pos (by rw [ByteArray.size_append];omega),dif_pos h,ByteArray.getElem_append_right (by omega)]
    congr 2
    omega
  · rw [dif_neg (by rw [ByteArray.size_append];omega),dif_neg h]
theorem four_num {n:Nat} (h:n<4294967296):numB (fourB n) 0=n:=by
  have b0:bytS (fourB n) 0=n / 16777216 % 256:=rfl
  have b1:bytS (fourB n) 1=n / 65536 % 256:=rfl
  have b2:bytS (fourB n) 2=n / 256 % 256:=rfl
  have b3:bytS (fourB n) 3=n % 256:=rfl
  unfold numB numK numK numK numK numK
  simp only [Nat.zero_add,b0,b1,b2,b3]
  omega
theorem num_same {a b:ByteArray} {p q:Nat} (h:∀ i<4,bytS a (p+i)=bytS b (q+i)):numB a p=numB b q:=by
  unfold numB numK numK numK numK numK
  rw [h 0 (by decide),h 1 (by decide),h 2 (by decide),h 3 (by decide)]
theorem half_num {n f p:Nat} (hn:n<4294967296) (hf:f<4294967296) (hp:p<4294967296):numB (halfB n f p) 0=n∧numB (halfB n f p) 4=f∧numB (halfB n f p) 8=p:=by
  have s1:(fourB n ++ fourB f).size=8:=by rw [ByteArray.size_append];rfl
  refine ⟨?_,?_,?_⟩
  · refine (num_same (b:=fourB n) (q:=0) fun i hi=>?_).trans (four_num hn)
    show bytS (fourB n ++ fourB f ++ fourB p) (0+i)=_
    rw [byt_left (by omega),byt_left (by rw [fourB_size];omega)]
  · refine (num_same (b:=fourB f) (q:=0) fun i hi=>?_).trans (four_num hf)
    show bytS (fourB n ++ fourB f ++ fourB p) ((fourB n).size+i)=_
    rw [byt_left (by rw [s1,fourB_size];omega),byt_right,Nat.zero_add]
  · refine (num_same (b:=fourB p) (q:=0) fun i hi=>?_).trans (four_num hp)
    have e:(8:Nat)+i=(fourB n ++ fourB f).size+i:=by rw [s1]
    show bytS (fourB n ++ fourB f ++ fourB p) (8+i)=_
    rw [e,byt_right,Nat.zero_add]
theorem txt_num {n f p:Nat} (hn:n<4294967296) (hf:f<4294967296) (hp:p<4294967296):numB (txtB n f p) 0=n∧numB (txtB n f p) 4=f∧numB (txtB n f p) 8=p:=by
  obtain ⟨h1,h2,h3⟩:=half_num hn hf hp
  have k:∀ q,q+4≤12→numB (txtB n f p) q=numB (halfB n f p) q:=fun q hq=>num_same fun i hi=>by
    unfold txtB
    rw [byt_left (by rw [halfB_size];omega)]
  exact ⟨(k 0 (by omega)).trans h1,(k 4 (by omega)).trans h2,(k 8 (by omega)).trans h3⟩
/- a slot that holds a commit's text tells it -/
theorem told_of {head:ByteArray} {q slot size n f p:Nat} (hs:q+24≤head.size) (h:head.extract q (q+24)=txtB n f p) (hn:1≤n∧n≤3) (hf:f<4294967296) (hp:p<4294967296) (hz:f=0∨64+1028 * f≤size):toldA head q slot size=⟨slot,n,f,p⟩:=by
  obtain ⟨h1,h2,h3⟩:=txt_num (n:=n) (by omega) hf hp
  have k:∀ d,d+4≤24→numB head (q+d)=numB (txtB n f p) d:=fun d hd=>num_same fun i hi=>by
    rw [← h,byt_cut hs (by omega),Nat.add_assoc]
  have e0:numB head q=n:=(k 0 (by omega)).trans h1
  have e4:numB head (q+4)=f:=(k 4 (by omega)).trans h2
  have e8:numB head (q+8)=p:=(k 8 (by omega)).trans h3
  unfold toldA
  rw [if_neg (by omega),e0,e4,e8,if_neg (fun hh=>hh hn),if_neg (fun hh=>hh h.symm),if_neg (by omega)]
theorem num_lt (s:ByteArray) (p:Nat):numB s p<4294967296:=numK_lt s p 4
theorem txt_second {n f p:Nat} (hn:n<4294967296) (hf:f<4294967296) (hp:p<4294967296):numB (txtB n f p) 12=n:=by
  obtain ⟨h1,_,_⟩:=half_num hn hf hp
  refine (num_same (b:=halfB n f p) (q:=0) fun i hi=>?_).trans h1
  have e:(12:Nat)+i=(halfB n f p).size+i:=by rw [halfB_size]
  unfold txtB
  rw [e,byt_right,Nat.zero_add]
/- what a slot tells is the number in its second half, or nothing -/
theorem told_second (head:ByteArray) (q slot size:Nat):(toldA head q slot size).number=0∨((toldA head q slot size).number=numB head (q+12)∧1≤numB head (q+12)):=by
  unfold toldA
  by_cases h1:head.size<q+24
  · rw [if_pos h1];exact .inl rfl
  · rw [if_neg h1]
    by_cases h2:1≤numB head q∧numB head q≤3
    · rw [if_neg (fun h=>h h2)]
      by_cases h3:txtB (numB head q) (numB head (q+4)) (numB head (q+8))=head.extract q (q+24)
      · rw [if_neg (fun h=>h h3)]
        have k:numB head (q+12)=numB head q:=by
          refine Eq.trans ?_ (txt_second (num_lt head q) (num_lt head (q+4)) (num_lt head (q+8)))
          refine num_same fun i hi=>?_
          rw [h3,byt_cut (by omega) (by omega),Nat.add_assoc]
        split
        · exact .inl rfl
        · exact .inr ⟨k.symm,by omega⟩
      · rw [if_pos h3];exact .inl rfl
    · rw [if_pos h2];exact .inl rfl
end Go.Proofs.YtmgjdjjfeapcdaaGreat
namespace Go.Proofs.YtmgjdjjfeapcdaaGreat
def headP (log:List UInt8):ByteArray:=⟨((fil log 64).take 64).toArray⟩
theorem headP_size (log:List UInt8):(headP log).size=64:=by
  show ((fil log 64).take 64).toArray.size=64
  rw [List.size_toArray,List.length_take,fil_len]
  omega
theorem headP_long {log:List UInt8} (h:64≤log.length):headP log=headB log:=by
  unfold headP headB
  rw [fil_le h]
def bL (l:List UInt8) (i:Nat):UInt8:=(l[i]?).getD 0
theorem bL_fil (l:List UInt8) (n i:Nat):bL (fil l n) i=bL l i:=by
  unfold bL fil
  by_cases h:i<l.length
  · rw [List.getElem?_append_left h]
  · rw [List.getElem?_append_right (by omega),List.getElem?_replicate,List.getElem?_eq_none (by omega)]
    split <;> rfl
theorem headP_byt (log:List UInt8) {i:Nat} (h:i<64):bytS (headP log) i=(bL log i).toNat:=by
  have hs:=headP_size log
  rw [← bL_fil log 64 i]
  unfold bytS bL
  rw [dif_pos (by omega)]
  have hl:i<((fil log 64).take 64).length:=by rw [List.length_take,fil_len];omega
  show (((fil log 64).take 64).toArray[i]'(by simpa using hl)).toNat=_
  rw [List.getElem_toArray,List.getElem_take,List.getElem?_eq_getElem (by rw [fil_len];omega)]
  rfl
theorem bytS_ll (t:ByteArray) (i:Nat):(bL (ll t) i).toNat=bytS t i:=by
  unfold bytS bL ll
  by_cases h:i<t.size
  · rw [dif_pos h,List.getElem?_eq_getElem (show i<t.data.toList.length from h)]
    rfl
  · rw [dif_neg h,List.getElem?_eq_none (show t.data.toList.length≤i from Nat.le_of_not_lt h)]
    rfl
theorem ext_byt {a b:ByteArray} (hs:a.size=b.size) (h:∀ i,i<a.size→bytS a i=bytS b i):a=b:=by
  apply ByteArray.ext
  apply Array.ext
  · exact hs
  · intro i h1 h2
    have:=h i h1
    unfold bytS at this
    rw [dif_pos (show i<a.size from h1),dif_pos (show i<b.size from h2)] at this
    exact UInt8.toNat_inj.1 this
theorem head_len {log:List UInt8} (h:log.length≤64):(headB log).size=log.length:=by
  show (log.take 64).toArray.size=log.length
  rw [List.size_toArray,List.length_take]
  omega
theorem headB_byt {log:List UInt8} (h:log.length≤64) (i:Nat):bytS (headB log) i=(bL log i).toNat:=by
  rw [← bytS_ll]
  show (bL (log.take 64).toArray.toList i).toNat=_
  rw [List.take_of_length_le h]
theorem pad_byte {log:List UInt8} (h:log.length≤64) (i:Nat):bytS (headP log) i=bytS (headB log) i:=by
  by_cases hi:i<64
  · rw [headP_byt _ hi,headB_byt h]
  · have h1:=headP_size log
    have h2:=head_len h
    unfold bytS
    rw [dif_neg (by omega),dif_neg (by omega)]
theorem pad_num {log:List UInt8} (h:log.length≤64) (p:Nat):numB (headP log) p=numB (headB log) p:=num_same fun i _=>pad_byte h (p+i)
theorem pad_cut {log:List UInt8} (h:log.length≤64) {a b:Nat} (hb:b≤log.length):(headP log).extract a b=(headB log).extract a b:=by
  have h1:=headP_size log
  have h2:=head_len h
  refine ext_byt (by rw [ByteArray.size_extract,ByteArray.size_extract];omega) fun i hi=>?_
  rw [ByteArray.size_extract] at hi
  rw [byt_cut (by omega) (by omega),byt_cut (by omega) (by omega),pad_byte h]
theorem pad_mark {log:List UInt8} (h:(40≤log.length∧log.length≤52)∨64≤log.length):isMark (headP log)=isMark (headB log):=by
  rcases h with h | h
  · have h2:=head_len (log:=log) (by omega)
    unfold isMark
    rw [pad_cut (by omega) (by omega),headP_size,h2]
    congr 1
    exact propext ⟨fun k=>⟨by omega,k.2⟩,fun k=>⟨by omega,k.2⟩⟩
  · rw [headP_long h]
theorem num_far {s:ByteArray} {p:Nat} (h:s.size≤p):numB s p=0:=by
  have z:∀ i,bytS s (p+i)=0:=fun i=>by unfold bytS;rw [dif_neg (by omega)]
  unfold numB
  have z0:bytS s p=0:=z 0
  simp [numK,z,z0]
theorem told_zero {head:ByteArray} {q slot size:Nat} (h:(toldA head q slot size).number=0):toldA head q slot size=cm0:=by
  revert h
  unfold toldA
  split
  · exact fun _=>rfl
  · split
    · exact fun _=>rfl
    · rename_i _ hn
      split
      · exact fun _=>rfl
      · split
        · exact fun _=>rfl
        · intro h
          exact absurd (fun k=>by have:numB head q=0:=h;omega) hn
theorem pad_told {log:List UInt8} (h:(40≤log.length∧log.length≤52)∨64≤log.length) {slot:Nat} (hs:slot≤1) (size:Nat):toldA (headP log) (16+24 * slot) slot size=toldA (headB log) (16+24 * slot) slot size:=by
  rcases h with h | h
  · have h2:=head_len (log:=log) (by omega)
    have:slot=0∨slot=1:=by omega
    rcases this with rfl | rfl
    · unfold toldA
      rw [pad_num (by omega),pad_num (by omega),pad_num (by omega),pad_cut (by omega) (by omega),if_neg (show ¬ (headP log).size<16+24 * 0+24 by rw [headP_size];omega),if_neg (show ¬ (headB log).size<16+24 * 0+24 by rw [h2];omega)]
    · have e:toldA (headB log) (16+24 * 1) 1 size=cm0:=by unfold toldA;rw [if_pos (by rw [h2];omega)]
      rw [e]
      apply told_zero
      rcases told_second (headP log) (16+24 * 1) 1 size with k | ⟨_,k⟩
      · exact k
      · rw [pad_num (by omega),num_far (by rw [h2];omega)] at k
        omega
  · rw [headP_long h]
end Go.Proofs.YtmgjdjjfeapcdaaGreat
namespace Go.Proofs.YtmgjdjjfeapcdaaGreat
structure CurP (log:List UInt8) (c:Cm):Prop where
  len:(40≤log.length∧log.length≤52)∨64≤log.length
  mark:isMark (headP log)=true
  slot:c.slot≤1
  number:1≤c.number∧c.number≤3
  told:∀ size,c.frames=0∨64+1028 * c.frames≤size→toldA (headP log) (16+24 * c.slot) c.slot size=c
  fits:c.frames=0∨64+1028 * c.frames≤log.length
  other:∀ size,(toldA (headP log) (16+24 * (1 - c.slot)) (1 - c.slot) size).number=0∨nxN (toldA (headP log) (16+24 * (1 - c.slot)) (1 - c.slot) size).number=c.number
theorem CurP.last {log:List UInt8} {c:Cm} (h:CurP log c):lastC log=c:=by
  obtain ⟨h0,h1,h2,h3,h4,h5,h6⟩:=h
  have k4:=h4 log.length h5
  have k6:=h6 log.length
  rw [pad_mark h0] at h1
  rw [pad_told h0 h2] at k4
  rw [pad_told h0 (by omega)] at k6
  unfold lastC
  rw [if_pos h1]
  obtain ⟨s,n,f,p⟩:=c
  dsimp only at *
  have hs:s=0∨s=1:=by omega
  unfold pickC
  rcases hs with rfl | rfl
  · rw [show (16:Nat)=16+24 * 0 from rfl,k4]
    dsimp only at *
    rw [if_neg]
    intro hh
    rcases hh with hh | hh
    · omega
    · change _=nxN n at hh
      have e:(toldA (headB log) (16+24 * (1 - 0)) (1 - 0) log.length).number=nxN n:=hh
      unfold nxN at e k6
      omega
  · have e:toldA (headB log) 40 1 log.length=⟨1,n,f,p⟩:=k4
    rw [e]
    refine if_pos ?_
    rcases k6 with k | k
    · exact .inl k
    · exact .inr k.symm
end Go.Proofs.YtmgjdjjfeapcdaaGreat
namespace Go.Proofs.YtmgjdjjfeapcdaaGreat
theorem curP_of {log:List UInt8} {c:Cm} (hl:(40≤log.length∧log.length≤52)∨64≤log.length) (hm:isMark (headP log)=true) (hs:c.slot≤1) (hn:1≤c.number∧c.number≤3) (hf:c.frames<4294967296) (hp:c.pages<4294967296)
    (hx:(headP log).extract (16+24 * c.slot) (16+24 * c.slot+24)=txtB c.number c.frames c.pages) (hz:c.frames=0∨64+1028 * c.frames≤log.length) (ho:numB (headP log) (16+24 * (1 - c.slot)+12)=0∨nxN (numB (headP log) (16+24 * (1 - c.slot)+12))=c.number):CurP log c:=by
  refine ⟨hl,hm,hs,hn,fun size h=>told_of (by rw [headP_size];omega) hx hn hf hp h,hz,fun size=>?_⟩
  rcases told_second (headP log) (16+24 * (1 - c.slot)) (1 - c.slot) size with h | ⟨h,h'⟩
  · exact .inl h
  · rcases ho with ho | ho
    · omega
    · rw [h];exact .inr ho
end Go.Proofs.YtmgjdjjfeapcdaaGreat
namespace Go.Proofs.YtmgjdjjfeapcdaaGreat
theorem onL_get (q:Nat) (t:ByteArray) (l:List UInt8) (i:Nat):bL (onL q t false l) i=if q≤i∧i<q+t.size then bL (ll t) (i - q) else bL l i:=by
  have hF:((fil l (q+t.size)).take q).length=q:=by rw [List.length_take,fil_len];omega
  have hT:(ll t).length=t.size:=rfl
  have hg:=bL_fil l (q+t.size)
  unfold onL
  rw [if_neg (by decide),List.append_assoc]
  by_cases h1:i<q
  · rw [if_neg (by omega),← hg]
    unfold bL
    rw [List.getElem?_append_left (by omega),List.getElem?_take_of_lt h1]
  · by_cases h2:i<q+t.size
    · rw [if_pos (by omega)]
      unfold bL
      rw [List.getElem?_append_right (by omega),hF,List.getElem?_append_left (by omega)]
    · rw [if_neg (by omega),← hg]
      unfold bL
      rw [List.getElem?_append_right (by omega),hF,List.getElem?_append_right (by omega),hT,List.getElem?_drop]
      congr 2
      omega
/- behind a slot's write: the slot's text, the other bytes as they were -/
theorem wr_in {log:List UInt8} {q:Nat} {t:ByteArray} (hq:q+t.size≤64):(headP (onL q t false log)).extract q (q+t.size)=t:=by
  have hs:=headP_size (onL q t false log)
  have he:((headP (onL q t false log)).extract q (q+t.size)).size=t.size:=by rw [ByteArray.size_extract];omega
  refine ext_byt he fun i hi=>?_
  rw [he] at hi
  rw [byt_cut (by omega) (by omega),headP_byt _ (by omega),onL_get,if_pos (by omega),bytS_ll,show q+i - q=i by omega]
theorem wr_out {log:List UInt8} {q i:Nat} {t:ByteArray} (hi:i<64) (h:i<q∨q+t.size≤i):bytS (headP (onL q t false log)) i=bytS (headP log) i:=by
  rw [headP_byt _ hi,headP_byt _ hi,onL_get,if_neg (by omega)]
theorem wr_cut {log:List UInt8} {q a b:Nat} {t:ByteArray} (hb:b≤64) (h:b≤q∨q+t.size≤a):(headP (onL q t false log)).extract a b=(headP log).extract a b:=by
  have h1:=headP_size (onL q t false log)
  have h2:=headP_size log
  refine ext_byt (by rw [ByteArray.size_extract,ByteArray.size_extract,h1,h2]) fun i hi=>?_
  rw [ByteArray.size_extract] at hi
  rw [byt_cut (by omega) (by omega),byt_cut (by omega) (by omega)]
  exact wr_out (by omega) (by omega)
theorem wr_num {log:List UInt8} {q p:Nat} {t:ByteArray} (hp:p+4≤64) (h:p+4≤q∨q+t.size≤p):numB (headP (onL q t false log)) p=numB (headP log) p:=
  num_same fun i hi=>wr_out (by omega) (by omega)
end Go.Proofs.YtmgjdjjfeapcdaaGreat
