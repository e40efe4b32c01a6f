/- what of a pool stays while blocks are written that it does not own; long values in plain words -/
import Derived.Test.YtmgjdjjfeapcdaaGreatMgAO
import Derived.Test.YtmgjdjjfeapcdaaGreatTsA
namespace Go.Proofs.YtmgjdjjfeapcdaaGreat
open Go.RowKit Go.Lib Go.Maps Go.Sort
/- a block that no pool owns: of another type, a row of bytes that is not the disk's, a row of numbers that is not the order -/
def loose (w:World) (B:Nat) (vo:Value) (c:Nat):Prop:=(∃ cs t,w.heap[c]? = some (.cells cs t (0,0))∧tyQ t=false)∨(isU w c∧¬ ownB w B c)∨((∃ cs,w.heap[c]? = some (.cells cs 3 (0,0)))∧¬ vo.ownBlock=some c)
structure Kpt (w w':World) (B:Nat) (vo:Value):Prop where
  size:w.heap.size≤w'.heap.size
  keep:∀ c,c<w.heap.size→¬ loose w B vo c→w'.heap[c]? = w.heap[c]?
section
variable {w w':World} {B D Gp:Nat} {vo:Value}
theorem cells_tight {c:Nat} {cs:Array Value} {t:TypeId} {fz:Nat × Nat} (h:w.heap[c]? = some (.cells cs t fz)) (ht:tyQ t=true) (hu:¬ t=5) (hi:t=3→vo.ownBlock=some c):¬ loose w B vo c:=by
  rintro (⟨cs',t',k,q⟩ | ⟨⟨cs',f,k⟩,_⟩ | ⟨⟨cs',k⟩,q⟩)
  · rw [h] at k
    injection k with k
    injection k with _ k _
    rw [k,q] at ht
    cases ht
  · rw [h] at k
    injection k with k
    injection k with _ k _
    exact hu k
  · rw [h] at k
    injection k with k
    injection k with _ k _
    exact q (hi k)
theorem map_tight {c:Nat} (h:isM w c):¬ loose w B vo c:=by
  obtain ⟨es,k,h⟩:=h
  rintro (⟨cs',t',k,q⟩ | ⟨⟨cs',f,k⟩,_⟩ | ⟨⟨cs',k⟩,q⟩) <;> (rw [h] at k;cases k)
theorem PD.kept {vb:Nat→Value} {vw:Value} {lb:Nat→List UInt8} {ws:List Chg} {left count:Int} {down:Bool} (h:PD w B D vb vw lb ws left count down) (k:Kpt w w' B vo):PD w' B D vb vw lb ws left count down:=by
  refine ⟨(k.keep D h.lt (cells_tight h.blk (by decide) (by decide) (fun e=>absurd e (by decide)))).trans h.blk,h.low,fun i hi=>row_keep (h.rows i hi) fun g hg=>k.keep g (World.ownsRow.lt (h.rows i hi) g hg).2 ?_,row_keep h.wrow fun g hg=>?_,h.dif,h.size,h.oks⟩
  · have ho:=h.ownB hi hg
    rcases (h.rows i hi).2 with ⟨e,_⟩ | ⟨g',cap,cur,e,_,hgg,_⟩
    · rw [e] at hg;cases hg
    · rw [e] at hg
      injection hg with hg
      have hg:g'=g:=hg
      subst hg
      rintro (⟨cs',t',q,r⟩ | ⟨_,q⟩ | ⟨⟨cs',q⟩,_⟩)
      · rw [hgg] at q
        injection q with q
        injection q with _ q _
        rw [← q] at r
        exact absurd r (by decide)
      · exact q ho
      · rw [hgg] at q
        injection q with q
        injection q with _ q _
        exact absurd q (by decide)
  · rcases h.wrow.2 with ⟨e,_⟩ | ⟨g',cap,cur,e,_,hgg,_⟩
    · rw [e] at hg;cases hg
    · rw [e] at hg
      injection hg with hg
      have hg:g'=g:=hg
      subst hg
      exact k.keep g' (Array.getElem?_eq_some_iff.1 hgg).1 (cells_tight hgg (by decide) (by decide) (fun e=>absurd e (by decide)))
theorem PL.keptN {G bp bf n:Nat} {L:LS} {S:DS} (h:PL w B D G bp bf n L S) (k:Kpt w w' B vo):PL w' B D G bp bf n L S:=by
  obtain ⟨vb,vw,hd⟩:=h.dsk
  exact ⟨(k.keep G h.lt (cells_tight h.blk (by decide) (by decide) (fun e=>absurd e (by decide)))).trans h.blk,h.low,h.dif,h.mp.keep (k.keep _ h.mp.lt (map_tight h.mp.isMap)),h.mf.keep (k.keep _ h.mf.lt (map_tight h.mf.isMap)),⟨vb,vw,hd.kept k⟩⟩
theorem PP.keptN {b:Bk} {P:PS} {L:LS} {S:DS} (h:PP w B D Gp b P L S) (k:Kpt w w' B b.vo):PP w' B D Gp b P L S:=by
  refine ⟨(k.keep Gp h.lt (cells_tight h.blk (by decide) (by decide) (fun e=>absurd e (by decide)))).trans h.blk,h.log.keptN k,h.fmap.keep (k.keep _ h.fmap.lt (map_tight h.fmap.isMap)),h.chm.keep (k.keep _ h.chm.lt (map_tight h.chm.isMap)),fun n f hf=>⟨(k.keep _ (h.fcells hf).2.2.2.2.2 (cells_tight (h.frs n f hf).1 (by decide) (by decide) (fun e=>absurd e (by decide)))).trans (h.frs n f hf).1,(h.frs n f hf).2⟩,h.inj,row_keep h.ord fun g hg=>?_,h.low,h.dif⟩
  obtain ⟨⟨cur,hc⟩,-,hl⟩:=h.rowblk hg
  exact k.keep g hl (cells_tight hc (by decide) (by decide) (fun _=>hg))
theorem TS.keptN {V:PV} {K:Pgs} {pk m:Nat} {A:Nat→PgV} {fl:List Nat} {pages:Nat} (h:TS w B D Gp V K pk m A fl pages) (k:Kpt w w' B V.b.vo):TS w' B D Gp V K pk m A fl pages:=by
  obtain ⟨C,h1,h2⟩:=h.po
  exact ⟨⟨C,⟨h1.pp.keptN k,h1.pi,Nat.le_trans h1.lo k.size⟩,h2⟩,h.pg,h.fr,h.zero,h.fls,h.flin,h.nf,h.fnd⟩
theorem TS.isD {V:PV} {K:Pgs} {pk m:Nat} {A:Nat→PgV} {fl:List Nat} {pages:Nat} (h:TS w B D Gp V K pk m A fl pages):isD w B:=by
  obtain ⟨C,h1,h2⟩:=h.po
  obtain ⟨vb,vw,hd⟩:=h1.pp.log.dsk
  exact hd.isD
/- a row of bytes that the disk does not own: it stays, and is not taken -/
theorem TS.stayU {V V':PV} {K:Pgs} {pk m:Nat} {A:Nat→PgV} {fl:List Nat} {pages base n:Nat} {v:Value} {xs:List Value} (h:TS w B D Gp V K pk m A fl pages) (hs:St2 w w' B V V') (hr:w.ownsRow base 5 1 v n xs) (hn:∀ g,v.ownBlock=some g→¬ ownB w B g):w'.ownsRow base 5 1 v n xs∧∀ g,v.ownBlock=some g→¬ ownB w' B g:=by
  have hc:∀ g,v.ownBlock=some g→isU w g:=fun g hg=>by
    rcases hr.2 with ⟨e,_⟩ | ⟨g',cap,cur,e,_,hgg,_⟩
    · rw [e] at hg;cases hg
    · rw [e] at hg
      injection hg with hg
      have hg:g'=g:=hg
      subst hg
      exact ⟨_,_,hgg⟩
  exact ⟨row_keep hr fun g hg=>hs.bel.u.stay h.isD g (World.ownsRow.lt hr g hg).2 (hc g hg) (hn g hg),fun g hg ho=>hn g hg (hs.bel.u.rows h.isD g (World.ownsRow.lt hr g hg).2 (hc g hg) ho)⟩
/- a row of numbers that the pool does not own -/
theorem TS.stayI {V V':PV} {K:Pgs} {pk m:Nat} {A:Nat→PgV} {fl:List Nat} {pages base n:Nat} {v:Value} {xs:List Value} (h:TS w B D Gp V K pk m A fl pages) (hs:St2 w w' B V V') (hr:w.ownsRow base 3 1 v n xs) (hn:∀ g,v.ownBlock=some g→¬ V.b.vo.ownBlock=some g):w'.ownsRow base 3 1 v n xs∧∀ g,v.ownBlock=some g→¬ V'.b.vo.ownBlock=some g:=by
  obtain ⟨C,h1,h2⟩:=h.po
  rcases hr.2 with ⟨e,h0⟩ | ⟨g',cap,cur,e,hb,hgg,hrest⟩
  · exact ⟨⟨hr.1,.inl ⟨e,h0⟩⟩,fun g hg=>by rw [e] at hg;cases hg⟩
  · have:=h1.stayI hs hgg (hn g' (by rw [e];rfl))
    exact ⟨⟨hr.1,.inr ⟨g',cap,cur,e,hb,this.1,hrest⟩⟩,fun g hg=>by
      rw [e] at hg
      injection hg with hg
      have hg:g'=g:=hg
      subst hg
      exact this.2⟩
/- new blocks are not the disk's, nor the order's -/
theorem TS.newU {V:PV} {K:Pgs} {pk m:Nat} {A:Nat→PgV} {fl:List Nat} {pages:Nat} (h:TS w B D Gp V K pk m A fl pages) (k:Kpt w w' B V.b.vo) {g:Nat} (hg:w.heap.size≤g):¬ ownB w' B g:=by
  obtain ⟨C,h1,h2⟩:=h.po
  obtain ⟨vb,vw,hd⟩:=h1.pp.log.dsk
  have hd':=hd.kept k
  rintro ⟨cur,fz,v,q,hm,hv⟩
  rw [hd.low,hd'.blk] at q
  injection q with q
  injection q with q _ _
  subst q
  simp only [List.mem_toArray,List.mem_cons,List.not_mem_nil,or_false] at hm
  have k1:∀ i,i<4→v=vb i→False:=fun i hi e=>by
    rw [e] at hv
    have:=(World.ownsRow.lt (hd.rows i hi) g hv).2
    omega
  rcases hm with e | e | e | e | e | e | e | e
  · exact k1 0 (by decide) e
  · exact k1 1 (by decide) e
  · exact k1 2 (by decide) e
  · exact k1 3 (by decide) e
  · rw [e] at hv
    have:=(World.ownsRow.lt hd.wrow g hv).2
    omega
  · rw [e] at hv;cases hv
  · rw [e] at hv;cases hv
  · rw [e] at hv;cases hv
theorem TS.newI {V:PV} {K:Pgs} {pk m:Nat} {A:Nat→PgV} {fl:List Nat} {pages:Nat} (h:TS w B D Gp V K pk m A fl pages) {g:Nat} (hg:w.heap.size≤g):¬ V.b.vo.ownBlock=some g:=fun e=>by
  obtain ⟨C,h1,h2⟩:=h.po
  have:=(h1.pp.rowblk e).2.2
  omega
theorem St2.keep2 {w0:World} {V V':PV} {o o':Option Nat} (h:St2 w0 w B V V') (hg:But2 w w' o o') (h1:∀ c,o=some c→w0.heap.size≤c) (h2:∀ c,o'=some c→w0.heap.size≤c) (hB:B≤w0.heap.size):St2 w0 w' B V V':=by
  have st:∀ b,b<w0.heap.size→w'.heap[b]? = w.heap[b]?:=fun b hb=>hg.block b (Nat.lt_of_lt_of_le hb h.bel.size) (fun e=>by have:=h1 b e.symm;omega) (fun e=>by have:=h2 b e.symm;omega)
  exact ⟨⟨⟨hg.os.trans h.bel.os,hg.tape.trans h.bel.tape,hg.output.trans h.bel.output,Nat.le_trans h.bel.size hg.size,fun b hb=>(st b (Nat.lt_of_lt_of_le hb hB)).trans (h.bel.block b hb)⟩,fun b hb hf hm=>(st b hb).trans (h.bel.far b hb hf hm),h.bel.maps,⟨fun d=>(h.bel.u.disk d).of (st B d.lt),fun d b hb hu hn=>(st b hb).trans (h.bel.u.stay d b hb hu hn),fun d b hb hu ho=>h.bel.u.rows d b hb hu (ho.of (st B d.lt))⟩⟩,h.nf⟩
end
/- the pages of a long value, one by one -/
theorem valN_at:∀ (ps:List Nat) (cs:List ByteArray),ps.length=cs.length→∀ j (h:j<ps.length) (h':j<cs.length),(ps[j],(⟨5,(ps.drop (j+1)).headD 0,[cs[j]]⟩:PgV)) ∈ valN ps cs
  | p :: ps,c :: cs,_,0,_,_=>by simp [valN]
  | p :: ps, c :: cs, h, j + 1, h1, h2 => by
    simp only [valN,List.getElem_cons_succ,List.drop_succ_cons,List.mem_cons]
    exact .inr (valN_at ps cs (by simpa using h) j (by simpa using h1) (by simpa using h2))
theorem piece_at (v:ByteArray) {j:Nat} (h:j<(piecesV v).length):(piecesV v)[j]=v.extract (1008 * j) (min (1008 * j+1008) v.size):=by
  have:=piece_drop v (i:=j) (by rw [← piece_len];exact h)
  rw [List.drop_eq_getElem_cons h] at this
  injection this
/- the bytes of the first pieces -/
def bsV (v:ByteArray) (j:Nat):List UInt8:=v.data.toList.take (1008 * j)
theorem bsV_len (v:ByteArray) (j:Nat):(bsV v j).length=min (1008 * j) v.size:=by unfold bsV;rw [List.length_take];rfl
theorem bsV_next (v:ByteArray) (j:Nat):bsV v j ++ (v.extract (1008 * j) (min (1008 * j+1008) v.size)).data.toList=bsV v (j+1):=by
  unfold bsV
  rw [ByteArray.data_extract,Array.toList_extract,List.extract_eq_take_drop]
  have hl:v.data.toList.length=v.size:=rfl
  have e:1008 * (j+1)=1008 * j+1008:=by omega
  rw [e,List.take_add]
  congr 1
  apply List.ext_getElem?
  intro i
  simp only [List.getElem?_take,List.getElem?_drop]
  split
  · rename_i h1
    rw [if_pos (by omega)]
  · rename_i h1
    split
    · rename_i h2
      rw [List.getElem?_eq_none (by rw [hl];omega)]
    · rfl
theorem bsV_all (v:ByteArray) {j:Nat} (h:v.size≤1008 * j):(⟨(bsV v j).toArray⟩:ByteArray)=v:=by
  unfold bsV
  rw [List.take_of_length_le (by show v.size≤_;exact h)]
end Go.Proofs.YtmgjdjjfeapcdaaGreat
namespace Go.Proofs.YtmgjdjjfeapcdaaGreat
open Go.RowKit Go.Lib Go.Maps Go.Sort
attribute [local go_sem ↓] Go.wp_at_zero Go.wp_at_succ
theorem infoI8:(Tryz.prog.info? 3).map (fun i=>(i.zero,i.size,i.bytes))=some (some (.int .i64 0),1,8):=by kernel_rfl
def intsN (l:List Nat):List Value:=l.map fun (n:Nat)=>Value.int .i64 (n:Int)
structure FoS (w X:World) (B D Gp:Nat) (V0 V:PV) (K:Pgs) (pk m:Nat) (A:Nat→PgV) (fl:List Nat) (pages:Nat) (v pv:Value) (bs:List UInt8) (ps:List Nat):Prop where
  ts:TS X B D Gp V K pk m A fl pages
  st:St2 w X B V0 V
  bd:BdV X w.heap.size w.heap.size v bs
  bu:∀ g,v.ownBlock=some g→¬ ownB X B g
  pr:X.ownsRow w.heap.size 3 1 pv ps.length (intsN ps)
  pi:∀ g,pv.ownBlock=some g→¬ V.b.vo.ownBlock=some g
section
variable {w X Y:World} {B D Gp:Nat} {V0 V V':PV} {K:Pgs} {pk m:Nat} {A:Nat→PgV} {fl:List Nat} {pages:Nat} {v pv:Value} {bs:List UInt8} {ps:List Nat}
theorem BdV.stay {B0 b:Nat} (h:BdV X B0 b v bs) (hs:∀ (c:Nat) (cs:Array Value) (t:TypeId),X.heap[c]? = some (.cells cs t (0,0))→tyQ t=false→Y.heap[c]? = some (.cells cs t (0,0))) (hr:Y.ownsRow B0 5 1 v bs.length (Go.Lib.byteCells bs)):BdV Y B0 b v bs:=by
  obtain ⟨p,hp,hb⟩:=h.blk
  exact ⟨⟨p,hp,hs _ _ _ hb (by decide)⟩,hr⟩
/- the pool works -/
theorem FoS.step (h:FoS w X B D Gp V0 V K pk m A fl pages v pv bs ps) (ht:TS Y B D Gp V' K pk m A fl pages) (hs:St2 X Y B V V'):FoS w Y B D Gp V0 V' K pk m A fl pages v pv bs ps:=by
  obtain ⟨u1,u2⟩:=h.ts.stayU hs h.bd.row h.bu
  obtain ⟨i1,i2⟩:=h.ts.stayI hs h.pr h.pi
  exact ⟨ht,h.st.trans hs,h.bd.stay (fun c cs t hc htt=>h.ts.stay hs hc htt) u1,u2,i1,i2⟩
theorem FoS.below (h:FoS w X B D Gp V0 V K pk m A fl pages v pv bs ps) (hb:Below X.heap.size X Y):FoS w Y B D Gp V0 V K pk m A fl pages v pv bs ps:=h.step (h.ts.below hb).1 (h.ts.below hb).2
theorem row_isC {base n:Nat} {e:TypeId} {xs:List Value} (h:X.ownsRow base e 1 v n xs) {g:Nat} (hg:v.ownBlock=some g):isC X g e:=by
  rcases h.2 with ⟨q,_⟩ | ⟨g',cap,cur,q,_,hgg,_⟩
  · rw [q] at hg;cases hg
  · rw [q] at hg
    injection hg with hg
    have hg:g'=g:=hg
    subst hg
    exact ⟨_,hgg⟩
theorem FoS.bpos (h:FoS w X B D Gp V0 V K pk m A fl pages v pv bs ps):w.heap.size<X.heap.size:=by
  obtain ⟨p,hp,hb⟩:=h.bd.blk
  exact (Array.getElem?_eq_some_iff.1 hb).1
/- the builder is written -/
theorem FoS.write (h:FoS w X B D Gp V0 V K pk m A fl pages v pv bs ps) {v':Value} {bs':List UInt8} (hb:BdV Y w.heap.size w.heap.size v' bs') (hg:But2 X Y (some w.heap.size) v.ownBlock) (hn:newB X v v') (hB:B≤w.heap.size):FoS w Y B D Gp V0 V K pk m A fl pages v' pv bs' ps:=by
  obtain ⟨p,hp,hbb⟩:=h.bd.blk
  have hk:Kpt X Y B V.b.vo:=⟨hg.size,fun c hc hl=>hg.block c hc (fun e=>hl (by injection e with e;subst e;exact .inl ⟨_,_,hbb,by decide⟩)) (fun e=>hl (by
    obtain ⟨cs,hcs⟩:=row_isC h.bd.row e.symm
    exact .inr (.inl ⟨⟨cs,_,hcs⟩,h.bu c e.symm⟩)))⟩
  have hd:=h.ts.isD
  have hBlt:=hd.lt
  have hBk:Y.heap[B]? = X.heap[B]?:=by
    refine hk.keep B hBlt ?_
    obtain ⟨cu,f,hd⟩:=hd
    exact cells_tight hd (by decide) (by decide) (fun e=>absurd e (by decide))
  refine ⟨h.ts.keptN hk,h.st.keep2 hg (fun c e=>by injection e with e;omega) (fun c e=>(World.ownsRow.lt h.bd.row c e).1) hB,hb,fun g hg' ho=>?_,row_keep h.pr fun g hg'=>?_,h.pi⟩
  · rcases hn with e | ⟨g',e,hle⟩
    · rw [e] at hg'
      exact h.bu g hg' (ho.of hBk)
    · rw [e] at hg'
      injection hg' with hg'
      subst hg'
      exact h.ts.newU hk hle ho
  · obtain ⟨cs,hcs⟩:=row_isC h.pr hg'
    refine hg.block g (World.ownsRow.lt h.pr g hg').2 (fun e=>?_) (fun e=>?_)
    · injection e with e
      subst e
      rw [hcs] at hbb
      injection hbb with hbb
      injection hbb with _ hbb _
      exact absurd hbb (by decide)
    · obtain ⟨cu,hcu⟩:=row_isC h.bd.row e.symm
      rw [hcs] at hcu
      injection hcu with hcu
      injection hcu with _ hcu _
      exact absurd hcu (by decide)
/- a number goes to the list of pages -/
theorem FoS.app (h:FoS w X B D Gp V0 V K pk m A fl pages v pv bs ps) {pv':Value} {n:Nat} (hg:X.grownBy Y pv.ownBlock) (ho:Y.ownsRow w.heap.size 3 1 pv' (ps.length+1) (intsN ps ++ [.int .i64 (n:Int)])) (hn:pv'.ownBlock=pv.ownBlock∨pv'.ownBlock=some X.heap.size) (hB:B≤w.heap.size):FoS w Y B D Gp V0 V K pk m A fl pages v pv' bs (ps ++ [n]):=by
  obtain ⟨p,hp,hbb⟩:=h.bd.blk
  have hk:Kpt X Y B V.b.vo:=⟨hg.size,fun c hc hl=>hg.block c hc (fun e=>hl (by
    obtain ⟨cs,hcs⟩:=row_isC h.pr e.symm
    exact .inr (.inr ⟨⟨cs,hcs⟩,h.pi c e.symm⟩)))⟩
  have hd:=h.ts.isD
  have hBk:Y.heap[B]? = X.heap[B]?:=by
    refine hk.keep B hd.lt ?_
    obtain ⟨cu,f,hd⟩:=hd
    exact cells_tight hd (by decide) (by decide) (fun e=>absurd e (by decide))
  have hne:∀ (c:Nat) (t:TypeId) (cs:Array Value),X.heap[c]? = some (.cells cs t (0,0))→¬ t=3→Y.heap[c]? = some (.cells cs t (0,0)):=fun c t cs hc ht=>(hg.block c (Array.getElem?_eq_some_iff.1 hc).1 (fun e=>by
    obtain ⟨cu,hcu⟩:=row_isC h.pr e.symm
    rw [hc] at hcu
    injection hcu with hcu
    injection hcu with _ hcu _
    exact ht hcu)).trans hc
  refine ⟨h.ts.keptN hk,?_,⟨⟨p,hp,hne _ _ _ hbb (by decide)⟩,row_keep h.bd.row fun g hg'=>?_⟩,fun g hg' ho'=>h.bu g hg' (ho'.of hBk),?_,fun g hg'=>?_⟩
  · exact h.st.keep2 (o':=none) ⟨hg.os,hg.tape,hg.output,hg.size,fun c hc h1 _=>hg.block c hc h1⟩ (fun c e=>(World.ownsRow.lt h.pr c e).1) (fun c e=>by cases e) hB
  · obtain ⟨cs,hcs⟩:=row_isC h.bd.row hg'
    rw [hne _ _ _ hcs (by decide),hcs]
  · rw [List.length_append]
    simp only [intsN,List.map_append,List.map_cons,List.map_nil,List.length_cons,List.length_nil]
    exact ho
  · rcases hn with e | e
    · rw [e] at hg';exact h.pi g hg'
    · rw [e] at hg'
      injection hg' with hg'
      subst hg'
      exact h.ts.newI (Nat.le_refl _)
end
theorem long_cell {i:It} (h:okI i) (hp:¬ i.pgs=[]) (hs:∀ p ∈ i.pgs,p<60000) :
    (kS (cellI i)≤(cellI i).size∧(cellI i).size≤240∧4≤(cellI i).size)∧(restB (cellI i)).size=7∧bytS (restB (cellI i)) 0=1∧bytS (restB (cellI i)) 1 * 256+bytS (restB (cellI i)) 2=i.val.size∧numB (cellI i) ((cellI i).size - 4)=i.pgs.headD 0∧i.pgs.length=cutsN i.val∧0<i.val.size:=by
  obtain ⟨k1,k2,k3,k4⟩:=cellI_key h
  have hsz:=cellI_sz h
  have hl:=h.pgs
  have hk:=h.key
  have hv:=h.val
  cases hq:i.pgs with
  | nil=>exact absurd hq hp
  | cons p r =>
    have hr:restI i=⟨#[1,(i.val.size / 256).toUInt8,i.val.size.toUInt8]⟩ ++ fourB p:=by unfold restI;rw [hq]
    have hc:cellI i=longB i.key i.val.size p:=by unfold cellI;rw [hq]
    have h7:(restI i).size=7:=by rw [hr,ByteArray.size_append,fourB_sz];rfl
    have hne:¬ 2+i.key.size+i.val.size≤240:=fun e=>by rw [if_pos e,hq] at hl;simp at hl
    rw [if_neg hne] at hl
    have b0:bytS (restI i) 0=1:=by rw [hr,byt_left (by show 0<3;decide)];rfl
    have b1:bytS (restI i) 1=i.val.size / 256 % 256:=by rw [hr,byt_left (by show 1<3;decide)];rfl
    have b2:bytS (restI i) 2=i.val.size % 256:=by rw [hr,byt_left (by show 2<3;decide)];rfl
    refine ⟨⟨k2,hsz,?_⟩,by rw [k4,h7],by rw [k4,b0],by rw [k4,b1,b2];omega,?_,by rw [← hq,hl];rfl,by have:=hk.2;omega⟩
    · rw [cellI_eq,ByteArray.size_append,h7];omega
    · rw [hc]
      exact num_long _ _ (by have:=hs p (by rw [hq];simp);omega)
/- the pages of an item -/
theorem nodI_at {A:Nat→PgV} {i:It} (hA:∀ q ∈ nodI i,A q.1=q.2) (hl:i.pgs.length=cutsN i.val) {j:Nat} (hj:j<i.pgs.length):A i.pgs[j]=⟨5,(i.pgs.drop (j+1)).headD 0,[i.val.extract (1008 * j) (min (1008 * j+1008) i.val.size)]⟩:=by
  have hj':j<(piecesV i.val).length:=by rw [piece_len,← hl];exact hj
  have:=hA _ (valN_at i.pgs (piecesV i.val) (by rw [piece_len];exact hl) j hj hj')
  rw [piece_at _ hj'] at this
  exact this
theorem headD_drop {l:List Nat} {j:Nat} (h:j<l.length):(l.drop j).headD 0=l[j]:=by rw [List.drop_eq_getElem_cons h];rfl
set_option maxRecDepth 100000 in
theorem clenB {w:World} {B b:Nat} {v:Value} {bs:List UInt8} (h:BdV w B b v bs):Calls Tryz.prog 187 #[(.pointer (some ⟨b,0,none⟩))] w fun e w'=>e=.returned (.int .i64 (bs.length:Int))∧w'=w:=by
  obtain ⟨p,_,hb⟩:=h.blk
  obtain ⟨a,c,rfl⟩:∃ a c,v=.slice a bs.length c:=by
    rcases h.row.2 with ⟨e,h0⟩ | ⟨g,cap,cur,e,_⟩
    · exact ⟨none,0,by rw [e,h0]⟩
    · exact ⟨_,_,e⟩
  have c1:w.cell? ⟨b,1,none⟩=some (.slice a bs.length c):=by simp [World.cell?,hb]
  clear h hb
  go_enter Tryz.func187,Tryz.ntmps187
  go_wp2
  go_ret
  exact ⟨rfl,rfl⟩
def lenS:Value→Nat
  | .slice _ n _=>n
  | _=>0
def foPost (w:World) (B D Gp:Nat) (V:PV) (K:Pgs) (pk m:Nat) (A:Nat→PgV) (fl:List Nat) (pages:Nat) (ps:List Nat) (s:Value) (w':World):Prop:=
  ∃ V',TS w' B D Gp V' K pk m A fl pages∧St2 w w' B V V'∧w'.ownsRow w.heap.size 3 1 s ps.length (intsN ps)∧∀ g,s.ownBlock=some g→¬ V'.b.vo.ownBlock=some g
section
variable {w w':World} {B D Gp:Nat} {V V':PV} {K:Pgs} {pk m:Nat} {A:Nat→PgV} {fl:List Nat} {pages tb root:Nat}
set_option maxRecDepth 20000 in
set_option maxHeartbeats 2000000 in
theorem cfollow (h:TS w B D Gp V K pk m A fl pages) (hm:m≤40000) (ht:TB w tb Gp root) (i:It) (hi:okI i) (hp:¬ i.pgs=[]) (hs:∀ p ∈ i.pgs,p<pages) (hA:∀ q ∈ nodI i,A q.1=q.2) :
    Calls Tryz.prog 160 #[(.pointer (some ⟨tb,0,none⟩)),.string (cellI i)] w fun e w'=>∃ s,e=.returned (.tuple #[.string i.val,s])∧foPost w B D Gp V K pk m A fl pages i.pgs s w':=by
  have hpg:=h.flsmall.2
  obtain ⟨⟨f1,f2,f3⟩,f4,f5,f6,f7,f8,f9⟩:=long_cell hi hp (fun p hp=>by have:=hs p hp;omega)
  have HP:=hide (fun (Y:World)=>cpageOf (cellI i) Y f3 (by omega))
  have HL:=hide (fun (Y:World)=>clongSize (cellI i) Y f1 (by omega) (by omega))
  rw [f7] at HP
  rw [f6] at HL
  have HA:=hide (fun (j:Nat) (hj:j<i.pgs.length)=>nodI_at hA f8 hj)
  have hb:Below w.heap.size w (w.alloc (.cells #[.pointer none,.slice none 0 0] 218)):=((Below.refl _ _).alloc (Nat.le_refl _) _)
  have H0:Hid (FoS w (w.alloc (.cells #[.pointer none,.slice none 0 0] 218)) B D Gp V V K pk m A fl pages (.slice none 0 0) (.slice none 0 0) [] []):=⟨(h.below hb).1,(h.below hb).2,⟨⟨_,.inl rfl,World.alloc_heap_new w _⟩,World.ownsRow_nil _ _ _ _⟩,(fun g hg=>by cases hg),World.ownsRow_nil _ _ _ _,(fun g hg=>by cases hg)⟩
  have HB:=hide (show B≤w.heap.size from h.lo)
  have HT:=hide (show TS w B D Gp V K pk m A fl pages∧TB w tb Gp root from ⟨h,ht⟩)
  obtain ⟨c,hc⟩:∃ c,cellI i=c:=⟨_,rfl⟩
  rw [hc] at HP HL ⊢
  have HI:=hide (show okI i∧i.pgs.length=cutsN i.val∧0<i.val.size∧(∀ p ∈ i.pgs,p<pages)∧pages≤59000 from ⟨hi,f8,f9,hs,hpg⟩)
  have hsz:=hi.val
  obtain ⟨p0,hp0⟩:∃ p0,i.pgs.headD 0=p0:=⟨_,rfl⟩
  rw [hp0] at HP
  have HP0:=hide (hp0)
  clear hp0
  obtain ⟨z,hz⟩:∃ z,i.val.size=z:=⟨_,rfl⟩
  rw [hz] at HL hsz
  have HZ:=hide (hz)
  clear h ht hi hp hs hA f1 f2 f3 f4 f5 f6 f7 f8 f9 hb hpg hc hz
  go_enter Tryz.func160,Tryz.ntmps160
  go_wp2_with fail
  refine (HP.out _).mono ?_
  rintro e w1 ⟨rfl,hw⟩;rw [hw];clear hw
  go_wp2_with fail
  go_loopw [7,8] (fun x7 x8 X=>∃ (j:Nat) (Vi:PV) (v:Value),x8=.int .i64 ((i.pgs.drop j).headD 0:Int)∧j≤i.pgs.length∧Hid (FoS w X B D Gp V Vi K pk m A fl pages v x7 (bsV i.val j) (i.pgs.take j))) (fun x7 _ _=>i.pgs.length - lenS x7)
  case atStart=>exact ⟨0,V,.slice none 0 0,(by rw [← HP0.out];rfl),Nat.zero_le _,(by show FoS _ _ _ _ _ _ _ _ _ _ _ _ _ _ _ (bsV i.val 0) (i.pgs.take 0);have:=H0.out;simpa [bsV] using this)⟩
  case round =>
    obtain ⟨j,Vi,v,rfl,hj,HF⟩:=hrel
    have HLB:=hide (clenB HF.out.bd)
    rw [bsV_len,HZ.out] at HLB
    have hcut:i.pgs.length=(z+1007) / 1008:=by rw [HI.out.2.1];unfold cutsN;rw [HZ.out]
    obtain ⟨nx,hnx⟩:∃ nx,(i.pgs.drop j).headD 0=nx:=⟨_,rfl⟩
    rw [hnx]
    have HNX:=hide (hnx)
    clear hnx
    by_cases hjc:j<i.pgs.length
    · have hlt:((min (1008 * j) z:Nat):Int)<(z:Int):=by omega
      have HJ:=hide (show j<i.pgs.length∧i.pgs.length=(z+1007) / 1008 from ⟨hjc,hcut⟩)
      have hnp:nx<pages:=by rw [← HNX.out,headD_drop hjc];exact HI.out.2.2.2.1 _ (List.getElem_mem hjc)
      generalize (min (1008 * j) z:Nat)=lb at *
      clear hj hcut hjc
      go_wp2_with fail
      refine HLB.out.mono ?_
      rintro e w1 ⟨rfl,hw⟩;rw [hw];clear hw
      go_wp2_with fail
      refine (HL.out _).mono ?_
      rintro e w2 ⟨rfl,q,hw2⟩
      have HF2:Hid (FoS w w2 B D Gp V Vi K pk m A fl pages v u7 (bsV i.val j) (i.pgs.take j)):=by
        rw [hw2]
        exact HF.out.below (drawnB wr q)
      have HRD:=hide (ctread HF2.out.ts (by omega) (HT.out.1.stayTB HF2.out.st HT.out.2) nx hnp)
      clear hw2
      go_wp2_with fail
      refine HRD.out.mono ?_
      rintro e w3 ⟨V3,v3,rfl,k1,k2,k3⟩
      have hAn:=HA.out j HJ.out.1
      rw [← headD_drop HJ.out.1,HNX.out] at hAn
      rw [hAn] at k3 ⊢
      obtain ⟨pc,hpc⟩:∃ pc,i.val.extract (1008 * j) (min (1008 * j+1008) i.val.size)=pc:=⟨_,rfl⟩
      rw [hpc] at k3 ⊢
      have hpz:pc.size=min (1008 * j+1008) z - 1008 * j:=by rw [← hpc,ByteArray.size_extract,HZ.out];have:=HJ.out;omega
      have hpne:0<pc.size:=by have:=HJ.out;omega
      have HPC:=hide (show bsV i.val j ++ pc.data.toList=bsV i.val (j+1) from by rw [← hpc];exact bsV_next _ _)
      obtain ⟨nn,hnn⟩:∃ nn,(i.pgs.drop (j+1)).headD 0=nn:=⟨_,rfl⟩
      simp only [hnn]
      have HNN:=hide (hnn)
      obtain ⟨g,cap,cur,rfl,hbg,hg,hc1,hc2,hc3,-,hc5⟩:=own_cur (l:=[pc]) (n:=1) k3 (by decide)
      have hcell:w3.cell? ⟨g,0,none⟩=some (.string pc):=by
        have:=hc5 0 (by decide)
        simp only [World.cell?,hg]
        simpa using this
      have HF3:=hide (HF2.out.step k1 k2)
      have hglt:g<w3.heap.size:=(Array.getElem?_eq_some_iff.1 hg).1
      have hw3:=HF3.out.bpos
      have hpe:pc.toList.isEmpty=false:=by
        cases he:pc.toList.isEmpty with
        | false=>rfl
        | true =>
          rw [List.isEmpty_iff,ByteArray.toList_eq] at he
          have h1:=congrArg List.length he
          rw [Array.length_toList] at h1
          have h0:pc.size=pc.data.size:=rfl
          rw [← h0,List.length_nil] at h1
          omega
      have hpl:pc.size≤1008:=by omega
      have hbl:(bsV i.val j).length≤3000:=by rw [bsV_len,HZ.out];omega
      have HF4:=hide (HF3.out.below (show Below w3.heap.size w3 (w3.alloc (.cells #[.int .i64 5,.int .i64 (nn:Int),.slice (some ⟨g,0,none⟩) 1 cap] 82)) from ((Below.refl _ _).alloc (Nat.le_refl _) _)))
      have HWB:=hide (cwriteB HF4.out.bd pc (by omega) (by simp;omega))
      have hv3:∀ b,v.ownBlock=some b→b<w3.heap.size:=fun b hb=>(World.ownsRow.lt HF3.out.bd.row b hb).2
      have HV3:=hide (hv3)
      have hu3:∀ b,u7.ownBlock=some b→b<w3.heap.size:=fun b hb=>(World.ownsRow.lt HF3.out.pr b hb).2
      have HU3:=hide (hu3)
      clear hAn hpc hpz hnn k1 k2 k3 hg hc5 HRD HF2 hc1 hc3 hc2 hpne hpl hbl hv3 hu3
      go_wp2_with fail
      refine HWB.out.mono ?_
      rintro e w4 ⟨rfl,v4,y1,y2,y3⟩
      rw [HPC.out] at y1
      have HF5:=hide (HF4.out.write y1 y2 y3 HB.out)
      have x9:w4.cell? ⟨w3.heap.size,1,none⟩=some (.int .i64 (nn:Int)):=by
        have e1:w4.heap[w3.heap.size]? = some (.cells #[.int .i64 5,.int .i64 (nn:Int),.slice (some ⟨g,0,none⟩) 1 cap] 82 (0,0)):=by
          rw [y2.block _ (by simp) (fun e=>by injection e with e;omega) (fun e=>by have:=HV3.out _ e.symm;omega)]
          exact World.alloc_heap_new w3 _
        simp [World.cell?,e1]
      have hs4:w3.heap.size<w4.heap.size:=by have:=y2.size;simp at this;omega
      clear y1 y2 y3 HWB HF4 HF3
      obtain ⟨i0,hi,hz0,hz1,hz2⟩:=info_parts infoI8
      go_wp2_with (at_builtin;refine wpList_append_own_at _ rfl (.tmp 41) (.tmp 43) 42 rfl w.heap.size 3 i0 (.int .i64 0) 1 8 Tryz.underlying42 hi hz0 hz1 hz2 rfl (by decide) _ (i.pgs.take j).length (intsN (i.pgs.take j)) rfl (World.ownsRow.alloc HF5.out.pr _) ⟨w4.heap.size,0,none⟩ 1 1 [.int .i64 (nx:Int)] rfl rfl (newsI _ _) (fun x hx=>by simp at hx;subst hx;rfl) ?c2 ?c3 ?c4 ?_)
      case c2=>rw [List.length_take];unfold maxLen;have:=HJ.out;omega
      case c3=>rw [List.length_take];have:=HJ.out;omega
      case c4=>simp;omega
      intro v5 w5 ho5 hg5 _ hn5
      rw [← List.length_take (i:=j) (l:=i.pgs)] at ho5
      have HF6:=hide ((HF5.out.below (show Below w4.heap.size w4 (w4.alloc (.cells #[.int .i64 (nx:Int)] 3)) from ((Below.refl _ _).alloc (Nat.le_refl _) _))).app (n:=nx) hg5 ho5 (by simpa using hn5) HB.out)
      have x10:w5.cell? ⟨w3.heap.size,1,none⟩=some (.int .i64 (nn:Int)):=by
        have e1:w5.heap[w3.heap.size]? = w4.heap[w3.heap.size]?:=(hg5.block w3.heap.size (by simp;omega) (fun e=>by have:=HU3.out _ e.symm;omega)).trans (heap_alloc_old w4 _ hs4)
        exact (World.cell?_of_block (a:=⟨w3.heap.size,1,none⟩) e1).trans x9
      obtain ⟨a5,c5,rfl⟩:∃ a5 c5,v5=.slice a5 ((i.pgs.take j).length+1) c5:=by
        rcases ho5.2 with ⟨_,e⟩ | ⟨g',cap',_,e,_⟩
        · simp at e
        · exact ⟨_,_,e⟩
      clear ho5 hg5 hn5 HF5 x9
      go_wp2_with fail
      go_roundw
      case rel =>
        refine ⟨j+1,V3,v4,by rw [HNN.out],HJ.out.1,?_⟩
        have e1:i.pgs.take (j+1)=i.pgs.take j ++ [nx]:=by rw [take_snoc HJ.out.1,← HNX.out,headD_drop HJ.out.1]
        show FoS _ _ _ _ _ _ _ _ _ _ _ _ _ _ _ (bsV i.val (j+1)) (i.pgs.take (j+1))
        rw [e1]
        exact HF6.out
      case measure =>
        obtain ⟨a7,c7,e7⟩:∃ a7 c7,u7=.slice a7 (i.pgs.take j).length c7:=by
          rcases HF.out.pr.2 with ⟨e,h0⟩ | ⟨g',cap',_,e,_⟩
          · exact ⟨none,0,by rw [e,h0]⟩
          · exact ⟨_,_,e⟩
        rw [e7]
        simp only [lenS,List.length_take]
        have:=HJ.out
        omega
    · have hje:j=i.pgs.length:=by omega
      have hlb:(min (1008 * j) z:Nat)=z:=by omega
      have hall:(⟨(bsV i.val j).toArray⟩:ByteArray)=i.val:=bsV_all _ (by rw [HZ.out];omega)
      rw [hlb] at HLB
      have hnx0:nx=0:=by rw [← HNX.out,hje];simp
      have hz0:0<z:=by have:=HI.out.2.2.1;rw [HZ.out] at this;exact this
      have hbne:bsV i.val j ≠ []:=fun e=>by
        have:=congrArg List.length e
        rw [bsV_len,HZ.out,hlb] at this
        simp at this
        omega
      have htk:i.pgs.take j=i.pgs:=by rw [hje];exact List.take_length
      have HE:=hide (show i.pgs.take j=i.pgs∧bsV i.val j ≠ []∧(⟨(bsV i.val j).toArray⟩:ByteArray)=i.val from ⟨htk,hbne,hall⟩)
      have HJ2:=hide (show (min (1008 * j) z:Nat)=z from hlb)
      subst hnx0
      clear hj hcut hjc hje hlb hall hz0 hbne htk
      go_wp2_with fail
      refine HLB.out.mono ?_
      rintro e w1 ⟨rfl,hw⟩;rw [hw];clear hw
      go_wp2_with fail
      refine (HL.out _).mono ?_
      rintro e w2 ⟨rfl,q,hw2⟩
      have HF2:Hid (FoS w w2 B D Gp V Vi K pk m A fl pages v u7 (bsV i.val j) (i.pgs.take j)):=by
        rw [hw2]
        exact HF.out.below (drawnB wr q)
      have HLB2:=hide (clenB HF2.out.bd)
      have hbz:(bsV i.val j).length=z:=by rw [bsV_len,HZ.out];have:=HJ2.out;omega
      rw [hbz] at HLB2
      clear hw2 hbz
      go_wp2_with fail
      refine HLB2.out.mono ?_
      rintro e w3 ⟨rfl,hw⟩;rw [hw];clear hw
      go_wp2_with fail
      refine (HL.out _).mono ?_
      rintro e w4 ⟨rfl,q4,hw4⟩
      have HF4:Hid (FoS w w4 B D Gp V Vi K pk m A fl pages v u7 (bsV i.val j) (i.pgs.take j)):=by
        rw [hw4]
        exact HF2.out.below (drawnB _ q4)
      have HSB:=hide (cstringB HF4.out.bd HE.out.2.1)
      rw [HE.out.2.2] at HSB
      clear hw4
      go_wp2_with fail
      refine HSB.out.mono ?_
      rintro e w5 ⟨rfl,hg5⟩
      have HFF:=HF4.out
      have hk:Kpt w4 w5 B Vi.b.vo:=⟨hg5.size,fun c hc hl=>hg5.block c hc (fun e=>hl (by
        obtain ⟨cs,hcs⟩:=row_isC HFF.bd.row e.symm
        exact .inr (.inl ⟨⟨cs,_,hcs⟩,HFF.bu c e.symm⟩)))⟩
      have hrow:w5.ownsRow w.heap.size 3 1 u7 i.pgs.length (intsN i.pgs):=by
        have hp:=HFF.pr
        rw [HE.out.1] at hp
        refine row_keep hp fun g hg=>hg5.block g (World.ownsRow.lt hp g hg).2 (fun e=>?_)
        obtain ⟨cs,hcs⟩:=row_isC HFF.bd.row e.symm
        obtain ⟨cu,hcu⟩:=row_isC hp hg
        rw [hcs] at hcu
        injection hcu with hcu
        injection hcu with _ hcu _
        exact absurd hcu (by decide)
      have HPO:Hid (foPost w B D Gp V K pk m A fl pages i.pgs u7 w5):=⟨Vi,HFF.ts.keptN hk,HFF.st.keep2 (o':=none) ⟨hg5.os,hg5.tape,hg5.output,hg5.size,fun c hc h1 _=>hg5.block c hc h1⟩ (fun c e=>(World.ownsRow.lt HFF.bd.row c e).1) (fun c e=>by cases e) HB.out,hrow,HFF.pi⟩
      clear HFF hk hrow hg5
      go_wp2
      go_ret2
      exact ⟨u7,rfl,HPO.out⟩
end
end Go.Proofs.YtmgjdjjfeapcdaaGreat
namespace Go.Proofs.YtmgjdjjfeapcdaaGreat
open Go.RowKit Go.Lib Go.Maps Go.Sort
attribute [local go_sem ↓] Go.wp_at_zero Go.wp_at_succ
theorem inline_cell {i:It} (h:okI i) (hp:i.pgs=[]):(kS (cellI i)≤(cellI i).size∧(cellI i).size≤240)∧0<(restB (cellI i)).size∧bytS (restB (cellI i)) 0=0:=by
  obtain ⟨k1,k2,k3,k4⟩:=cellI_key h
  have hr:restI i=⟨#[0]⟩ ++ i.val:=by unfold restI;rw [hp]
  refine ⟨⟨k2,cellI_sz h⟩,?_,?_⟩
  · rw [k4,hr,ByteArray.size_append]
    show 0<1+_
    omega
  · rw [k4,hr,bytS_one];rfl
theorem Hold.toFree {fl:List Nat} {pages n:Nat} {X:List Nat} (h:Hold fl pages (n :: X)):Hold (n :: fl) pages X:=(List.Perm.cons _ (List.perm_middle (l₁:=fl)).symm).trans h
def frvPost (w:World) (B D Gp:Nat) (V:PV) (K:Pgs) (pk m:Nat) (A:Nat→PgV) (pages:Nat) (ps X:List Nat) (w':World):Prop:=
  ∃ (V':PV) (A':Nat→PgV) (fl':List Nat),TS w' B D Gp V' K pk (m+2 * ps.length) A' fl' pages∧St2 w w' B V V'∧Hold fl' pages X∧∀ x,¬ x=0→¬ x ∈ ps→A' x=A x
section
variable {w w':World} {B D Gp:Nat} {V V':PV} {K:Pgs} {pk m:Nat} {A:Nat→PgV} {fl:List Nat} {pages tb root:Nat}
set_option maxRecDepth 20000 in
set_option maxHeartbeats 2000000 in
theorem cfreeValue (h:TS w B D Gp V K pk m A fl pages) (hm:m≤39000) (ht:TB w tb Gp root) (i:It) (hi:okI i) (hA:∀ q ∈ nodI i,A q.1=q.2) {X:List Nat} (hX:Hold fl pages (i.pgs ++ X)) :
    Calls Tryz.prog 101 #[(.pointer (some ⟨tb,0,none⟩)),.string (cellI i)] w fun e w'=>e=.returned (.tuple #[])∧frvPost w B D Gp V K pk m A pages i.pgs X w':=by
  by_cases hp:i.pgs=[]
  · obtain ⟨⟨f1,f2⟩,f3,f4⟩:=inline_cell hi hp
    have HI:=hide (fun (Y:World)=>cisInPages (cellI i) Y f1 (by omega) f3)
    rw [f4] at HI
    have HP:Hid (frvPost w B D Gp V K pk m A pages i.pgs X w):=⟨V,A,fl,by rw [hp];exact h,St2.refl _ _ _,by rw [hp] at hX;exact hX,fun _ _ _=>rfl⟩
    generalize cellI i=c at *
    clear h ht hi hA hX hp f1 f2 f3 f4
    go_enter Tryz.func101,Tryz.ntmps101
    go_wp2_with fail
    refine (HI.out _).mono ?_
    rintro e w1 ⟨rfl,hw⟩;rw [hw];clear hw
    go_wp2_with fail
    refine bodyPost_ret (results_none rfl _ _ _) rfl ?_
    exact ⟨rfl,HP.out⟩
  · have hpg:=h.flsmall.2
    have hs:∀ p ∈ i.pgs,p<pages:=fun p hp=>(hX.mem (n:=p) (by simp [hp])).2.1
    obtain ⟨⟨f1,f2,f3⟩,f4,f5,f6,f7,f8,f9⟩:=long_cell hi hp (fun p hp=>by have:=hs p hp;omega)
    have HI:=hide (fun (Y:World)=>cisInPages (cellI i) Y f1 (by omega) (by omega))
    rw [f5] at HI
    have HFO:=hide (cfollow h (by omega) ht i hi hp hs hA)
    have hlen:i.pgs.length≤3:=by rw [f8];unfold cutsN;have:=hi.val;omega
    have HT:=hide (show TS w B D Gp V K pk m A fl pages∧TB w tb Gp root∧Hold fl pages (i.pgs ++ X) from ⟨h,ht,hX⟩)
    have HM:=hide (show m≤39000∧i.pgs.length≤3 from ⟨hm,hlen⟩)
    obtain ⟨c,hc⟩:∃ c,cellI i=c:=⟨_,rfl⟩
    rw [hc] at HI HFO ⊢
    clear h ht hi hA hX hp hs f1 f2 f3 f4 f5 f6 f7 f8 f9 hpg hc hm
    generalize i.pgs=ps at *
    go_enter Tryz.func101,Tryz.ntmps101
    go_wp2_with fail
    refine (HI.out _).mono ?_
    rintro e w1 ⟨rfl,hw⟩;rw [hw];clear hw
    go_wp2_with fail
    refine HFO.out.mono ?_
    rintro e w2 ⟨s,rfl,V2,k1,k2,k3,k4⟩
    obtain ⟨a,cap,rfl⟩:∃ a cap,s=.slice a ps.length cap:=by
      rcases k3.2 with ⟨e,h0⟩ | ⟨g',cap',_,e,_⟩
      · exact ⟨none,0,by rw [e,h0]⟩
      · exact ⟨_,_,e⟩
    have H2:=hide (show TS w2 B D Gp V2 K pk m A fl pages∧St2 w w2 B V V2∧w2.ownsRow w.heap.size 3 1 (.slice a ps.length cap) ps.length (intsN ps)∧∀ g,(Value.slice a ps.length cap).ownBlock=some g→¬ V2.b.vo.ownBlock=some g from ⟨k1,k2,k3,k4⟩)
    clear k1 k2 k3 k4 HFO HI
    go_wp2_with fail
    go_loopw [19] (fun x19 Y=>∃ (j:Nat) (Vj:PV) (Aj:Nat→PgV) (flj:List Nat),x19=.int .i64 (j:Int)∧j≤ps.length∧Hid (TS Y B D Gp Vj K pk (m+2 * j) Aj flj pages∧St2 w Y B V Vj∧Y.ownsRow w.heap.size 3 1 (.slice a ps.length cap) ps.length (intsN ps)∧(∀ g,(Value.slice a ps.length cap).ownBlock=some g→¬ Vj.b.vo.ownBlock=some g)∧Hold flj pages (ps.drop j ++ X)∧∀ x,¬ x=0→¬ x ∈ ps→Aj x=A x)) (fun x19 _=>ps.length - (intOf x19).toNat)
    case atStart=>exact ⟨0,V2,A,fl,rfl,Nat.zero_le _,⟨H2.out.1,H2.out.2.1,H2.out.2.2.1,H2.out.2.2.2,HT.out.2.2,fun _ _ _=>rfl⟩⟩
    case round =>
      obtain ⟨j,Vj,Aj,flj,rfl,hj,HJ⟩:=hrel
      by_cases hjc:j<ps.length
      · have hlt:(j:Int)<(ps.length:Int):=by omega
        have h0:(0:Int)≤(j:Int):=by omega
        have hmem:=HJ.out.2.2.2.2.1.mem (n:=ps[j]) (List.mem_append_left _ (by rw [List.drop_eq_getElem_cons hjc];exact List.mem_cons_self ..))
        obtain ⟨pj,hpj⟩:∃ pj,ps[j]=pj:=⟨_,rfl⟩
        rw [hpj] at hmem
        obtain ⟨g,cap',ee,_,_⟩:=World.ownsRow.form HJ.out.2.2.1 (by omega)
        injection ee with ee1 ee2 ee3
        subst ee1 ee3
        have hc:=HJ.out.2.2.1.cellAt j (by omega)
        have hci:(intsN ps)[j]? = some (.int .i64 (pj:Int)):=by simp [intsN,hjc,hpj]
        rw [hci] at hc
        have HFR:=hide (ctfree HJ.out.1 (by have:=HM.out;omega) (HT.out.1.stayTB HJ.out.2.1 HT.out.2.1) pj hmem.1 hmem.2.1 hmem.2.2)
        have HPJ:=hide (show j<ps.length∧ps.drop j=pj :: ps.drop (j+1)∧pj ∈ ps∧0<pj from ⟨hjc,by rw [List.drop_eq_getElem_cons hjc,hpj],by rw [← hpj];exact List.getElem_mem hjc,hmem.1⟩)
        clear hmem hpj hci hj
        go_wp2_with fail
        refine HFR.out.mono ?_
        rintro e w3 ⟨rfl,V3,k1,k2⟩
        obtain ⟨q1,q2,q3,q4,q5,q6⟩:=HJ.out
        obtain ⟨r1,r2⟩:=q1.stayI k2 q3 q4
        have HN:Hid (TS w3 B D Gp V3 K pk (m+2 * (j+1)) (updA (updA Aj pj ⟨3,flj.headD 0,[]⟩) 0 ⟨4,pj,[]⟩) (pj :: flj) pages∧St2 w w3 B V V3∧w3.ownsRow w.heap.size 3 1 (.slice (some ⟨g,0,none⟩) ps.length cap) ps.length (intsN ps)∧(∀ g',(Value.slice (some ⟨g,0,none⟩) ps.length cap).ownBlock=some g'→¬ V3.b.vo.ownBlock=some g')∧Hold (pj :: flj) pages (ps.drop (j+1) ++ X)∧∀ x,¬ x=0→¬ x ∈ ps→updA (updA Aj pj ⟨3,flj.headD 0,[]⟩) 0 ⟨4,pj,[]⟩ x=A x):=by
          refine ⟨k1,q2.trans k2,r1,r2,?_,fun x h0 hx=>?_⟩
          · have:=q5
            rw [HPJ.out.2.1] at this
            exact Hold.toFree this
          · rw [updA_ne _ _ h0,updA_ne _ _ (fun e=>hx (by rw [e];exact HPJ.out.2.2.1))]
            exact q6 x h0 hx
        clear k1 k2 q1 q2 q3 q4 q5 q6 r1 r2 HFR hc
        go_wp2_with fail
        go_roundw
        case rel=>exact ⟨j+1,V3,_,_,by go_num,HPJ.out.1,HN⟩
        case measure=>simp [intOf];have:=HPJ.out.1;omega
      · have hje:j=ps.length:=by omega
        have hlt:¬ (j:Int)<(ps.length:Int):=by omega
        have HE:Hid (frvPost w B D Gp V K pk m A pages ps X wr):=by
          obtain ⟨q1,q2,q3,q4,q5,q6⟩:=HJ.out
          subst hje
          rw [List.drop_length] at q5
          exact ⟨Vj,Aj,flj,q1,q2,q5,q6⟩
        clear hj hjc hje
        go_wp2
        go_end0
        exact ⟨rfl,HE.out⟩
/- the cell of a new entry: its value's pages -/
def entPost (w:World) (B D Gp:Nat) (V:PV) (K:Pgs) (pk m:Nat) (A:Nat→PgV) (pages:Nat) (k v:ByteArray) (X:List Nat) (c:ByteArray) (w':World):Prop:=
  ∃ (i:It) (V':PV) (A':Nat→PgV) (fl':List Nat) (pages':Nat),i.key=k∧i.val=v∧okI i∧c=cellI i∧TS w' B D Gp V' K pk (m+9) A' fl' pages'∧St2 w w' B V V'∧Hold fl' pages' (i.pgs ++ X)∧(∀ q ∈ nodI i,A' q.1=q.2)∧(∀ x,¬ x=0→¬ x ∈ i.pgs→A' x=A x)∧pages'≤pages+3
set_option maxRecDepth 20000 in
set_option maxHeartbeats 2000000 in
theorem centry (h:TS w B D Gp V K pk m A fl pages) (hm:m≤39000) (hp:pages≤57000) (ht:TB w tb Gp root) (k v:ByteArray) (hk:okK k) (hv:v.size≤3000) {X:List Nat} (hX:Hold fl pages X) :
    Calls Tryz.prog 98 #[(.pointer (some ⟨tb,0,none⟩)),.string k,.string v] w fun e w'=>∃ c,e=.returned (.string c)∧entPost w B D Gp V K pk m A pages k v X c w':=by
  have HF:=hide (fun (Y:World)=>cfits k v.size Y (by have:=hk.2;omega) (by omega))
  by_cases hf:2+k.size+v.size≤240
  · have HC:=hide (fun (Y:World)=>cinline k v Y hk.2 hv)
    have hf':decide (2+k.size+v.size≤240)=true:=decide_eq_true hf
    rw [hf'] at HF
    have HP:=hide (fun (Y:World) (hY:Below w.heap.size w Y)=>(show entPost w B D Gp V K pk m A pages k v X (inlineB k v) Y from ⟨⟨k,v,[]⟩,V,A,fl,pages,rfl,rfl,⟨hk,hv,by show ([]:List Nat).length=_;rw [if_pos hf];rfl⟩,rfl,(h.below hY).1.mono (by omega),(h.below hY).2,hX,fun q hq=>by simp [nodI,valN] at hq,fun _ _ _=>rfl,by omega⟩))
    clear h ht hX hk hf hf'
    go_enter Tryz.func98,Tryz.ntmps98
    go_wp2_with fail
    refine (HF.out _).mono ?_
    rintro e w1 ⟨rfl,hw⟩;rw [hw];clear hw
    go_wp2_with fail
    refine (HC.out _).mono ?_
    rintro e w2 ⟨rfl,hb2⟩
    go_wp2
    go_ret
    exact ⟨_,rfl,HP.out _ hb2⟩
  · have hf':decide (2+k.size+v.size≤240)=false:=decide_eq_false hf
    rw [hf'] at HF
    have hv0:0<v.size:=by have:=hk.2;omega
    have HS:=hide (cstore h hm hp ht v hv0 hv hX)
    have HC:=hide (fun (n:Nat) (Y:World)=>clong k v.size n Y hk.2)
    have HK:=hide (show okK k∧¬ 2+k.size+v.size≤240∧v.size≤3000 from ⟨hk,hf,hv⟩)
    clear h ht hX hk hf hf'
    go_enter Tryz.func98,Tryz.ntmps98
    go_wp2_with fail
    refine (HF.out _).mono ?_
    rintro e w1 ⟨rfl,hw⟩;rw [hw];clear hw
    go_wp2_with fail
    refine HS.out.mono ?_
    rintro e w2 ⟨n,rfl,V2,ps,A2,fl2,pg2,y1,y2,y3,y4,y5,y6⟩
    have HY:=hide (show ps.headD 0=n∧TS w2 B D Gp V2 K pk (m+9) A2 fl2 pg2∧St2 w w2 B V V2∧StoR A ps (piecesV v) A2∧Hold fl2 pg2 (ps ++ X)∧pg2≤pages+3 from ⟨y1,y2,y3,y4,y5,y6⟩)
    clear y1 y2 y3 y4 y5 y6 HS
    go_wp2_with fail
    refine (HC.out _ _).mono ?_
    rintro e w3 ⟨rfl,hb3⟩
    have HP:Hid (entPost w B D Gp V K pk m A pages k v X (longB k v.size n) w3):=by
      obtain ⟨y1,y2,y3,y4,y5,y6⟩:=HY.out
      have hpl:ps.length=cutsN v:=by rw [y4.len,piece_len]
      have hps:¬ ps=[]:=fun e=>by rw [e] at hpl;unfold cutsN at hpl;simp at hpl;have:=HK.out;omega
      refine ⟨⟨k,v,ps⟩,V2,A2,fl2,pg2,rfl,rfl,⟨HK.out.1,HK.out.2.2,?_⟩,?_,(y2.below hb3).1,y3.trans (y2.below hb3).2,y5,y4.rep,y4.same,y6⟩
      · show ps.length=_
        rw [if_neg HK.out.2.1,hpl];rfl
      · unfold cellI
        cases ps with
        | nil=>exact absurd rfl hps
        | cons p r=>rw [← y1];rfl
    clear HY hb3
    go_wp2
    go_ret
    exact ⟨_,rfl,HP.out⟩
end
end Go.Proofs.YtmgjdjjfeapcdaaGreat
