/- relstorekeep: a shape along a walk, more for any entry, the bounds of children -/
import Derived.Test.YtmgjdjjfeapcdaaGreatMgAX
namespace Go.Proofs.YtmgjdjjfeapcdaaGreat
open Go.RowKit Go.Lib Go.Maps Go.Sort
/- a step of a region that draws: an append, with the place of the new row -/
theorem step_append_ownM {P:Program} {ops:Array Oper} {o:Oper} {a:Act} {w:World} {K:Act→World→Prop} {Q:Exit→Act→World→Prop} {E:Prop}
    (hg:o.guard=none) (s x:Operand) (t:TypeId) (hop:o.op=Op.call { callee:=Callee.builtin Builtin.append,args:=#[s,x],argTypes:=#[t,t] })
    (base:Nat) (e:TypeId) (i:TypeInfo) (z:Value) (size bytes:Nat) (h1:P.underlying t=some (.slice e)) (h2:P.info? e=some i) (h3:i.zero=some z) (h4:i.size=size) (h5:i.bytes=bytes) (h6:z.cells.size=size) (h7:0<size)
    (v:Value) (n:Nat) (xs:List Value) (hs:a.eval s=v) (hown:w.ownsRow base e size v n xs)
    (ad:Addr) (m c:Nat) (news:List Value) (hx:a.eval x=.slice (some ad) m c) (hn:news.length=m * size) (hc:∀ j u,news[j]? = some u→w.cell? (ad.add j)=some u) (h1c:∀ u ∈ news,u.oneCell'=true)
    (b1:n+m≤maxLen) (b2:(n+m) * bytes≤140737488355328) (hbase:base≤w.heap.size)
    (hK:∀ v' w',w'.ownsRow base e size v' (n+m) (xs ++ news)→w.grownBy w' v.ownBlock→(v'.ownBlock=v.ownBlock∨v'.ownBlock=some w.heap.size)→K (a.put o.dst v') w') :
    if Region.wanted o (yielded ops a.tmps)=true then Oper.wp P o a w K Q else E:=by
  have hw:Region.wanted o (yielded ops a.tmps)=true:=by simp [Region.wanted,hg]
  rw [if_pos hw]
  obtain ⟨v',w',hrun,r1,r2,_,r4⟩:=run_append_own_at (P:=P) w base t o.type e i z size bytes h1 h2 h3 h4 h5 h6 h7 v n xs hown ad m c news hn hc h1c b1 b2 hbase
  unfold Oper.wp
  simp [execOp,hop,resolve,invoke,builtin,hs,hx,hrun,Result.andThen]
  exact hK v' w' r1 r2 r4
def lastK (cl:List ByteArray):Nat→ByteArray
  | 0=>⟨#[]⟩
  | j+1=>keyB (tx cl j)
theorem used_takeS {cl:List ByteArray} {j:Nat} (h:j<cl.length):usedC (cl.take (j+1))=usedC (cl.take j)+(4+(tx cl j).size):=by
  rw [take_snoc h,tx_get h,usedC_app]
  simp [usedC]
theorem used_take_le (cl:List ByteArray) (j:Nat):usedC (cl.take j)≤usedC cl:=by
  have e:=usedC_app (cl.take j) (cl.drop j)
  rw [List.take_append_drop] at e
  omega
theorem empty_of {a:ByteArray} (h:¬ a=⟨#[]⟩):a.toList.isEmpty=false:=by
  cases he:a.toList.isEmpty with
  | false=>rfl
  | true =>
    refine absurd ?_ h
    rw [List.isEmpty_iff,ByteArray.toList_eq] at he
    cases a with
    | mk d =>
      have h1:=congrArg List.length he
      simp at h1
      subst h1
      rfl
/- a shape behind some of a walk that began at w -/
structure NoS (w X:World) (sp B D Gp:Nat) (V Vi:PV) (K:Pgs) (pk m:Nat) (A:Nat→PgV) (fl:List Nat) (pages k:Nat) (va vb vc vci:Value) (lv ln:List Nat) (ks:List ByteArray):Prop where
  ts:TS X B D Gp Vi K pk m A fl pages
  shp:Sp X sp Vi k va vb vci lv ln ks true
  hf:HF sp B w X V Vi vc vci
def nodP (w:World) (sp B D Gp:Nat) (V:PV) (K:Pgs) (pk m:Nat) (A:Nat→PgV) (fl:List Nat) (pages k:Nat) (vc:Value) (lv ln:List Nat) (ks:List ByteArray) (dep cnt:Nat) (lvs:List (Nat × Nat)) (es:List Ent) (e:Ending) (w':World):Prop:=
  e=.returned (.int .i64 (dep:Int))∧∃ (V':PV) (va' vb' vc':Value),NoS w w' sp B D Gp V V' K pk m A fl pages (k+cnt) va' vb' vc vc' (lv ++ lvs.map (·.1)) (ln ++ lvs.map (·.2)) (ks ++ es.map (·.1))
section
variable {w X X':World} {B D Gp:Nat} {V Vi:PV} {K:Pgs} {pk m:Nat} {A:Nat→PgV} {fl:List Nat} {pages sp k:Nat} {va vb vc vci:Value} {lv ln:List Nat} {ks:List ByteArray}
theorem NoS.below (h:NoS w X sp B D Gp V Vi K pk m A fl pages k va vb vc vci lv ln ks) (hb:Below X.heap.size X X'):NoS w X' sp B D Gp V Vi K pk m A fl pages k va vb vc vci lv ln ks:=by
  obtain ⟨t2,s2⟩:=h.ts.below hb
  exact ⟨t2,h.ts.staySp s2 h.shp,h.hf.trans (h.ts.hf s2 sp _)⟩
/- a row of texts beside a shape's own -/
theorem HF.row {w':World} {V':PV} {vc' v:Value} {lo n:Nat} {xs:List Value} (h:HF sp B w w' V V' vc vc') (hr:w.ownsRow lo 9 1 v n xs) (hn:∀ g,v.ownBlock=some g→¬ vc.ownBlock=some g):w'.ownsRow lo 9 1 v n xs∧∀ g,v.ownBlock=some g→¬ vc'.ownBlock=some g:=by
  have f:∀ g,v.ownBlock=some g→w'.heap[g]? = w.heap[g]?∧¬ vc'.ownBlock=some g:=fun g hg=>by
    obtain ⟨cs,hcs⟩:=row_isC hr hg
    obtain ⟨a,b⟩:=h.str g cs hcs (hn g hg)
    exact ⟨a.trans hcs.symm,b⟩
  exact ⟨row_keep hr fun g hg=>(f g hg).1,fun g hg=>(f g hg).2⟩
theorem HF.bx {w':World} {V':PV} {vc' x y z:Value} {b:Nat} (h:HF sp B w w' V V' vc vc') (hb:Bx3 w b x y z):Bx3 w' b x y z:=h.blk b _ _ hb (by decide) (by decide) (by decide)
/- appends to a shape's rows -/
theorem NoS.appA {Y:World} {n:Nat} {v':Value} (h:NoS w X sp B D Gp V Vi K pk m A fl pages k va vb vc vci lv ln ks) (hB:B≤sp) {o:Obj} (hg:(X.alloc o).grownBy Y va.ownBlock) (ho:Y.ownsRow sp 3 1 v' (lv.length+1) (intsN lv ++ [.int .i64 (n:Int)])) (hn:v'.ownBlock=va.ownBlock∨v'.ownBlock=some (X.heap.size+1)):NoS w (Y.setCell ⟨sp,1,none⟩ v') sp B D Gp V Vi K pk m A fl pages k v' vb vc vci (lv ++ [n]) ln ks∧HF sp B X (Y.setCell ⟨sp,1,none⟩ v') Vi Vi vci vci:=by
  have h2:=h.below (show Below X.heap.size X (X.alloc o) from ((Below.refl _ _).alloc (Nat.le_refl _) _))
  obtain ⟨a,b,c⟩:=Sp.appA h2.ts h2.shp hB hg ho (by simpa using hn)
  exact ⟨⟨a,b,h2.hf.trans c⟩,(h.ts.hf (h.ts.below (show Below X.heap.size X (X.alloc o) from ((Below.refl _ _).alloc (Nat.le_refl _) _))).2 sp vci).trans c⟩
theorem NoS.appB {Y:World} {n:Nat} {v':Value} (h:NoS w X sp B D Gp V Vi K pk m A fl pages k va vb vc vci lv ln ks) (hB:B≤sp) {o:Obj} (hg:(X.alloc o).grownBy Y vb.ownBlock) (ho:Y.ownsRow sp 3 1 v' (ln.length+1) (intsN ln ++ [.int .i64 (n:Int)])) (hn:v'.ownBlock=vb.ownBlock∨v'.ownBlock=some (X.heap.size+1)):NoS w (Y.setCell ⟨sp,2,none⟩ v') sp B D Gp V Vi K pk m A fl pages k va v' vc vci lv (ln ++ [n]) ks∧HF sp B X (Y.setCell ⟨sp,2,none⟩ v') Vi Vi vci vci:=by
  have h2:=h.below (show Below X.heap.size X (X.alloc o) from ((Below.refl _ _).alloc (Nat.le_refl _) _))
  obtain ⟨a,b,c⟩:=Sp.appB h2.ts h2.shp hB hg ho (by simpa using hn)
  exact ⟨⟨a,b,h2.hf.trans c⟩,(h.ts.hf (h.ts.below (show Below X.heap.size X (X.alloc o) from ((Below.refl _ _).alloc (Nat.le_refl _) _))).2 sp vci).trans c⟩
theorem NoS.appC {Y:World} {n:ByteArray} {v':Value} (h:NoS w X sp B D Gp V Vi K pk m A fl pages k va vb vc vci lv ln ks) (hB:B≤sp) {o:Obj} (hg:(X.alloc o).grownBy Y vci.ownBlock) (ho:Y.ownsRow sp 9 1 v' (ks.length+1) (valsS ks ++ [.string n])) (hn:v'.ownBlock=vci.ownBlock∨v'.ownBlock=some (X.heap.size+1)):NoS w (Y.setCell ⟨sp,3,none⟩ v') sp B D Gp V Vi K pk m A fl pages k va vb vc v' lv ln (ks ++ [n])∧HF sp B X (Y.setCell ⟨sp,3,none⟩ v') Vi Vi vci v':=by
  have h2:=h.below (show Below X.heap.size X (X.alloc o) from ((Below.refl _ _).alloc (Nat.le_refl _) _))
  obtain ⟨a,b,c⟩:=Sp.appC h2.ts h2.shp hB hg ho (by simpa using hn)
  exact ⟨⟨a,b,h2.hf.trans c⟩,(h.ts.hf (h.ts.below (show Below X.heap.size X (X.alloc o) from ((Below.refl _ _).alloc (Nat.le_refl _) _))).2 sp vci).trans c⟩
theorem restB_sz {c:ByteArray} (h:kS c≤c.size):(restB c).size=c.size - kS c:=by
  unfold restB
  rw [ByteArray.size_extract]
  omega
theorem cell_b0 {i:It} (hi:okI i):bytS (cellI i) 0=i.key.size:=by
  obtain ⟨a,b,-,-⟩:=cellI_key hi
  have e:(keyB (cellI i)).size=i.key.size:=by rw [a]
  have hk:kS (cellI i)=1+bytS (cellI i) 0:=rfl
  unfold keyB at e
  rw [ByteArray.size_extract] at e
  omega
theorem cmoreI (h:TS w B D Gp V K pk m A fl pages) (hm:m≤50000) (hp:Sp w sp V k va vb vc lv ln ks true) (hB:B≤sp) (i:It) (hi:okI i) (hs:∀ p ∈ i.pgs,0<p∧p<pages) (hA:∀ q ∈ nodI i,A q.1=q.2) (hk:k+i.pgs.length≤pages) :
    Calls Tryz.prog 56 #[(.pointer (some ⟨sp,0,none⟩)),(.pointer (some ⟨Gp,0,none⟩)),.int .i64 (i.key.size:Int),.string (restB (cellI i))] w fun e w'=>e=.returned (.tuple #[])∧∃ V',MoS w w' sp B D Gp V V' K pk m A fl pages k i.pgs.length va vb vc lv ln ks:=by
  by_cases hpg:i.pgs=[]
  · obtain ⟨⟨a1,a2⟩,a3,a4⟩:=inline_cell hi hpg
    have a5:=restB_sz a1
    have a6:=cell_b0 hi
    have a7:kS (cellI i)=1+bytS (cellI i) 0:=rfl
    refine (cmore1 (Gp:=Gp) hp (restB (cellI i)) i.key.size a3 a4 (by omega)).mono ?_
    rintro e w' ⟨rfl,rfl⟩
    rw [hp.same]
    exact ⟨rfl,V,h,by rw [hpg];exact hp,HF.refl _ _ _ _ _⟩
  · exact cmore2 h hm hp hB i hi hpg hs hA hk
theorem own_form {W:World} {lo n:Nat} {t:TypeId} {v:Value} {xs:List Value} (h:W.ownsRow lo t 1 v n xs):∃ a c,v=.slice a n c:=by
  rcases h.2 with ⟨e,h0⟩ | ⟨g,cap,_,e,_⟩
  · exact ⟨none,0,by rw [e,h0]⟩
  · exact ⟨_,_,e⟩
theorem NoS.cellsY {Y:World} {v:Value} (h:NoS w X sp B D Gp V Vi K pk m A fl pages k va vb vc vci lv ln ks) {o:Obj} (hg:(X.alloc o).grownBy Y v.ownBlock) (hv:¬ v.ownBlock=some sp):(Y.cell? ⟨sp,1,none⟩=some va∧Y.cell? ⟨sp,2,none⟩=some vb∧Y.cell? ⟨sp,3,none⟩=some vci)∧(∀ o,Y.frozen? ⟨sp,o,none⟩=false)∧sp<Y.heap.size:=by
  have h2:=h.below (show Below X.heap.size X (X.alloc o) from ((Below.refl _ _).alloc (Nat.le_refl _) _))
  have e:Y.heap[sp]? = some (.cells #[.int .i64 (k:Int),va,vb,vci,.bool true] 64 (0,0)):=(hg.block sp h2.shp.cells.2.2.2.2.2.2 (fun e=>hv e.symm)).trans h2.shp.blk
  exact ⟨⟨by simp [World.cell?,e],by simp [World.cell?,e],by simp [World.cell?,e]⟩,fun o=>by simp [World.frozen?,e],(Array.getElem?_eq_some_iff.1 e).1⟩
theorem bx_far {Y:World} {b lo n:Nat} {t:TypeId} {x y z v:Value} {xs:List Value} (hb:Bx3 X b x y z) (hr:X.ownsRow lo t 1 v n xs) (ht:¬ t=82) {o:Obj} (hg:(X.alloc o).grownBy Y v.ownBlock):Bx3 Y b x y z:=by
  have hl:=hb.lt
  have h1:(X.alloc o).heap[b]? = X.heap[b]?:=heap_alloc_old X _ hl
  refine ((hg.block b (by simp;omega) (fun e=>?_)).trans h1).trans hb
  obtain ⟨cs,hcs⟩:=row_isC hr e.symm
  have hb':X.heap[b]? = some (.cells #[x,y,z] 82 (0,0)):=hb
  rw [hb'] at hcs
  injection hcs with hcs
  injection hcs with _ hcs _
  exact ht hcs.symm
theorem cmoreC (h:TS w B D Gp V K pk m A fl pages) (hm:m≤50000) (hp:Sp w sp V k va vb vc lv ln ks true) (hB:B≤sp) (i:It) (hi:okI i) (hs:∀ p ∈ i.pgs,0<p∧p<pages) (hA:∀ q ∈ nodI i,A q.1=q.2) (hk:k+i.pgs.length≤pages) (c:ByteArray) (hc:c=cellI i) (b0:Nat) (hb0:bytS c 0=b0) :
    Calls Tryz.prog 56 #[(.pointer (some ⟨sp,0,none⟩)),(.pointer (some ⟨Gp,0,none⟩)),.int .i64 (b0:Int),.string (c.extract (1+b0) c.size)] w fun e w'=>e=.returned (.tuple #[])∧∃ V',MoS w w' sp B D Gp V V' K pk m A fl pages k i.pgs.length va vb vc lv ln ks:=by
  subst hc hb0
  have e:(cellI i).extract (1+i.key.size) (cellI i).size=restB (cellI i):=by
    unfold restB
    rw [show kS (cellI i)=1+bytS (cellI i) 0 from rfl,cell_b0 hi]
  rw [cell_b0 hi,e]
  exact cmoreI h hm hp hB i hi hs hA hk
theorem MoS.no {V':PV} {w':World} {j:Nat} (h:MoS X w' sp B D Gp Vi V' K pk m A fl pages k j va vb vci lv ln ks) (h0:HF sp B w X V Vi vc vci):NoS w w' sp B D Gp V V' K pk m A fl pages (k+j) va vb vc vci lv ln ks:=⟨h.ts,h.shp,h0.trans h.hf⟩
end
/- what stands between the bounds of children -/
theorem BS_at {α:Type} {P:ByteArray→ByteArray→α→Prop}:∀ (l:List (ByteArray × α)) (hi:ByteArray),BS P l hi→∀ (i:Nat) (h:i<l.length),P l[i].1 (nxt (l.drop (i+1)) hi) l[i].2
  | [],_,_,_,h=>absurd h (by simp)
  | p :: r,hi,hb,0,_=>hb.2.1
  | p :: r,hi,hb,i+1,h=>BS_at r hi hb.2.2.2 i (by simpa using h)
theorem BS_ok {α:Type} {P:ByteArray→ByteArray→α→Prop} {l:List (ByteArray × α)} {hi:ByteArray} (hb:BS P l hi) (i:Nat) (h:i+1<l.length):okK l[i+1].1:=by
  cases l with
  | nil=>simp at h
  | cons p r=>exact hb.2.2.1 _ (by simp)
theorem nxt_at {α:Type} (l:List (ByteArray × α)) (hi:ByteArray) (i:Nat) (h:i<l.length):nxt (l.drop i) hi=l[i].1:=by
  rw [List.drop_eq_getElem_cons h]
  rfl
theorem nxt_end {α:Type} (l:List (ByteArray × α)) (hi:ByteArray) (i:Nat) (h:l.length≤i):nxt (l.drop i) hi=hi:=by
  rw [List.drop_eq_nil_of_le h]
  rfl
end Go.Proofs.YtmgjdjjfeapcdaaGreat
