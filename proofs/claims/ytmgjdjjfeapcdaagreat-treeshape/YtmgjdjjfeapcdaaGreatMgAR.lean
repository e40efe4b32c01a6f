/- package tree: join, leaves and inner nodes alike -/
import Derived.Test.YtmgjdjjfeapcdaaGreatTrY
import Derived.Test.YtmgjdjjfeapcdaaGreatMgAQ
namespace Go.Proofs.YtmgjdjjfeapcdaaGreat
open Go.RowKit Go.Lib Go.Maps Go.Sort
section
variable {w w':World} {B D Gp:Nat} {V V':PV} {K:Pgs} {pk m:Nat} {A:Nat→PgV} {fl:List Nat} {pages tb root:Nat}
theorem cjoinRM (h:TS w B D Gp V K pk m A fl pages) (hm:m≤36000) (ht:TB w tb Gp root) {b0 b1 p0 pn:Nat} {v0 vn vs:NV} (l:List ByteArray) (kd:Nat) (hkd:kd=1∨kd=2)
    (hp:NDb w b0 b1 p0 v0) (htk:v0.taken=0) (hl0:0<v0.cells.length∧v0.cells.length≤1000) (hc0:kS (tx v0.cells 0)≤(tx v0.cells 0).size∧(tx v0.cells 0).size≤240) (hkz:(keyB (tx v0.cells 0)).size≤200)
    (hn:NRs w pn vn) (hbn:b1≤pn)
    (hch:∀ Y:World,TS Y B D Gp V K pk m A fl pages→TB Y tb Gp root→NDb Y b0 b1 p0 v0→Calls Tryz.prog 103 #[(.pointer (some ⟨tb,0,none⟩)),(.pointer (some ⟨p0,0,none⟩)),.int .i64 1] Y fun e w'=>∃ (V':PV) (q:Nat),e=.returned (.pointer (some ⟨q,0,none⟩))∧TS w' B D Gp V' K pk m A fl pages∧St2 Y w' B V V'∧ND w' Y.heap.size q vs∧Y.heap.size≤q)
    (hkn:vn.kind=kd) (hks:vs.kind=kd) (hn0:vn.cells.length≤400) (hs0:0<vs.cells.length∧vs.cells.length≤400)
    (hl:withL kd vn.cells (keyB (tx v0.cells 0)) vs.link vs.cells=l) (hu:usedC l≤1012) (hok:okP ⟨kd,(if kd=1 then vs.link else vn.link),l⟩)
    (hn1:0<vn.num∧vn.num<pages∧¬ vn.num ∈ fl) (hn2:0<vs.num∧vs.num<pages∧¬ vs.num ∈ fl) :
    Calls Tryz.prog 157 #[(.pointer (some ⟨tb,0,none⟩)),(.pointer (some ⟨p0,0,none⟩)),(.pointer (some ⟨pn,0,none⟩))] w fun e w'=>e=.returned (.tuple #[])∧∃ V',TS w' B D Gp V' K pk (m+3) (updA (updA (updA A vn.num ⟨kd,(if kd=1 then vs.link else vn.link),l⟩) vs.num ⟨3,fl.headD 0,[]⟩) 0 ⟨4,vs.num,[]⟩) (vs.num :: fl) pages∧TF b0 B w w' V V'∧NDb w' b0 w'.heap.size p0 { v0 with cells:=v0.cells.eraseIdx 0 }∧NRs w' p0 { v0 with cells:=v0.cells.eraseIdx 0 }:=by
  rcases hkd with rfl | rfl
  · exact cjoinR1M h hm ht l hp htk hl0 hc0 hkz hn hbn hch hkn hks hn0 hs0 hl hu hok hn1 hn2
  · exact cjoinR2M h hm ht l hp htk hl0 hc0 hkz hn hbn hch hkn hks hn0 hs0 hl hu hok hn1 hn2
theorem cjoinRS (h:TS w B D Gp V K pk m A fl pages) (hm:m≤36000) (ht:TB w tb Gp root) {b0 b1 p0 pn:Nat} {v0 vn vs:NV} (l:List ByteArray) (kd:Nat) (hkd:kd=1∨kd=2)
    (hp:NDb w b0 b1 p0 v0) (htk:v0.taken=0) (hl0:0<v0.cells.length∧v0.cells.length≤1000) (hc0:kS (tx v0.cells 0)≤(tx v0.cells 0).size∧(tx v0.cells 0).size≤240) (hkz:(keyB (tx v0.cells 0)).size≤200)
    (hn:NRs w pn vn) (hbn:b1≤pn)
    (hch:∀ Y:World,TS Y B D Gp V K pk m A fl pages→TB Y tb Gp root→NDb Y b0 b1 p0 v0→Calls Tryz.prog 103 #[(.pointer (some ⟨tb,0,none⟩)),(.pointer (some ⟨p0,0,none⟩)),.int .i64 1] Y fun e w'=>∃ (V':PV) (q:Nat),e=.returned (.pointer (some ⟨q,0,none⟩))∧TS w' B D Gp V' K pk m A fl pages∧St2 Y w' B V V'∧ND w' Y.heap.size q vs∧Y.heap.size≤q)
    (hkn:vn.kind=kd) (hks:vs.kind=kd) (hn0:vn.cells.length≤400) (hs0:0<vs.cells.length∧vs.cells.length≤400)
    (hl:withL kd vn.cells (keyB (tx v0.cells 0)) vs.link vs.cells=l) (hu:1012<usedC l) (hu2:usedC l≤100000) (hok:okP (shrL kd vn.link l)∧okP (shrR kd vs.link l)∧ShrOk kd l) (hkm:(keyB (tx l (midC l))).size≤200)
    (hn1:0<vn.num∧vn.num<pages∧¬ vn.num ∈ fl) (hn2:0<vs.num∧vs.num<pages∧¬ vs.num ∈ fl) :
    Calls Tryz.prog 157 #[(.pointer (some ⟨tb,0,none⟩)),(.pointer (some ⟨p0,0,none⟩)),(.pointer (some ⟨pn,0,none⟩))] w fun e w'=>e=.returned (.tuple #[])∧∃ V',TS w' B D Gp V' K pk (m+2) (updA (updA A vn.num (shrL kd vn.link l)) vs.num (shrR kd vs.link l)) fl pages∧TF b0 B w w' V V'∧NDb w' b0 w'.heap.size p0 { v0 with cells:=v0.cells.set 0 (childB (keyB (tx l (midC l))) vs.num) }:=by
  rcases hkd with rfl | rfl
  · exact cjoinR1S h hm ht l hp htk hl0 hc0 hkz hn hbn hch hkn hks hn0 hs0 hl hu hu2 hok hkm hn1 hn2
  · exact cjoinR2S h hm ht l hp htk hl0 hc0 hkz hn hbn hch hkn hks hn0 hs0 hl hu hu2 hok hkm hn1 hn2
theorem cjoinLM (h:TS w B D Gp V K pk m A fl pages) (hm:m≤36000) (ht:TB w tb Gp root) {b0 b1 p0 pn:Nat} {v0 vn vs:NV} (l:List ByteArray) (t:Nat) (kd:Nat) (hkd:kd=1∨kd=2)
    (hp:NDb w b0 b1 p0 v0) (htk:v0.taken=(t+1)) (hl0:t<v0.cells.length∧v0.cells.length≤1000) (hc0:kS (tx v0.cells t)≤(tx v0.cells t).size∧(tx v0.cells t).size≤240) (hkz:(keyB (tx v0.cells t)).size≤200)
    (hn:NRs w pn vn) (hbn:b1≤pn)
    (hch:∀ Y:World,TS Y B D Gp V K pk m A fl pages→TB Y tb Gp root→NDb Y b0 b1 p0 v0→Calls Tryz.prog 103 #[(.pointer (some ⟨tb,0,none⟩)),(.pointer (some ⟨p0,0,none⟩)),.int .i64 (t:Int)] Y fun e w'=>∃ (V':PV) (q:Nat),e=.returned (.pointer (some ⟨q,0,none⟩))∧TS w' B D Gp V' K pk m A fl pages∧St2 Y w' B V V'∧ND w' Y.heap.size q vs∧Y.heap.size≤q)
    (hkn:vn.kind=kd) (hks:vs.kind=kd) (hn0:vn.cells.length≤400) (hs0:0<vs.cells.length∧vs.cells.length≤400)
    (hl:withL kd vs.cells (keyB (tx v0.cells t)) vn.link vn.cells=l) (hu:usedC l≤1012) (hok:okP ⟨kd,(if kd=1 then vn.link else vs.link),l⟩)
    (hn1:0<vs.num∧vs.num<pages∧¬ vs.num ∈ fl) (hn2:0<vn.num∧vn.num<pages∧¬ vn.num ∈ fl) :
    Calls Tryz.prog 157 #[(.pointer (some ⟨tb,0,none⟩)),(.pointer (some ⟨p0,0,none⟩)),(.pointer (some ⟨pn,0,none⟩))] w fun e w'=>e=.returned (.tuple #[])∧∃ V',TS w' B D Gp V' K pk (m+3) (updA (updA (updA A vs.num ⟨kd,(if kd=1 then vn.link else vs.link),l⟩) vn.num ⟨3,fl.headD 0,[]⟩) 0 ⟨4,vn.num,[]⟩) (vn.num :: fl) pages∧TF b0 B w w' V V'∧NDb w' b0 w'.heap.size p0 { v0 with cells:=v0.cells.eraseIdx t }∧NRs w' p0 { v0 with cells:=v0.cells.eraseIdx t }:=by
  rcases hkd with rfl | rfl
  · exact cjoinL1M h hm ht l t hp htk hl0 hc0 hkz hn hbn hch hkn hks hn0 hs0 hl hu hok hn1 hn2
  · exact cjoinL2M h hm ht l t hp htk hl0 hc0 hkz hn hbn hch hkn hks hn0 hs0 hl hu hok hn1 hn2
theorem cjoinLS (h:TS w B D Gp V K pk m A fl pages) (hm:m≤36000) (ht:TB w tb Gp root) {b0 b1 p0 pn:Nat} {v0 vn vs:NV} (l:List ByteArray) (t:Nat) (kd:Nat) (hkd:kd=1∨kd=2)
    (hp:NDb w b0 b1 p0 v0) (htk:v0.taken=(t+1)) (hl0:t<v0.cells.length∧v0.cells.length≤1000) (hc0:kS (tx v0.cells t)≤(tx v0.cells t).size∧(tx v0.cells t).size≤240) (hkz:(keyB (tx v0.cells t)).size≤200)
    (hn:NRs w pn vn) (hbn:b1≤pn)
    (hch:∀ Y:World,TS Y B D Gp V K pk m A fl pages→TB Y tb Gp root→NDb Y b0 b1 p0 v0→Calls Tryz.prog 103 #[(.pointer (some ⟨tb,0,none⟩)),(.pointer (some ⟨p0,0,none⟩)),.int .i64 (t:Int)] Y fun e w'=>∃ (V':PV) (q:Nat),e=.returned (.pointer (some ⟨q,0,none⟩))∧TS w' B D Gp V' K pk m A fl pages∧St2 Y w' B V V'∧ND w' Y.heap.size q vs∧Y.heap.size≤q)
    (hkn:vn.kind=kd) (hks:vs.kind=kd) (hn0:vn.cells.length≤400) (hs0:0<vs.cells.length∧vs.cells.length≤400)
    (hl:withL kd vs.cells (keyB (tx v0.cells t)) vn.link vn.cells=l) (hu:1012<usedC l) (hu2:usedC l≤100000) (hok:okP (shrL kd vs.link l)∧okP (shrR kd vn.link l)∧ShrOk kd l) (hkm:(keyB (tx l (midC l))).size≤200)
    (hn1:0<vs.num∧vs.num<pages∧¬ vs.num ∈ fl) (hn2:0<vn.num∧vn.num<pages∧¬ vn.num ∈ fl) :
    Calls Tryz.prog 157 #[(.pointer (some ⟨tb,0,none⟩)),(.pointer (some ⟨p0,0,none⟩)),(.pointer (some ⟨pn,0,none⟩))] w fun e w'=>e=.returned (.tuple #[])∧∃ V',TS w' B D Gp V' K pk (m+2) (updA (updA A vs.num (shrL kd vs.link l)) vn.num (shrR kd vn.link l)) fl pages∧TF b0 B w w' V V'∧NDb w' b0 w'.heap.size p0 { v0 with cells:=v0.cells.set t (childB (keyB (tx l (midC l))) vn.num) }:=by
  rcases hkd with rfl | rfl
  · exact cjoinL1S h hm ht l t hp htk hl0 hc0 hkz hn hbn hch hkn hks hn0 hs0 hl hu hu2 hok hkm hn1 hn2
  · exact cjoinL2S h hm ht l t hp htk hl0 hc0 hkz hn hbn hch hkn hks hn0 hs0 hl hu hu2 hok hkm hn1 hn2
end
end Go.Proofs.YtmgjdjjfeapcdaaGreat
namespace Go.Proofs.YtmgjdjjfeapcdaaGreat
open Go.RowKit Go.Lib
theorem tx_map {α:Type} (f:α→ByteArray) {l:List α} {i:Nat} (h:i<l.length):tx (l.map f) i=f l[i]:=by
  rw [tx_get (by simpa using h),List.getElem_map]
/- a node's kids have small numbers -/
def smallK:(d:Nat)→T d→Prop
  | 0,_=>True
  | d+1,x=>∀ p ∈ x.kids,numT d p.2<60000
theorem small_of {d:Nat} {x:T d} (h:∀ q ∈ (nodT d x).tail,q.1<60000):smallK d x:=by
  cases d with
  | zero=>trivial
  | succ d =>
    intro p hp
    refine h (numT d p.2,pgT d p.2) ?_
    rw [nodT_s]
    simp only [nodS,List.mem_flatMap]
    exact ⟨p,hp,by rw [nodT_eq];simp⟩
theorem kind_cases (d:Nat):(d=0∧kindT d=1)∨(0<d∧kindT d=2):=by
  cases d with
  | zero=>exact .inl ⟨rfl,rfl⟩
  | succ d=>exact .inr ⟨by omega,rfl⟩
theorem kdn (d:Nat):¬ kindT (d+1)=1:=by show ¬ 2=1;decide
/- the halves of a node: their pages, and the key between -/
theorem spl_pg (d m r:Nat) (x:T d) {lo hi:ByteArray} (hb:Bnd d lo hi x) (hm:m<(cellsT d x).length) (hn:smallK d x) :
    pgT d (splT d m r x).1=⟨kindT d,if kindT d=1 then r else linkT d x,(cellsT d x).take m⟩ ∧
    pgT d (splT d m r x).2.2=(if kindT d=1 then ⟨1,linkT d x,(cellsT d x).drop m⟩ else ⟨2,numB (tx (cellsT d x) m) ((tx (cellsT d x) m).size - 4),(cellsT d x).drop (m+1)⟩) ∧
    (splT d m r x).2.1=keyB (tx (cellsT d x) m)∧okK (keyB (tx (cellsT d x) m))∧kS (tx (cellsT d x) m)≤(tx (cellsT d x) m).size∧(kindT d=2→4≤(tx (cellsT d x) m).size):=by
  obtain ⟨c1,c2⟩:=cells_spl d m r x
  have kd0:kindT 0=1:=rfl
  cases d with
  | zero =>
    have hl:m<x.its.length:=by simpa [cellsT] using hm
    have hi':=(BI_mem hb x.its[m] (List.getElem_mem hl)).1
    have ht:tx (cellsT 0 x) m=cellI x.its[m]:=tx_map cellI hl
    obtain ⟨k1,k2,-,-⟩:=cellI_key hi'
    rw [ht]
    refine ⟨?_,?_,?_,by rw [k1];exact hi'.key,k2,fun h=>by cases h⟩
    · show (⟨1,r,cellsT 0 (splT 0 m r x).1⟩:PgV)=_
      rw [c1,kd0,if_pos rfl]
    · show (⟨1,x.link,cellsT 0 (splT 0 m r x).2.2⟩:PgV)=_
      rw [c2,kd0,if_pos rfl];rfl
    · rw [k1]
      show (((x.its.drop m).head?).map (·.key)).getD _=_
      rw [List.drop_eq_getElem_cons hl];rfl
  | succ d =>
    obtain ⟨⟨p,s,e,hp⟩,hbs⟩:=hb
    have hl:m<s.length:=by simpa [cellsT,e] using hm
    have hcx:cellsT (d+1) x=s.map fun p=>childB p.1 (numT d p.2):=by simp [cellsT,e]
    have ht:tx (cellsT (d+1) x) m=childB s[m].1 (numT d s[m].2):=by rw [hcx];exact tx_map (fun p:ByteArray × T d=>childB p.1 (numT d p.2)) hl
    rw [e] at hbs
    have hok:okK s[m].1:=hbs.2.2.1 s[m] (List.getElem_mem hl)
    have hnum:numT d s[m].2<4294967296:=by have:=hn s[m] (by rw [e];exact List.mem_cons_of_mem _ (List.getElem_mem hl));omega
    obtain ⟨k1,k2,-,-⟩:=childB_key hok (numT d s[m].2)
    have hd:x.kids.drop (m+1)=s[m] :: s.drop (m+1):=by rw [e,List.drop_succ_cons,List.drop_eq_getElem_cons hl]
    rw [ht]
    refine ⟨?_,?_,?_,by rw [k1];exact hok,k2,fun _=>by rw [childB_sz];omega⟩
    · show (⟨2,linkT (d+1) (splT (d+1) m r x).1,cellsT (d+1) (splT (d+1) m r x).1⟩:PgV)=_
      rw [c1,if_neg (show ¬ kindT (d+1)=1 from kdn d)]
      simp only [linkT,splT,e,List.take_succ_cons];rfl
    · show (⟨2,linkT (d+1) (splT (d+1) m r x).2.2,cellsT (d+1) (splT (d+1) m r x).2.2⟩:PgV)=_
      rw [c2,if_neg (show ¬ kindT (d+1)=1 from kdn d),num_child _ hnum]
      simp only [linkT,splT,hd];rfl
    · rw [k1]
      show (((x.kids.drop (m+1)).head?).map (·.1)).getD _=_
      rw [hd];rfl
section
variable {d num:Nat} {s1 s2:List (ByteArray × T d)} {k:ByteArray} {x:T d}
/- the cells of a frame, read off its kids' numbers -/
def cellK (p:ByteArray × T d):ByteArray:=childB p.1 (numT d p.2)
theorem cells_kids (n:Nat) (l:List (ByteArray × T d)):cellsT (d+1) (⟨n,l⟩:Inn (T d))=l.tail.map cellK:=rfl
theorem cells_frm:cellsT (d+1) (frm num s1 k x s2)=(s1 ++ (k,x) :: s2).tail.map cellK:=rfl
theorem link_frm {a:T d} {m:List (ByteArray × T d)} (ha:numT d a=numT d x):linkT (d+1) (⟨num,s1 ++ (k,a) :: m⟩:Inn (T d))=linkT (d+1) (frm num s1 k x s2):=by
  cases s1 with
  | nil=>exact ha
  | cons p r=>rfl
theorem insL_mid (a b:List ByteArray) (x c:ByteArray):insL (a ++ x :: b) (a.length+1) c=a ++ x :: c :: b:=by
  unfold insL
  rw [show a ++ x :: b=(a ++ [x]) ++ b by simp,List.take_left' (by simp),List.drop_left' (by simp)]
  simp
/- .. behind a split -/
theorem cells_ins {a b:T d} {kb:ByteArray} (ha:numT d a=numT d x):cellsT (d+1) (⟨num,s1 ++ [(k,a),(kb,b)] ++ s2⟩:Inn (T d))=insL (cellsT (d+1) (frm num s1 k x s2)) s1.length (childB kb (numT d b)):=by
  rw [cells_kids,cells_frm]
  cases s1 with
  | nil=>simp [insL,cellK]
  | cons p r =>
    have:=insL_mid (r.map cellK) (s2.map cellK) (childB k (numT d x)) (childB kb (numT d b))
    rw [List.length_map] at this
    simp only [List.cons_append,List.append_assoc,List.tail_cons,List.map_append,List.map_cons,List.nil_append,List.length_cons]
    show _=insL (List.map cellK r ++ childB k (numT d x) :: List.map cellK s2) (r.length+1) _
    rw [this]
    show _ ++ childB k (numT d a) :: _=_
    rw [ha]
    rfl
/- .. the one to the left takes it in -/
theorem cells_delL {a c:T d} {ka:ByteArray} {t1:List (ByteArray × T d)} (hc:numT d c=numT d a):cellsT (d+1) (⟨num,t1 ++ [(ka,c)] ++ s2⟩:Inn (T d))=(cellsT (d+1) (frm num (t1 ++ [(ka,a)]) k x s2)).eraseIdx t1.length:=by
  rw [cells_kids,cells_frm]
  cases t1 with
  | nil=>simp
  | cons p r =>
    simp only [List.cons_append,List.append_assoc,List.tail_cons,List.map_append,List.map_cons,List.nil_append,List.length_cons]
    rw [List.eraseIdx_append_of_length_le (by simp)]
    simp [cellK,hc]
/- .. it takes in the one to the right -/
theorem cells_delR {b c:T d} {kb:ByteArray} {t2:List (ByteArray × T d)}:cellsT (d+1) (⟨num,[] ++ [(k,c)] ++ t2⟩:Inn (T d))=(cellsT (d+1) (frm num [] k x ((kb,b) :: t2))).eraseIdx 0:=by
  rw [cells_kids,cells_frm]
  simp
/- .. both share -/
theorem cells_setL {a l r:T d} {ka kr:ByteArray} {t1:List (ByteArray × T d)} (hl:numT d l=numT d a) (hr:numT d r=numT d x):cellsT (d+1) (⟨num,t1 ++ [(ka,l),(kr,r)] ++ s2⟩:Inn (T d))=(cellsT (d+1) (frm num (t1 ++ [(ka,a)]) k x s2)).set t1.length (childB kr (numT d x)):=by
  rw [cells_kids,cells_frm]
  cases t1 with
  | nil=>simp [cellK,hr]
  | cons p q =>
    simp only [List.cons_append,List.append_assoc,List.tail_cons,List.map_append,List.map_cons,List.nil_append,List.length_cons]
    rw [List.set_append_right _ _ (by simp)]
    simp [cellK,hl,hr]
theorem cells_setR {b l r:T d} {kb kr:ByteArray} {t2:List (ByteArray × T d)} (hr:numT d r=numT d b):cellsT (d+1) (⟨num,[] ++ [(k,l),(kr,r)] ++ t2⟩:Inn (T d))=(cellsT (d+1) (frm num [] k x ((kb,b) :: t2))).set 0 (childB kr (numT d b)):=by
  rw [cells_kids,cells_frm]
  simp [cellK,hr]
end
/- the cells of both -/
theorem with_eq (d:Nat) (a b:T d) {ka kb hi:ByteArray} (hb:BS (Bnd d) [(ka,a),(kb,b)] hi):withL (kindT d) (cellsT d a) kb (linkT d b) (cellsT d b)=cellsT d (mrgT d a b):=by
  cases d with
  | zero=>rw [cells_mrg0];rfl
  | succ d =>
    obtain ⟨-,⟨⟨p,r,e,-⟩,-⟩,-,-,⟨⟨q,t,e',hq⟩,-⟩,-⟩:=hb
    rw [cells_mrg1 a b (by rw [e];simp) ⟨q,t,e',hq⟩]
    rfl
theorem link_mrg (d:Nat) (a b:T d) {ka kb hi:ByteArray} (hb:BS (Bnd d) [(ka,a),(kb,b)] hi):linkT d (mrgT d a b)=if kindT d=1 then linkT d b else linkT d a:=by
  cases d with
  | zero=>rfl
  | succ d =>
    obtain ⟨-,⟨⟨p,r,e,-⟩,-⟩,-⟩:=hb
    rw [if_neg (kdn d)]
    simp only [linkT,mrgT]
    have e:a.kids=p :: r:=e
    rw [e]
    rfl
theorem used_mrg (d:Nat) (a b:T d) {ka kb hi:ByteArray} (hb:BS (Bnd d) [(ka,a),(kb,b)] hi):usedC (cellsT d a)+usedC (cellsT d b)≤usedC (cellsT d (mrgT d a b))∧usedC (cellsT d (mrgT d a b))≤usedC (cellsT d a)+usedC (cellsT d b)+209:=by
  rw [← with_eq d a b hb]
  obtain ⟨-,-,hok,-⟩:=hb
  have hk:=(hok (kb,b) (by simp)).2
  unfold withL
  split
  · rw [usedC_app];omega
  · rw [usedC_app,usedC_cons,childB_sz]
    have:kb.size≤200:=hk
    omega
theorem small_mrg (d:Nat) (a b:T d) (ha:smallK d a) (hb:smallK d b):smallK d (mrgT d a b):=by
  cases d with
  | zero=>trivial
  | succ d=>exact fun p hp=>(List.mem_append.1 hp).elim (ha p) (hb p)
end Go.Proofs.YtmgjdjjfeapcdaaGreat
namespace Go.Proofs.YtmgjdjjfeapcdaaGreat
open Go.RowKit Go.Lib Go.Maps Go.Sort
section
variable {A A':Nat→PgV} {fl fl' os:List Nat} {pages pages' d:Nat} {es:List Ent}
/- a page is made -/
theorem Sx.alloc {c:Cx d} {x:T d} {n:Nat} (h:Sx A fl pages os c x es) (k:AllR A fl pages n A' fl' pages'):Sx A' fl' pages' (n :: os) c x es:=by
  have hp:=k.perm _ h.perm
  refine ⟨h.wf,fun p hp'=>?_,?_⟩
  · have hne:=h.ne hp'
    have hn:¬ p.1=n:=fun e=>by
      have hnd:(0 :: (fl' ++ (n :: (numT d x :: ((restN c x).map (·.1) ++ os))))).Nodup:=hp.nodup_iff.2 List.nodup_range
      simp only [List.nodup_cons,List.nodup_append] at hnd
      exact hnd.2.2.1.1 (by rw [← e];simp only [List.mem_cons,List.mem_append];exact .inr (.inl (List.mem_map_of_mem hp')))
    rw [k.same _ hne.2.1 hn]
    exact h.rep p hp'
  · refine List.Perm.trans (List.Perm.cons _ (List.Perm.append_left _ ?_)) hp
    refine (List.Perm.trans ?_ (List.Perm.swap _ _ _))
    exact List.Perm.cons _ List.perm_middle
/- a page is freed -/
theorem Sx.free {c:Cx d} {x:T d} {n:Nat} {v u:PgV} (h:Sx A fl pages (n :: os) c x es):Sx (updA (updA A n v) 0 u) (n :: fl) pages os c x es:=by
  refine ⟨h.wf,fun p hp'=>?_,?_⟩
  · have hne:=h.ne hp'
    rw [updA_ne _ _ hne.2.1,updA_ne _ _ (hne.2.2.1 n (by simp))]
    exact h.rep p hp'
  · refine List.Perm.trans (List.Perm.cons _ ?_) h.perm
    show (n :: (fl ++ (numT d x :: ((restN c x).map (·.1) ++ os)))).Perm (fl ++ (numT d x :: ((restN c x).map (·.1) ++ n :: os)))
    refine List.Perm.trans List.perm_middle.symm (List.Perm.append_left _ ?_)
    refine List.Perm.trans (List.Perm.swap _ _ _) (List.Perm.cons _ List.perm_middle.symm)
theorem Sx.small {c:Cx d} {x:T d} (h:Sx A fl pages os c x es) (hp:pages≤59000):smallK d x:=small_of fun q hq=>by
  have:=(h.ne (p:=q) (by unfold restN;exact List.mem_append_left _ hq)).2.2.2.2
  omega
theorem Sx.ownX {c:Cx d} {x:T d} (h:Sx A fl pages os c x es):0<numT d x∧numT d x<pages∧¬ numT d x ∈ fl:=by
  refine ⟨h.own.2,h.own.1,fun e=>?_⟩
  have:=h.nd
  simp only [List.nodup_cons,List.nodup_append] at this
  exact this.2.2.2 _ e _ (by simp) rfl
end
theorem used_len4 {l:List ByteArray}:4 * l.length≤usedC l:=by
  induction l with
  | nil=>simp
  | cons a l ih=>rw [usedC_cons,List.length_cons];omega
theorem link_small {d:Nat} {y:T (d+1)} (h:smallK (d+1) y):linkT (d+1) y≤2147483647:=by
  simp only [linkT]
  split
  · exact Nat.zero_le _
  · rename_i p r hq
    have:=h p (by rw [hq];simp)
    omega
/- a way whose last node was changed -/
structure Stl (w:World) (A:Nat→PgV) (fl:List Nat) (pages:Nat) (os:List Nat) (es:List Ent) (root:Nat) {d:Nat} (c:Cx d) (x:T d) (l:List PN):Prop where
  sx:Sx A fl pages os c x es
  fk:FilK d x
  us:usedC (cellsT d x)≤1300
  two:c.two
  rt:c.root (numT d x)=root
  lks:linkT d x≤2147483647
  pm:PM w l w.heap.size
  vs:∃ tk,l.map (·.v)=c.nvs (numT d x) ++ [nvT d x c.lo c.hi tk]
  nn:∀ z ∈ l.getLast?,NRs w z.p z.v
section
variable {w w':World} {B D Gp:Nat} {V V':PV} {K:Pgs} {pk m:Nat} {A:Nat→PgV} {fl os:List Nat} {pages tb root rt:Nat} {es:List Ent}
theorem nvs_up {d num:Nat} {s1 s2:List (ByteArray × T d)} {k:ByteArray} {c:Cx (d+1)} {x:T d}:(Cx.up num s1 k s2 c).nvs (numT d x)=c.nvs num ++ [nvT (d+1) (frm num s1 k x s2) c.lo c.hi s1.length]:=by
  show c.nvs num ++ [_]=_
  unfold nvT
  rw [frP_eq num]
  rfl
/- the two last nodes of a way -/
theorem Stl.lastTwo {d num:Nat} {s1 s2:List (ByteArray × T d)} {k:ByteArray} {c:Cx (d+1)} {x:T d} {l:List PN} (h:Stl w A fl pages os es rt (.up num s1 k s2 c) x l) :
    ∃ l0 y z tk,l=l0 ++ [y,z]∧y.v=nvT (d+1) (frm num s1 k x s2) c.lo c.hi s1.length∧z.v=nvT d x k (nxt s2 c.hi) tk∧l0.map (·.v)=c.nvs num∧PM w l0 y.b∧NDb w y.b z.b y.p y.v∧NDb w z.b w.heap.size z.p z.v∧NRs w z.p z.v:=by
  obtain ⟨tk,hv⟩:=h.vs
  rw [nvs_up] at hv
  rw [List.append_assoc] at hv
  obtain ⟨l0,l1,e,h0,h1⟩:=List.map_eq_append_iff.1 hv
  obtain ⟨y,l2,e2,hy,h2⟩:=List.map_eq_cons_iff.1 h1
  obtain ⟨z,l3,e3,hz,h3⟩:=List.map_eq_cons_iff.1 h2
  have h3:l3=[]:=by simpa using h3
  subst h3 e3 e2 e
  have hpm:=PM.app.1 h.pm
  exact ⟨l0,y,z,tk,rfl,hy,hz,h0,hpm.1,hpm.2.1,hpm.2.2.1,h.nn z (by simp)⟩
/- a node is split -/
theorem Stl.split {d num:Nat} {s1 s2:List (ByteArray × T d)} {k:ByteArray} {c:Cx (d+1)} {x:T d} {l0:List PN} {y z:PN} (h:TS w B D Gp V K pk m A fl pages) (hm:m≤36000) (hpg:pages<58000) (ht:TB w tb Gp root) (hS:Stl w A fl pages os es rt (.up num s1 k s2 c) x (l0 ++ [y,z])) (hu:1012<usedC (cellsT d x)) :
    Calls Tryz.prog 156 #[(.pointer (some ⟨tb,0,none⟩)),(.pointer (some ⟨y.p,0,none⟩)),(.pointer (some ⟨z.p,0,none⟩))] w fun e w'=>e=.returned (.tuple #[])∧∃ (V':PV) (A':Nat→PgV) (fl':List Nat) (pages':Nat) (x':T (d+1)) (y':PN),TS w' B D Gp V' K pk (m+4) A' fl' pages'∧TF y.b B w w' V V'∧Stl w' A' fl' pages' os es rt c x' (l0 ++ [y'])∧y'.p=y.p∧y'.b=y.b∧pages'≤pages+1:=by
  obtain ⟨l0',y',z',tk,e,hy,hz,hl0,hpm,hny,hnz,hrs⟩:=hS.lastTwo
  have e':=List.append_inj' e rfl
  obtain ⟨rfl,e2⟩:=e'
  injection e2 with e2 e3
  injection e3 with e3 _
  subst e2 e3
  have hsx:=hS.sx
  have hsm:=h.flsmall.2
  have hwf:=hsx.wf
  have hsz:=hwf.sz
  have hbx:Bnd d k (nxt s2 c.hi) x:=hwf.at
  have hsml:smallK d x:=hsx.small hsm
  obtain ⟨a1,a2,a3,a4,a5⟩:=mid_ok hsz hu (by have:=hS.us;omega)
  have hfs:=fun r=>fil_spl d r x hsz hS.fk hu (by have:=hS.us;omega)
  have hsp:=fun r=>spl_pg d (midC (cellsT d x)) r x hbx a2 hsml
  have hlen:(cellsT d x).length≤400:=by have:=used_len4 (l:=cellsT d x);have:=hS.us;omega
  have hmid:midC (cellsT d x)+(kindT d - 1)<(cellsT d x).length:=by
    rcases kind_cases d with ⟨_,e⟩ | ⟨_,e⟩
    · rw [e];exact a2
    · rw [e]
      rcases Nat.lt_or_ge (midC (cellsT d x)+1) (cellsT d x).length with q | q
      · exact q
      · rw [List.drop_eq_nil_of_le q] at a5;simp [usedC] at a5
  have hnum:(cellsT (d+1) (frm num s1 k x s2)).length≤1000:=used_few (by rw [← fr_used (num:=num) x];exact hwf.fil.2.2.1.2)
  obtain ⟨s,nb,ho,hzb,hzt,hzg⟩:=hnz
  rw [hz] at nb ho
  obtain ⟨g,cap,cur,rfl,hbg,hg,hc1,hc2,hc3,hc4,hc5⟩:=own_cur (n:=(cellsT d x).length) ho (by omega)
  have hst:StB w (some ⟨g,0,none⟩) (cellsT d x):=by
    obtain ⟨a,c',e,st,-⟩:=StB.own (l:=cellsT d x) ho
    injection e with e _ _
    rw [e];exact st
  have hown:=hsx.ownX
  have hlk:∀ n,n≤60000→okP (shrL (kindT d) (if kindT d=1 then n else linkT d x) (cellsT d x)):=fun n hn=>by
    refine ⟨?_,?_,a3.2⟩
    · show 1≤kindT d∧kindT d≤5
      rcases kind_cases d with ⟨_,e⟩ | ⟨_,e⟩ <;> rw [e] <;> omega
    · show (if kindT d=1 then n else linkT d x)≤_
      have:=hS.lks
      split <;> omega
  have hpr:=hsp 0
  have hrp:okP (shrR (kindT d) (linkT d x) (cellsT d x)):=by
    unfold shrR
    split
    · exact ⟨by show 1≤1∧1≤5;omega,hS.lks,a4.2⟩
    · refine ⟨by show 1≤2∧2≤5;omega,?_,a5.2⟩
      have q:=hpr.2.1
      rename_i hk1
      rw [if_neg hk1] at q
      have q2:linkT d (splT d (midC (cellsT d x)) 0 x).2.2=numB (tx (cellsT d x) (midC (cellsT d x))) ((tx (cellsT d x) (midC (cellsT d x))).size - 4):=congrArg PgV.link q
      show numB _ _≤_
      rw [← q2]
      rcases kind_cases d with ⟨_,e⟩ | ⟨hd,_⟩
      · exact absurd e hk1
      · obtain ⟨d',rfl⟩:∃ d',d=d'+1:=⟨d - 1,by omega⟩
        show linkT (d'+1) (splT (d'+1) _ 0 x).2.2≤_
        simp only [linkT,splT]
        split
        · exact Nat.zero_le _
        · rename_i p r hq
          have hmem:p ∈ x.kids:=List.mem_of_mem_drop (i:=midC (cellsT (d'+1) x)+1) (by rw [hq];simp)
          have:=hsml p hmem
          omega
  have hXp:(0 :: (fl ++ (numT d x :: ((restN (.up num s1 k s2 c) x).map (·.1) ++ os)))).Perm (List.range pages):=hsx.perm
  rw [hy] at hny
  have hC:=csplit h hm hpg ht hny (by show s1.length≤(cellsT (d+1) (frm num s1 k x s2)).length;rw [frm_len];omega) hnum nb hzb hst hc1 (kindT d) (by rcases kind_cases d with ⟨_,e⟩ | ⟨_,e⟩ <;> rw [e] <;> simp) rfl
    ⟨by omega,by have:=hS.us;omega,hmid,hpr.2.2.2.2.2,hpr.2.2.2.2.1,hsz _ (by rw [tx_get a2];exact List.getElem_mem a2)⟩ hlk hrp hXp (by show numT d x ∈ _;simp) hpr.2.2.2.1.2
  refine hC.mono ?_
  rintro e w' ⟨rfl,V',n,A1,fl1,pages1,k1,k2,k3,k4⟩
  have hn60:n≤60000:=by have:=k1.pos;have:=k1.pgs;omega
  obtain ⟨q1,q2,q3,q4,-⟩:=hsp n
  have hs1:=(hsx.alloc k1).split (midC (cellsT d x)) ⟨a1,a2⟩
  have hnums:=spl_num d (midC (cellsT d x)) n x
  have e1:pgT d (splT d (midC (cellsT d x)) n x).1=shrL (kindT d) (if kindT d=1 then n else linkT d x) (cellsT d x):=q1
  have e2:pgT d (splT d (midC (cellsT d x)) n x).2.2=shrR (kindT d) (linkT d x) (cellsT d x):=by
    rw [q2]
    unfold shrR
    rfl
  rw [e1,e2] at hs1
  refine ⟨rfl,V',_,fl1,pages1,(⟨num,s1 ++ [(k,(splT d (midC (cellsT d x)) n x).1),((splT d (midC (cellsT d x)) n x).2.1,(splT d (midC (cellsT d x)) n x).2.2)] ++ s2⟩:Inn (T d)),⟨y.b,y.p,nvT (d+1) (⟨num,s1 ++ [(k,(splT d (midC (cellsT d x)) n x).1),((splT d (midC (cellsT d x)) n x).2.1,(splT d (midC (cellsT d x)) n x).2.2)] ++ s2⟩:Inn (T d)) c.lo c.hi s1.length⟩,k2,k3,?_,rfl,rfl,k1.pgs.2⟩
  have hcells:=cells_ins (num:=num) (s1:=s1) (s2:=s2) (k:=k) (kb:=(splT d (midC (cellsT d x)) n x).2.1) (b:=(splT d (midC (cellsT d x)) n x).2.2) hnums.1
  rw [hnums.2,q3] at hcells
  have hlink:linkT (d+1) (⟨num,s1 ++ [(k,(splT d (midC (cellsT d x)) n x).1),((splT d (midC (cellsT d x)) n x).2.1,(splT d (midC (cellsT d x)) n x).2.2)] ++ s2⟩:Inn (T d))=linkT (d+1) (frm num s1 k x s2):=by
    have:=link_frm (num:=num) (s1:=s1) (s2:=s2) (k:=k) (a:=(splT d (midC (cellsT d x)) n x).1) (m:=((splT d (midC (cellsT d x)) n x).2.1,(splT d (midC (cellsT d x)) n x).2.2) :: s2) hnums.1
    simpa using this
  have hnv:nvT (d+1) (⟨num,s1 ++ [(k,(splT d (midC (cellsT d x)) n x).1),((splT d (midC (cellsT d x)) n x).2.1,(splT d (midC (cellsT d x)) n x).2.2)] ++ s2⟩:Inn (T d)) c.lo c.hi s1.length={ nvT (d+1) (frm num s1 k x s2) c.lo c.hi s1.length with cells:=insL (cellsT (d+1) (frm num s1 k x s2)) s1.length (childB (keyB (tx (cellsT d x) (midC (cellsT d x)))) n) }:=by
    unfold nvT
    rw [q3] at hlink ⊢
    rw [hcells,hlink]
    rfl
  have k4:NDb w' y.b w'.heap.size y.p (nvT (d+1) (⟨num,s1 ++ [(k,(splT d (midC (cellsT d x)) n x).1),((splT d (midC (cellsT d x)) n x).2.1,(splT d (midC (cellsT d x)) n x).2.2)] ++ s2⟩:Inn (T d)) c.lo c.hi s1.length):=by rw [hnv];exact k4
  have hfil:=hwf.fil
  have hus:usedC (cellsT (d+1) (frm num s1 k x s2))≤1012:=by rw [← fr_used (num:=num) x];exact hfil.2.2.1.2
  have hks:=q4.2
  refine ⟨hs1,fun p hp=>?_,?_,hS.two.2,hS.rt,?_,PM.snoc (x:=⟨y.b,y.p,_⟩) (k3.pm l0 y.b (Nat.le_refl _) hpm) k4,⟨s1.length,by simp [hl0,numT]⟩,fun z hz=>?_⟩
  · have hp:p ∈ s1 ++ [(k,(splT d (midC (cellsT d x)) n x).1),((splT d (midC (cellsT d x)) n x).2.1,(splT d (midC (cellsT d x)) n x).2.2)] ++ s2:=hp
    simp only [List.mem_append,List.mem_cons,List.not_mem_nil,or_false] at hp
    rcases hp with (hp | rfl | rfl) | hp
    · exact hfil.1 p hp
    · exact (hfs n).1
    · exact (hfs n).2
    · exact hfil.2.1 p hp
  · rw [q3]
    rw [hcells]
    unfold insL
    rw [usedC_app,usedC_cons,childB_sz]
    have:usedC ((cellsT (d+1) (frm num s1 k x s2)).take s1.length)+usedC ((cellsT (d+1) (frm num s1 k x s2)).drop s1.length)=usedC (cellsT (d+1) (frm num s1 k x s2)):=by rw [← usedC_app,List.take_append_drop]
    omega
  · exact link_small (hs1.small (by have:=k1.pgs;omega))
  · rw [List.getLast?_concat] at hz
    cases hz
    exact (NDb.nr k4).s (by rw [hnv];show 0<(insL _ _ _).length;rw [insL_len (by rw [frm_len];omega)];omega)
end
end Go.Proofs.YtmgjdjjfeapcdaaGreat
namespace Go.Proofs.YtmgjdjjfeapcdaaGreat
open Go.RowKit Go.Lib Go.Maps Go.Sort
theorem used_erase (l:List ByteArray) (i:Nat):usedC (l.eraseIdx i)≤usedC l:=by
  induction l generalizing i with
  | nil=>simp [List.eraseIdx]
  | cons a l ih =>
    cases i with
    | zero=>rw [List.eraseIdx_cons_zero,usedC_cons];omega
    | succ i=>rw [List.eraseIdx_cons_succ,usedC_cons,usedC_cons];have:=ih i;omega
theorem used_set (l:List ByteArray) (i:Nat) (c:ByteArray) (hc:c.size≤205):usedC (l.set i c)≤usedC l+209:=by
  induction l generalizing i with
  | nil=>simp
  | cons a l ih =>
    cases i with
    | zero=>rw [List.set_cons_zero,usedC_cons,usedC_cons];omega
    | succ i=>rw [List.set_cons_succ,usedC_cons,usedC_cons];have:=ih i;omega
section
variable {A:Nat→PgV} {fl os:List Nat} {pages d num:Nat} {es:List Ent} {s1 s2 t1 t2:List (ByteArray × T d)} {k ka kb:ByteArray} {c:Cx (d+1)} {x a b:T d}
theorem pair_bs (hw:WfB c (⟨num,t1 ++ [(ka,a),(kb,b)] ++ t2⟩:Inn (T d)) es):∃ hi,BS (Bnd d) [(ka,a),(kb,b)] hi:=by
  obtain ⟨lo,hi,h1,⟨p,r,e,hp⟩,h2⟩:=hw.bnd
  have h2:BS (Bnd d) (t1 ++ [(ka,a),(kb,b)] ++ t2) hi:=h2
  rw [List.append_assoc] at h2
  have h3:=(BS_app _ _ _).1 h2
  exact ⟨_,((BS_app _ _ _).1 h3.2.1).1⟩
theorem join_merge (hsx:Sx A fl pages os (.up num s1 k s2 c) x es) (hp:(nodT d x ++ (nodS s1 ++ nodS s2)).Perm (nodS t1 ++ (nodT d a ++ nodT d b) ++ nodS t2)) (hx:x=a∨x=b) (hw:WfB c (⟨num,t1 ++ [(ka,a),(kb,b)] ++ t2⟩:Inn (T d)) es)
    (hk1:∀ p ∈ t1,FilN d p.2) (hk2:∀ p ∈ t2,FilN d p.2) (hfa:FilK d a) (hfb:FilK d b) (hlow:180≤usedC (cellsT d a)∨180≤usedC (cellsT d b)) (hu:usedC (cellsT d (mrgT d a b))≤1012) (v u:PgV) :
    Sx (updA (updA (updA A (numT d a) (pgT d (mrgT d a b))) (numT d b) v) 0 u) (numT d b :: fl) pages os c (⟨num,t1 ++ [(ka,mrgT d a b)] ++ t2⟩:Inn (T d)) es∧FilK (d+1) (⟨num,t1 ++ [(ka,mrgT d a b)] ++ t2⟩:Inn (T d)):=by
  obtain ⟨hi,hbs⟩:=pair_bs hw
  have hum:=used_mrg d a b hbs
  refine ⟨(hsx.merge hp hx hw).free,fun p hp'=>?_⟩
  have hp':p ∈ t1 ++ [(ka,mrgT d a b)] ++ t2:=hp'
  simp only [List.mem_append,List.mem_cons,List.not_mem_nil,or_false] at hp'
  rcases hp' with (hp' | rfl) | hp'
  · exact hk1 p hp'
  · exact (FilN_iff d _).2 ⟨⟨by show 180≤usedC (cellsT d (mrgT d a b));omega,hu⟩,filK_mrg d a b hfa hfb⟩
  · exact hk2 p hp'
theorem join_share (hsx:Sx A fl pages os (.up num s1 k s2 c) x es) (hp:(nodT d x ++ (nodS s1 ++ nodS s2)).Perm (nodS t1 ++ (nodT d a ++ nodT d b) ++ nodS t2)) (hx:x=a∨x=b) (hw:WfB c (⟨num,t1 ++ [(ka,a),(kb,b)] ++ t2⟩:Inn (T d)) es)
    (hk1:∀ p ∈ t1,FilN d p.2) (hk2:∀ p ∈ t2,FilN d p.2) (hfa:FilK d a) (hfb:FilK d b) (hu:1012<usedC (cellsT d (mrgT d a b))) (hu2:usedC (cellsT d (mrgT d a b))≤1500) (q:T d × ByteArray × T d) (hq:splT d (midC (cellsT d (mrgT d a b))) (numT d b) (mrgT d a b)=q) :
    Sx (updA (updA A (numT d a) (pgT d q.1)) (numT d b) (pgT d q.2.2)) fl pages os c (⟨num,t1 ++ [(ka,q.1),(q.2.1,q.2.2)] ++ t2⟩:Inn (T d)) es∧FilK (d+1) (⟨num,t1 ++ [(ka,q.1),(q.2.1,q.2.2)] ++ t2⟩:Inn (T d)):=by
  subst hq
  obtain ⟨hi,hbs⟩:=pair_bs hw
  have hsz:∀ y ∈ cellsT d (mrgT d a b),y.size≤240:=cells_sz d (mrg_bnd d a b hbs).2.1
  obtain ⟨a1,a2,-⟩:=mid_ok hsz hu hu2
  obtain ⟨f1,f2⟩:=fil_spl d (numT d b) (mrgT d a b) hsz (filK_mrg d a b hfa hfb) hu hu2
  refine ⟨hsx.share hp hx hw _ ⟨a1,a2⟩,fun p hp'=>?_⟩
  have hp':p ∈ t1 ++ [(ka,(splT d (midC (cellsT d (mrgT d a b))) (numT d b) (mrgT d a b)).1),((splT d (midC (cellsT d (mrgT d a b))) (numT d b) (mrgT d a b)).2.1,(splT d (midC (cellsT d (mrgT d a b))) (numT d b) (mrgT d a b)).2.2)] ++ t2:=hp'
  simp only [List.mem_append,List.mem_cons,List.not_mem_nil,or_false] at hp'
  rcases hp' with (hp' | rfl | rfl) | hp'
  · exact hk1 p hp'
  · exact f1
  · exact f2
  · exact hk2 p hp'
end
end Go.Proofs.YtmgjdjjfeapcdaaGreat
namespace Go.Proofs.YtmgjdjjfeapcdaaGreat
open Go.RowKit Go.Lib Go.Maps Go.Sort
section
variable {A:Nat→PgV} {fl os:List Nat} {pages d num:Nat} {es:List Ent} {t1 t2:List (ByteArray × T d)} {ka kb:ByteArray} {c:Cx (d+1)} {a b:T d}
/- leaves that stand side by side are linked -/
theorem pair_link (hw:WfB c (⟨num,t1 ++ [(ka,a),(kb,b)] ++ t2⟩:Inn (T d)) es) (hd:d=0):linkT d a=numT d b:=by
  subst hd
  have h:=hw.lks
  rw [lvsT_s] at h
  have h:lk (c.lpre ++ lvsS (t1 ++ [(ka,a),(kb,b)] ++ t2) ++ c.lsuf) 0:=h
  rw [lvsS_app,lvsS_app] at h
  have h1:=((lk_app _ _ _).1 ((lk_app _ _ _).1 h).1).2
  have h2:=((lk_app _ _ _).1 ((lk_app _ _ _).1 h1).1).2
  rw [lvsS_cons,lvsS_cons,← List.append_assoc] at h2
  have h3:=((lk_app _ _ _).1 h2).1
  exact lvs_link h3
theorem pairP (hw:WfB c (⟨num,t1 ++ [(ka,a),(kb,b)] ++ t2⟩:Inn (T d)) es) (hsa:smallK d a) (hsb:smallK d b) (hla:linkT d a≤2147483647) (hlb:linkT d b≤2147483647) (l:List ByteArray) (hl:cellsT d (mrgT d a b)=l) :
    withL (kindT d) (cellsT d a) kb (linkT d b) (cellsT d b)=l∧pgT d (mrgT d a b)=⟨kindT d,if kindT d=1 then linkT d b else linkT d a,l⟩∧okK kb ∧
    (usedC l≤1012→okP ⟨kindT d,if kindT d=1 then linkT d b else linkT d a,l⟩) ∧
    (1012<usedC l→usedC l≤1500→pgT d (splT d (midC l) (numT d b) (mrgT d a b)).1=shrL (kindT d) (linkT d a) l∧pgT d (splT d (midC l) (numT d b) (mrgT d a b)).2.2=shrR (kindT d) (linkT d b) l∧(splT d (midC l) (numT d b) (mrgT d a b)).2.1=keyB (tx l (midC l))∧(okP (shrL (kindT d) (linkT d a) l)∧okP (shrR (kindT d) (linkT d b) l)∧ShrOk (kindT d) l)∧(keyB (tx l (midC l))).size≤200):=by
  subst hl
  obtain ⟨hi,hbs⟩:=pair_bs hw
  have hkb:okK kb:=hbs.2.2.1 (kb,b) (by simp)
  have hlm:=link_mrg d a b hbs
  have hpm:pgT d (mrgT d a b)=⟨kindT d,if kindT d=1 then linkT d b else linkT d a,cellsT d (mrgT d a b)⟩:=by
    show (⟨kindT d,linkT d (mrgT d a b),cellsT d (mrgT d a b)⟩:PgV)=_
    rw [hlm]
  have hk5:1≤kindT d∧kindT d≤5:=by rcases kind_cases d with ⟨_,e⟩ | ⟨_,e⟩ <;> rw [e] <;> omega
  refine ⟨with_eq d a b hbs,hpm,hkb,fun hu=>⟨hk5,?_,hu⟩,fun h1 h2=>?_⟩
  · show (if kindT d=1 then linkT d b else linkT d a)≤_
    split <;> assumption
  · have hbm:=(mrg_bnd d a b hbs).2.1
    have hsz:=cells_sz d hbm
    obtain ⟨a1,a2,a3,a4,a5⟩:=mid_ok hsz h1 h2
    obtain ⟨q1,q2,q3,q4,q5,q6⟩:=spl_pg d (midC (cellsT d (mrgT d a b))) (numT d b) (mrgT d a b) hbm a2 (small_mrg d a b hsa hsb)
    have e1:pgT d (splT d (midC (cellsT d (mrgT d a b))) (numT d b) (mrgT d a b)).1=shrL (kindT d) (linkT d a) (cellsT d (mrgT d a b)):=by
      rw [q1]
      unfold shrL
      congr 1
      rw [hlm]
      rcases kind_cases d with ⟨hd,e⟩ | ⟨_,e⟩
      · rw [e,if_pos rfl];exact (pair_link hw hd).symm
      · rw [e,if_neg (by decide),if_neg (by decide)]
    have e2:pgT d (splT d (midC (cellsT d (mrgT d a b))) (numT d b) (mrgT d a b)).2.2=shrR (kindT d) (linkT d b) (cellsT d (mrgT d a b)):=by
      rw [q2]
      unfold shrR
      rw [hlm]
      rcases kind_cases d with ⟨_,e⟩ | ⟨_,e⟩
      · rw [e,if_pos rfl,if_pos rfl,if_pos rfl]
      · rw [e,if_neg (by decide),if_neg (by decide)]
    have hmid:midC (cellsT d (mrgT d a b))+(kindT d - 1)<(cellsT d (mrgT d a b)).length:=by
      rcases kind_cases d with ⟨_,e⟩ | ⟨_,e⟩
      · rw [e];exact a2
      · rw [e]
        rcases Nat.lt_or_ge (midC (cellsT d (mrgT d a b))+1) (cellsT d (mrgT d a b)).length with q | q
        · exact q
        · rw [List.drop_eq_nil_of_le q] at a5;simp [usedC] at a5
    have hlen:(cellsT d (mrgT d a b)).length≤1000:=by have:=used_len4 (l:=cellsT d (mrgT d a b));omega
    refine ⟨e1,e2,q3,⟨⟨hk5,hla,a3.2⟩,?_,⟨hlen,h2,hmid,q6,q5,hsz _ (by rw [tx_get a2];exact List.getElem_mem a2)⟩⟩,q4.2⟩
    unfold shrR
    split
    · exact ⟨by show 1≤1∧1≤5;omega,hlb,a4.2⟩
    · rename_i hk1
      refine ⟨by show 1≤2∧2≤5;omega,?_,a5.2⟩
      rcases kind_cases d with ⟨_,e⟩ | ⟨hd,_⟩
      · exact absurd e hk1
      · obtain ⟨d',rfl⟩:∃ d',d=d'+1:=⟨d - 1,by omega⟩
        rw [if_neg hk1] at q2
        have q2':linkT (d'+1) (splT (d'+1) (midC (cellsT (d'+1) (mrgT (d'+1) a b))) (numT (d'+1) b) (mrgT (d'+1) a b)).2.2=numB (tx (cellsT (d'+1) (mrgT (d'+1) a b)) (midC (cellsT (d'+1) (mrgT (d'+1) a b)))) ((tx (cellsT (d'+1) (mrgT (d'+1) a b)) (midC (cellsT (d'+1) (mrgT (d'+1) a b)))).size - 4):=congrArg PgV.link q2
        show numB _ _≤_
        rw [← q2']
        refine link_small fun p hp=>?_
        exact small_mrg (d'+1) a b hsa hsb p (List.mem_of_mem_drop hp)
end
/- a frame, told by its two neighbours -/
theorem frm_shift {d num:Nat} {t1 s2:List (ByteArray × T d)} {ka k:ByteArray} {a x:T d}:frm num (t1 ++ [(ka,a)]) k x s2=frm num t1 ka a ((k,x) :: s2):=by simp [frm]
section
variable {w w':World} {B D Gp:Nat} {V V':PV} {K:Pgs} {pk m:Nat} {A:Nat→PgV} {fl os:List Nat} {pages tb root rt:Nat} {es:List Ent}
theorem TS.okA (h:TS w B D Gp V K pk m A fl pages) {n:Nat} (hn:n<pages):okP (A n):=by
  obtain ⟨C,h1,h2⟩:=h.po
  exact (h2 n hn).2
/- a kid beside the place -/
theorem Sx.kid {d num:Nat} {s1 s2:List (ByteArray × T d)} {k:ByteArray} {c:Cx (d+1)} {x:T d} (h:Sx A fl pages os (.up num s1 k s2 c) x es) {p:ByteArray × T d} (hp:p ∈ s1 ++ s2):A (numT d p.2)=pgT d p.2∧(0<numT d p.2∧numT d p.2<pages∧¬ numT d p.2 ∈ fl)∧(pages≤59000→smallK d p.2)∧FilN d p.2:=by
  have hin:∀ q ∈ nodT d p.2,q ∈ restN (.up num s1 k s2 c) x:=fun q hq=>by
    rw [restN_up]
    have:q ∈ nodS s1 ++ nodS s2:=by
      simp only [nodS,List.mem_append,List.mem_flatMap]
      rcases List.mem_append.1 hp with hp | hp
      · exact .inl ⟨p,hp,hq⟩
      · exact .inr ⟨p,hp,hq⟩
    simp only [List.mem_append,List.mem_cons] at this ⊢
    rcases this with h | h <;> simp [h]
  have h0:=hin (numT d p.2,pgT d p.2) (by rw [nodT_eq];simp)
  obtain ⟨e1,e2,e3,e4,e5⟩:=h.ne h0
  refine ⟨h.rep _ h0,⟨Nat.pos_of_ne_zero e2,e5,fun e=>e4 _ e rfl⟩,fun hpg=>small_of fun q hq=>?_,?_⟩
  · have:=(h.ne (hin q (List.mem_of_mem_tail hq))).2.2.2.2
    omega
  · rcases List.mem_append.1 hp with hp | hp
    · exact h.wf.fil.1 p hp
    · exact h.wf.fil.2.1 p hp
theorem fil_some {d:Nat} {b:T d} (h:FilN d b):(180≤usedC (cellsT d b)∧usedC (cellsT d b)≤1012)∧FilK d b∧(0<(cellsT d b).length∧(cellsT d b).length≤400):=by
  have h:=(FilN_iff d b).1 h
  refine ⟨h.1,h.2,?_,by have:=used_len4 (l:=cellsT d b);omega⟩
  rcases Nat.eq_zero_or_pos (cellsT d b).length with e | e
  · rw [List.length_eq_zero_iff.1 e] at h;simp [usedC] at h
  · exact e
end
end Go.Proofs.YtmgjdjjfeapcdaaGreat
namespace Go.Proofs.YtmgjdjjfeapcdaaGreat
open Go.RowKit Go.Lib Go.Maps Go.Sort
section
variable {w w':World} {B D Gp:Nat} {V V':PV} {K:Pgs} {pk m:Nat} {A:Nat→PgV} {fl os:List Nat} {pages tb root rt:Nat} {es:List Ent}
/- the way is a node shorter -/
theorem Stl.up {A':Nat→PgV} {fl':List Nat} {pages':Nat} {d b p tk:Nat} {c:Cx (d+1)} {x':T (d+1)} {l0:List PN} (hsx:Sx A' fl' pages' os c x' es) (hfk:FilK (d+1) x') (hus:usedC (cellsT (d+1) x')≤1300) (htwo:c.two) (hrt:c.root (numT (d+1) x')=rt) (hpg:pages'≤59000) (hl0:l0.map (·.v)=c.nvs (numT (d+1) x')) (hpm:PM w l0 b) (hnd:NDb w b w.heap.size p (nvT (d+1) x' c.lo c.hi tk)) (hnn:NRs w p (nvT (d+1) x' c.lo c.hi tk)):Stl w A' fl' pages' os es rt c x' (l0 ++ [⟨b,p,nvT (d+1) x' c.lo c.hi tk⟩]):=
  ⟨hsx,hfk,hus,htwo,hrt,link_small (hsx.small hpg),PM.snoc (x:=⟨b,p,_⟩) hpm hnd,⟨tk,by simp [hl0]⟩,fun z hz=>by
    rw [List.getLast?_concat] at hz
    cases hz
    exact hnn⟩
def joinPost (w:World) (B D Gp:Nat) (V:PV) (K:Pgs) (pk m pages:Nat) (os:List Nat) (es:List Ent) (rt:Nat) {d:Nat} (c:Cx (d+1)) (l0:List PN) (y:PN) (w':World):Prop:=
  ∃ (V':PV) (A':Nat→PgV) (fl':List Nat) (x':T (d+1)) (y':PN),TS w' B D Gp V' K pk (m+3) A' fl' pages∧TF y.b B w w' V V'∧Stl w' A' fl' pages os es rt c x' (l0 ++ [y'])∧y'.p=y.p∧y'.b=y.b
theorem Stl.joinR {d num:Nat} {t2:List (ByteArray × T d)} {k kb:ByteArray} {c:Cx (d+1)} {x b:T d} {l0:List PN} {y z:PN} (h:TS w B D Gp V K pk m A fl pages) (hm:m≤36000) (ht:TB w tb Gp root) (hS:Stl w A fl pages os es rt (.up num [] k ((kb,b) :: t2) c) x (l0 ++ [y,z])) (hu:usedC (cellsT d x)<180) :
    Calls Tryz.prog 157 #[(.pointer (some ⟨tb,0,none⟩)),(.pointer (some ⟨y.p,0,none⟩)),(.pointer (some ⟨z.p,0,none⟩))] w fun e w'=>e=.returned (.tuple #[])∧joinPost w B D Gp V K pk m pages os es rt c l0 y w':=by
  obtain ⟨l0',y',z',tk,e,hy,hz,hl0,hpm,hny,hnz,hrs⟩:=hS.lastTwo
  have e':=List.append_inj' e rfl
  obtain ⟨rfl,e2⟩:=e'
  injection e2 with e2 e3
  injection e3 with e3 _
  subst e2 e3
  have hsx:=hS.sx
  have hsm:=h.flsmall.2
  have hwf:=hsx.wf
  have hfil:=hwf.fil
  obtain ⟨n1,n2,n3,n4⟩:=hsx.kid (p:=(kb,b)) (by simp)
  obtain ⟨f1,f2,f3⟩:=fil_some n4
  have f1:180≤usedC (cellsT d b)∧usedC (cellsT d b)≤1012:=f1
  have f2:FilK d b:=f2
  have f3:0<(cellsT d b).length∧(cellsT d b).length≤400:=f3
  have n1:A (numT d b)=pgT d b:=n1
  have n2:0<numT d b∧numT d b<pages∧¬ numT d b ∈ fl:=n2
  have hls:linkT d b≤2147483647:=by have:=(h.okA n2.2.1).link;rw [n1] at this;exact this
  have hsml:smallK d x:=hsx.small hsm
  have hw:=hwf.right
  have hsb:smallK d b:=n3 hsm
  obtain ⟨g1,g2,g3,g4,g5⟩:=pairP hw hsml hsb hS.lks hls _ rfl
  obtain ⟨hi',hbs⟩:=pair_bs hw
  have hum:=used_mrg d x b hbs
  have hbF:Bnd (d+1) c.lo c.hi (frm num [] k x ((kb,b) :: t2)):=hwf.up.at
  have hus:usedC (cellsT (d+1) (frm num [] k x ((kb,b) :: t2)))≤1012:=by rw [← fr_used (num:=num) x];exact hfil.2.2.1.2
  have hlen0:(cellsT (d+1) (frm num [] k x ((kb,b) :: t2))).length≤1000:=used_few hus
  have hat:0<(cellsT (d+1) (frm num [] k x ((kb,b) :: t2))).length:=by rw [frm_len];simp
  have htx:tx (cellsT (d+1) (frm num [] k x ((kb,b) :: t2))) 0=childB kb (numT d b):=frm_next (s1:=[])
  obtain ⟨c1,c2,-,-⟩:=childB_key g3 (numT d b)
  rw [hy] at hny
  have hxl:(cellsT d x).length≤400:=by have:=used_len4 (l:=cellsT d x);omega
  have hkd:kindT d=1∨kindT d=2:=by rcases kind_cases d with ⟨_,e⟩ | ⟨_,e⟩ <;> rw [e] <;> simp
  have hch:∀ Y:World,TS Y B D Gp V K pk m A fl pages→TB Y tb Gp root→NDb Y y.b z.b y.p (nvT (d+1) (frm num [] k x ((kb,b) :: t2)) c.lo c.hi 0)→Calls Tryz.prog 103 #[(.pointer (some ⟨tb,0,none⟩)),(.pointer (some ⟨y.p,0,none⟩)),.int .i64 1] Y fun e w'=>∃ (V':PV) (q:Nat),e=.returned (.pointer (some ⟨q,0,none⟩))∧TS w' B D Gp V' K pk m A fl pages∧St2 Y w' B V V'∧ND w' Y.heap.size q (nvT d b kb (nxt t2 c.hi) 0)∧Y.heap.size≤q:=fun Y y1 y2 y3 =>
    cchildN (s1:=[(k,x)]) (k:=kb) (x:=b) (s2:=t2) (num:=num) y1 (by omega) y2 y3.nr hbF hlen0 n2.2.1 n1 (.inr (fun e=>by rw [e] at f3;simp at f3))
  have hrs':NRs w z.p (nvT d x k (nxt ((kb,b) :: t2) c.hi) tk):=by rw [← hz];exact hrs
  have hown:=hsx.ownX
  have hzb:z.b≤z.p:=by obtain ⟨_,_,_,q,_⟩:=hnz;exact q
  have hkz:(keyB (tx (cellsT (d+1) (frm num [] k x ((kb,b) :: t2))) 0)).size≤200:=by rw [htx,c1];exact g3.2
  have hwl:withL (kindT d) (cellsT d x) (keyB (tx (cellsT (d+1) (frm num [] k x ((kb,b) :: t2))) 0)) (linkT d b) (cellsT d b)=cellsT d (mrgT d x b):=by rw [htx,c1];exact g1
  have hc0:kS (tx (cellsT (d+1) (frm num [] k x ((kb,b) :: t2))) 0)≤(tx (cellsT (d+1) (frm num [] k x ((kb,b) :: t2))) 0).size∧(tx (cellsT (d+1) (frm num [] k x ((kb,b) :: t2))) 0).size≤240:=by
    rw [htx]
    exact ⟨c2,by rw [childB_sz];have:=g3.2;omega⟩
  by_cases hu1:usedC (cellsT d (mrgT d x b))≤1012
  · refine (cjoinRM h hm ht (cellsT d (mrgT d x b)) (kindT d) hkd hny rfl ⟨hat,hlen0⟩ hc0 hkz hrs' hzb hch rfl rfl hxl f3 hwl hu1 (g4 hu1) hown n2).mono ?_
    rintro e w' ⟨rfl,V',k1,k2,k3,k4⟩
    obtain ⟨j1,j2⟩:=join_merge hsx (pair_right [] t2 kb b x) (.inl rfl) hw (fun p hp=>by simp at hp) (fun p hp=>hfil.2.1 p (by simp [hp])) hS.fk f2 (.inr f1.1) hu1 ⟨3,fl.headD 0,[]⟩ ⟨4,numT d b,[]⟩
    rw [g2] at j1
    have hcells:=cells_delR (num:=num) (k:=k) (x:=x) (b:=b) (kb:=kb) (t2:=t2) (c:=mrgT d x b)
    have hlink:linkT (d+1) (⟨num,[] ++ [(k,mrgT d x b)] ++ t2⟩:Inn (T d))=linkT (d+1) (frm num [] k x ((kb,b) :: t2)):=by
      have:=link_frm (num:=num) (s1:=[]) (k:=k) (x:=x) (s2:=(kb,b) :: t2) (a:=mrgT d x b) (m:=t2) (mrg_num d x b)
      simpa using this
    have hnv:nvT (d+1) (⟨num,[] ++ [(k,mrgT d x b)] ++ t2⟩:Inn (T d)) c.lo c.hi 0={ nvT (d+1) (frm num [] k x ((kb,b) :: t2)) c.lo c.hi 0 with cells:=(cellsT (d+1) (frm num [] k x ((kb,b) :: t2))).eraseIdx 0 }:=by
      unfold nvT
      rw [hcells,hlink]
      rfl
    refine ⟨rfl,V',_,_,(⟨num,[] ++ [(k,mrgT d x b)] ++ t2⟩:Inn (T d)),⟨y.b,y.p,nvT (d+1) (⟨num,[] ++ [(k,mrgT d x b)] ++ t2⟩:Inn (T d)) c.lo c.hi 0⟩,k1,k2,Stl.up j1 j2 ?_ hS.two.2 hS.rt hsm hl0 (k2.pm l0 y.b (Nat.le_refl _) hpm) ?_ ?_,rfl,rfl⟩
    · rw [hcells]
      have:=used_erase (cellsT (d+1) (frm num [] k x ((kb,b) :: t2))) 0
      omega
    · rw [hnv];exact k3
    · rw [hnv];exact k4
  · have hu2:usedC (cellsT d (mrgT d x b))≤1500:=by omega
    obtain ⟨p1,p2,p3,p4,p5⟩:=g5 (by omega) hu2
    refine (cjoinRS h hm ht (cellsT d (mrgT d x b)) (kindT d) hkd hny rfl ⟨hat,hlen0⟩ hc0 hkz hrs' hzb hch rfl rfl hxl f3 hwl (by omega) (by omega) p4 p5 hown n2).mono ?_
    rintro e w' ⟨rfl,V',k1,k2,k3⟩
    obtain ⟨j1,j2⟩:=join_share hsx (pair_right [] t2 kb b x) (.inl rfl) hw (fun p hp=>by simp at hp) (fun p hp=>hfil.2.1 p (by simp [hp])) hS.fk f2 (by omega) hu2 _ rfl
    have hnums:=spl_num d (midC (cellsT d (mrgT d x b))) (numT d b) (mrgT d x b)
    rw [p1,p2] at j1
    generalize splT d (midC (cellsT d (mrgT d x b))) (numT d b) (mrgT d x b)=q at *
    rw [mrg_num] at hnums
    have hcells:=cells_setR (num:=num) (k:=k) (x:=x) (b:=b) (kb:=kb) (t2:=t2) (l:=q.1) (kr:=q.2.1) hnums.2
    rw [p3] at hcells
    have hlink:linkT (d+1) (⟨num,[] ++ [(k,q.1),(q.2.1,q.2.2)] ++ t2⟩:Inn (T d))=linkT (d+1) (frm num [] k x ((kb,b) :: t2)):=by
      have:=link_frm (num:=num) (s1:=[]) (k:=k) (x:=x) (s2:=(kb,b) :: t2) (a:=q.1) (m:=(q.2.1,q.2.2) :: t2) hnums.1
      simpa using this
    rw [p3] at hlink j1 j2
    have hnv:nvT (d+1) (⟨num,[] ++ [(k,q.1),(keyB (tx (cellsT d (mrgT d x b)) (midC (cellsT d (mrgT d x b)))),q.2.2)] ++ t2⟩:Inn (T d)) c.lo c.hi 0={ nvT (d+1) (frm num [] k x ((kb,b) :: t2)) c.lo c.hi 0 with cells:=(cellsT (d+1) (frm num [] k x ((kb,b) :: t2))).set 0 (childB (keyB (tx (cellsT d (mrgT d x b)) (midC (cellsT d (mrgT d x b))))) (numT d b)) }:=by
      unfold nvT
      rw [hcells,hlink]
      rfl
    have k3:NDb w' y.b w'.heap.size y.p (nvT (d+1) (⟨num,[] ++ [(k,q.1),(keyB (tx (cellsT d (mrgT d x b)) (midC (cellsT d (mrgT d x b)))),q.2.2)] ++ t2⟩:Inn (T d)) c.lo c.hi 0):=by rw [hnv];exact k3
    refine ⟨rfl,V',_,_,(⟨num,[] ++ [(k,q.1),(keyB (tx (cellsT d (mrgT d x b)) (midC (cellsT d (mrgT d x b)))),q.2.2)] ++ t2⟩:Inn (T d)),⟨y.b,y.p,nvT (d+1) (⟨num,[] ++ [(k,q.1),(keyB (tx (cellsT d (mrgT d x b)) (midC (cellsT d (mrgT d x b)))),q.2.2)] ++ t2⟩:Inn (T d)) c.lo c.hi 0⟩,k1.mono (by omega),k2,Stl.up j1 j2 ?_ hS.two.2 hS.rt hsm hl0 (k2.pm l0 y.b (Nat.le_refl _) hpm) k3 (k3.nr.s ?_),rfl,rfl⟩
    · rw [hcells]
      have:=used_set (cellsT (d+1) (frm num [] k x ((kb,b) :: t2))) 0 (childB (keyB (tx (cellsT d (mrgT d x b)) (midC (cellsT d (mrgT d x b))))) (numT d b)) (by rw [childB_sz];omega)
      omega
    · rw [hnv]
      show 0<(List.set _ _ _).length
      rw [List.length_set]
      omega
theorem Stl.joinL {d num:Nat} {t1 s2:List (ByteArray × T d)} {k ka:ByteArray} {c:Cx (d+1)} {a x:T d} {l0:List PN} {y z:PN} (h:TS w B D Gp V K pk m A fl pages) (hm:m≤36000) (ht:TB w tb Gp root) (hS:Stl w A fl pages os es rt (.up num (t1 ++ [(ka,a)]) k s2 c) x (l0 ++ [y,z])) (hu:usedC (cellsT d x)<180) :
    Calls Tryz.prog 157 #[(.pointer (some ⟨tb,0,none⟩)),(.pointer (some ⟨y.p,0,none⟩)),(.pointer (some ⟨z.p,0,none⟩))] w fun e w'=>e=.returned (.tuple #[])∧joinPost w B D Gp V K pk m pages os es rt c l0 y w':=by
  obtain ⟨l0',y',z',tk,e,hy,hz,hl0,hpm,hny,hnz,hrs⟩:=hS.lastTwo
  have e':=List.append_inj' e rfl
  obtain ⟨rfl,e2⟩:=e'
  injection e2 with e2 e3
  injection e3 with e3 _
  subst e2 e3
  have hsx:=hS.sx
  have hsm:=h.flsmall.2
  have hwf:=hsx.wf
  have hfil:=hwf.fil
  obtain ⟨n1,n2,n3,n4⟩:=hsx.kid (p:=(ka,a)) (by simp)
  obtain ⟨f1,f2,f3⟩:=fil_some n4
  have f1:180≤usedC (cellsT d a)∧usedC (cellsT d a)≤1012:=f1
  have f2:FilK d a:=f2
  have f3:0<(cellsT d a).length∧(cellsT d a).length≤400:=f3
  have n1:A (numT d a)=pgT d a:=n1
  have n2:0<numT d a∧numT d a<pages∧¬ numT d a ∈ fl:=n2
  have hls:linkT d a≤2147483647:=by have:=(h.okA n2.2.1).link;rw [n1] at this;exact this
  have hsml:smallK d x:=hsx.small hsm
  have hw:=hwf.left
  have hsb:smallK d a:=n3 hsm
  obtain ⟨g1,g2,g3,g4,g5⟩:=pairP hw hsb hsml hls hS.lks _ rfl
  obtain ⟨hi',hbs⟩:=pair_bs hw
  have hum:=used_mrg d a x hbs
  have hbF:Bnd (d+1) c.lo c.hi (frm num t1 ka a ((k,x) :: s2)):=by rw [← frm_shift];exact hwf.up.at
  have hus:usedC (cellsT (d+1) (frm num (t1 ++ [(ka,a)]) k x s2))≤1012:=by rw [← fr_used (num:=num) x];exact hfil.2.2.1.2
  rw [frm_shift] at hus
  rw [frm_shift,show (t1 ++ [(ka,a)]).length=t1.length+1 by simp] at hy
  have hlen0:(cellsT (d+1) (frm num t1 ka a ((k,x) :: s2))).length≤1000:=used_few hus
  have hat:t1.length<(cellsT (d+1) (frm num t1 ka a ((k,x) :: s2))).length:=by rw [frm_len];simp
  have htx:tx (cellsT (d+1) (frm num t1 ka a ((k,x) :: s2))) t1.length=childB k (numT d x):=frm_next
  obtain ⟨c1,c2,-,-⟩:=childB_key g3 (numT d x)
  rw [hy] at hny
  have hxl:(cellsT d x).length≤400:=by have:=used_len4 (l:=cellsT d x);omega
  have hkd:kindT d=1∨kindT d=2:=by rcases kind_cases d with ⟨_,e⟩ | ⟨_,e⟩ <;> rw [e] <;> simp
  have hch:∀ Y:World,TS Y B D Gp V K pk m A fl pages→TB Y tb Gp root→NDb Y y.b z.b y.p (nvT (d+1) (frm num t1 ka a ((k,x) :: s2)) c.lo c.hi (t1.length+1))→Calls Tryz.prog 103 #[(.pointer (some ⟨tb,0,none⟩)),(.pointer (some ⟨y.p,0,none⟩)),.int .i64 (t1.length:Int)] Y fun e w'=>∃ (V':PV) (q:Nat),e=.returned (.pointer (some ⟨q,0,none⟩))∧TS w' B D Gp V' K pk m A fl pages∧St2 Y w' B V V'∧ND w' Y.heap.size q (nvT d a ka (nxt ((k,x) :: s2) c.hi) 0)∧Y.heap.size≤q:=fun Y y1 y2 y3 =>
    cchildN (s1:=t1) (k:=ka) (x:=a) (s2:=(k,x) :: s2) (num:=num) y1 (by omega) y2 y3.nr hbF hlen0 n2.2.1 n1 (.inr (fun e=>by rw [e] at f3;simp at f3))
  have hrs':NRs w z.p (nvT d x k (nxt s2 c.hi) tk):=by rw [← hz];exact hrs
  have hown:=hsx.ownX
  have hzb:z.b≤z.p:=by obtain ⟨_,_,_,q,_⟩:=hnz;exact q
  have hkz:(keyB (tx (cellsT (d+1) (frm num t1 ka a ((k,x) :: s2))) t1.length)).size≤200:=by rw [htx,c1];exact g3.2
  have hwl:withL (kindT d) (cellsT d a) (keyB (tx (cellsT (d+1) (frm num t1 ka a ((k,x) :: s2))) t1.length)) (linkT d x) (cellsT d x)=cellsT d (mrgT d a x):=by rw [htx,c1];exact g1
  have hc0:kS (tx (cellsT (d+1) (frm num t1 ka a ((k,x) :: s2))) t1.length)≤(tx (cellsT (d+1) (frm num t1 ka a ((k,x) :: s2))) t1.length).size∧(tx (cellsT (d+1) (frm num t1 ka a ((k,x) :: s2))) t1.length).size≤240:=by
    rw [htx]
    exact ⟨c2,by rw [childB_sz];have:=g3.2;omega⟩
  by_cases hu1:usedC (cellsT d (mrgT d a x))≤1012
  · refine (cjoinLM h hm ht (cellsT d (mrgT d a x)) t1.length (kindT d) hkd hny rfl ⟨hat,hlen0⟩ hc0 hkz hrs' hzb hch rfl rfl hxl f3 hwl hu1 (g4 hu1) n2 hown).mono ?_
    rintro e w' ⟨rfl,V',k1,k2,k3,k4⟩
    obtain ⟨j1,j2⟩:=join_merge hsx (pair_left t1 s2 ka a x) (.inr rfl) hw (fun p hp=>hfil.1 p (by simp [hp])) hfil.2.1 f2 hS.fk (.inl f1.1) hu1 ⟨3,fl.headD 0,[]⟩ ⟨4,numT d x,[]⟩
    rw [g2] at j1
    have hcells:=cells_delL (num:=num) (k:=k) (x:=x) (ka:=ka) (a:=a) (t1:=t1) (s2:=s2) (mrg_num d a x)
    rw [frm_shift] at hcells
    have hlink:linkT (d+1) (⟨num,t1 ++ [(ka,mrgT d a x)] ++ s2⟩:Inn (T d))=linkT (d+1) (frm num t1 ka a ((k,x) :: s2)):=by
      have:=link_frm (num:=num) (s1:=t1) (k:=ka) (x:=a) (s2:=(k,x) :: s2) (a:=mrgT d a x) (m:=s2) (mrg_num d a x)
      simpa using this
    have hnv:nvT (d+1) (⟨num,t1 ++ [(ka,mrgT d a x)] ++ s2⟩:Inn (T d)) c.lo c.hi (t1.length+1)={ nvT (d+1) (frm num t1 ka a ((k,x) :: s2)) c.lo c.hi (t1.length+1) with cells:=(cellsT (d+1) (frm num t1 ka a ((k,x) :: s2))).eraseIdx t1.length }:=by
      unfold nvT
      rw [hcells,hlink]
      rfl
    refine ⟨rfl,V',_,_,(⟨num,t1 ++ [(ka,mrgT d a x)] ++ s2⟩:Inn (T d)),⟨y.b,y.p,nvT (d+1) (⟨num,t1 ++ [(ka,mrgT d a x)] ++ s2⟩:Inn (T d)) c.lo c.hi (t1.length+1)⟩,k1,k2,Stl.up j1 j2 ?_ hS.two.2 hS.rt hsm hl0 (k2.pm l0 y.b (Nat.le_refl _) hpm) ?_ ?_,rfl,rfl⟩
    · rw [hcells]
      have:=used_erase (cellsT (d+1) (frm num t1 ka a ((k,x) :: s2))) t1.length
      omega
    · rw [hnv];exact k3
    · rw [hnv];exact k4
  · have hu2:usedC (cellsT d (mrgT d a x))≤1500:=by omega
    obtain ⟨p1,p2,p3,p4,p5⟩:=g5 (by omega) hu2
    refine (cjoinLS h hm ht (cellsT d (mrgT d a x)) t1.length (kindT d) hkd hny rfl ⟨hat,hlen0⟩ hc0 hkz hrs' hzb hch rfl rfl hxl f3 hwl (by omega) (by omega) p4 p5 n2 hown).mono ?_
    rintro e w' ⟨rfl,V',k1,k2,k3⟩
    obtain ⟨j1,j2⟩:=join_share hsx (pair_left t1 s2 ka a x) (.inr rfl) hw (fun p hp=>hfil.1 p (by simp [hp])) hfil.2.1 f2 hS.fk (by omega) hu2 _ rfl
    have hnums:=spl_num d (midC (cellsT d (mrgT d a x))) (numT d x) (mrgT d a x)
    rw [p1,p2] at j1
    generalize splT d (midC (cellsT d (mrgT d a x))) (numT d x) (mrgT d a x)=q at *
    rw [mrg_num] at hnums
    have hcells:=cells_setL (num:=num) (k:=k) (x:=x) (ka:=ka) (a:=a) (t1:=t1) (s2:=s2) (kr:=q.2.1) hnums.1 hnums.2
    rw [frm_shift] at hcells
    rw [p3] at hcells
    have hlink:linkT (d+1) (⟨num,t1 ++ [(ka,q.1),(q.2.1,q.2.2)] ++ s2⟩:Inn (T d))=linkT (d+1) (frm num t1 ka a ((k,x) :: s2)):=by
      have:=link_frm (num:=num) (s1:=t1) (k:=ka) (x:=a) (s2:=(k,x) :: s2) (a:=q.1) (m:=(q.2.1,q.2.2) :: s2) hnums.1
      simpa using this
    rw [p3] at hlink j1 j2
    have hnv:nvT (d+1) (⟨num,t1 ++ [(ka,q.1),(keyB (tx (cellsT d (mrgT d a x)) (midC (cellsT d (mrgT d a x)))),q.2.2)] ++ s2⟩:Inn (T d)) c.lo c.hi (t1.length+1)={ nvT (d+1) (frm num t1 ka a ((k,x) :: s2)) c.lo c.hi (t1.length+1) with cells:=(cellsT (d+1) (frm num t1 ka a ((k,x) :: s2))).set t1.length (childB (keyB (tx (cellsT d (mrgT d a x)) (midC (cellsT d (mrgT d a x))))) (numT d x)) }:=by
      unfold nvT
      rw [hcells,hlink]
      rfl
    have k3:NDb w' y.b w'.heap.size y.p (nvT (d+1) (⟨num,t1 ++ [(ka,q.1),(keyB (tx (cellsT d (mrgT d a x)) (midC (cellsT d (mrgT d a x)))),q.2.2)] ++ s2⟩:Inn (T d)) c.lo c.hi (t1.length+1)):=by rw [hnv];exact k3
    refine ⟨rfl,V',_,_,(⟨num,t1 ++ [(ka,q.1),(keyB (tx (cellsT d (mrgT d a x)) (midC (cellsT d (mrgT d a x)))),q.2.2)] ++ s2⟩:Inn (T d)),⟨y.b,y.p,nvT (d+1) (⟨num,t1 ++ [(ka,q.1),(keyB (tx (cellsT d (mrgT d a x)) (midC (cellsT d (mrgT d a x)))),q.2.2)] ++ s2⟩:Inn (T d)) c.lo c.hi (t1.length+1)⟩,k1.mono (by omega),k2,Stl.up j1 j2 ?_ hS.two.2 hS.rt hsm hl0 (k2.pm l0 y.b (Nat.le_refl _) hpm) k3 (k3.nr.s ?_),rfl,rfl⟩
    · rw [hcells]
      have:=used_set (cellsT (d+1) (frm num t1 ka a ((k,x) :: s2))) t1.length (childB (keyB (tx (cellsT d (mrgT d a x)) (midC (cellsT d (mrgT d a x))))) (numT d x)) (by rw [childB_sz];omega)
      omega
    · rw [hnv]
      show 0<(List.set _ _ _).length
      rw [List.length_set]
      omega
/- .. whichever -/
theorem Stl.join {d num:Nat} {s1 s2:List (ByteArray × T d)} {k:ByteArray} {c:Cx (d+1)} {x:T d} {l0:List PN} {y z:PN} (h:TS w B D Gp V K pk m A fl pages) (hm:m≤36000) (ht:TB w tb Gp root) (hS:Stl w A fl pages os es rt (.up num s1 k s2 c) x (l0 ++ [y,z])) (hu:usedC (cellsT d x)<180) :
    Calls Tryz.prog 157 #[(.pointer (some ⟨tb,0,none⟩)),(.pointer (some ⟨y.p,0,none⟩)),(.pointer (some ⟨z.p,0,none⟩))] w fun e w'=>e=.returned (.tuple #[])∧joinPost w B D Gp V K pk m pages os es rt c l0 y w':=by
  rcases List.eq_nil_or_concat s1 with rfl | ⟨t1,⟨ka,a⟩,e⟩
  · cases s2 with
    | nil=>exact absurd ⟨rfl,rfl⟩ hS.two.1
    | cons q t2=>exact Stl.joinR h hm ht hS hu
  · rw [List.concat_eq_append] at e
    subst e
    exact Stl.joinL h hm ht hS hu
end
end Go.Proofs.YtmgjdjjfeapcdaaGreat
