/- package tree: load, child, top: nodes of a sound tree -/
import Derived.Test.YtmgjdjjfeapcdaaGreatTrG
namespace Go.Proofs.YtmgjdjjfeapcdaaGreat
open Go.RowKit Go.Lib Go.Maps Go.Sort
attribute [local go_sem ↓] Go.wp_at_zero Go.wp_at_succ
def nvT (d:Nat) (x:T d) (lo hi:ByteArray) (tk:Nat):NV:=⟨kindT d,linkT d x,cellsT d x,numT d x,lo,hi,tk⟩
/- the keys of a node's cells -/
def keysT:(d:Nat)→T d→List ByteArray
  | 0,t=>t.its.map (·.key)
  | _+1,t=>t.kids.tail.map (·.1)
theorem keys_len (d:Nat) (x:T d):(keysT d x).length=(cellsT d x).length:=by cases d <;> simp [keysT,cellsT]
theorem tx_get {l:List ByteArray} {i:Nat} (h:i<l.length):tx l i=l[i]:=by simp [tx,h]
theorem cells_key (d:Nat) {lo hi:ByteArray} {x:T d} (h:Bnd d lo hi x) (i:Nat) (hi':i<(cellsT d x).length) :
    keyB (tx (cellsT d x) i)=tx (keysT d x) i∧kS (tx (cellsT d x) i)≤(tx (cellsT d x) i).size∧okK (tx (keysT d x) i)∧∀ X,Calls Tryz.prog (match d with | 0=>192 | _+1=>194) #[.string (tx (cellsT d x) i)] X fun e w'=>e=.returned (.bool true)∧Below X.heap.size X w':=by
  cases d with
  | zero =>
    have hl:i<x.its.length:=by simpa [cellsT] using hi'
    have e1:tx (cellsT 0 x) i=cellI x.its[i]:=by rw [tx_get hi'];simp [cellsT]
    have e2:tx (keysT 0 x) i=x.its[i].key:=by rw [tx_get (by rw [keys_len];exact hi')];simp [keysT]
    have hok:=(BI_mem h _ (List.getElem_mem hl)).1
    rw [e1,e2]
    exact ⟨(cellI_key hok).1,(cellI_key hok).2.1,hok.key,fun X=>cisEntry _ hok X⟩
  | succ d =>
    obtain ⟨⟨p,r,e,hp⟩,hb⟩:=h
    have hl:i<x.kids.tail.length:=by simpa [cellsT] using hi'
    have e1:tx (cellsT (d+1) x) i=childB x.kids.tail[i].1 (numT d x.kids.tail[i].2):=by rw [tx_get hi'];simp only [cellsT,List.getElem_map]
    have e2:tx (keysT (d+1) x) i=x.kids.tail[i].1:=by rw [tx_get (by rw [keys_len];exact hi')];simp only [keysT,List.getElem_map]
    have hok:okK x.kids.tail[i].1:=by
      have hm:x.kids.tail[i] ∈ r:=by
        have:=List.getElem_mem hl
        have e3:x.kids.tail=r:=by rw [e];rfl
        rw [← e3]
        exact this
      rw [e] at hb
      exact hb.2.2.1 _ hm
    rw [e1,e2]
    refine ⟨(childB_key hok _).1,(childB_key hok _).2.1,hok,fun X=>(cisChild _ _ X hok).mono ?_⟩
    rintro e w' ⟨rfl,rfl⟩
    exact ⟨rfl,Below.refl _ _⟩
/- sorted keys, within bounds -/
theorem keys_sort:∀ (d:Nat) {lo hi:ByteArray} {x:T d},Bnd d lo hi x→(∀ k ∈ keysT d x,klt k lo=false∧ltB k hi)∧(keysT d x).Pairwise (fun a b=>klt a b=true)∧(0<d→∀ k ∈ keysT d x,klt lo k=true)
  | 0, lo, hi, x, h => by
    refine ⟨fun k hk=>?_,?_,fun h=>absurd h (Nat.lt_irrefl 0)⟩
    · obtain ⟨i,hi',rfl⟩:=List.mem_map.1 hk
      exact ⟨(BI_mem h i hi').2.1,(BI_mem h i hi').2.2⟩
    · show (x.its.map (·.key)).Pairwise _
      have h:BI lo x.its hi:=h
      revert h
      induction x.its with
      | nil=>intro _;exact List.Pairwise.nil
      | cons i r ih =>
        rintro ⟨h1,h2,h3,h4,h5⟩
        refine List.Pairwise.cons (fun k hk=>?_) (ih h5)
        obtain ⟨j,hj,rfl⟩:=List.mem_map.1 hk
        exact h4 j hj
  | d + 1, lo, hi, x, ⟨⟨p, r, e, hp⟩, hb⟩ => by
    have e3:keysT (d+1) x=r.map (·.1):=by show x.kids.tail.map _=_;rw [e];rfl
    have key:∀ (s:List (ByteArray × T d)) (q:ByteArray × T d),BS (Bnd d) (q :: s) hi→(∀ k ∈ s.map (·.1),klt q.1 k=true∧ltB k hi)∧(s.map (·.1)).Pairwise (fun a b=>klt a b=true):=by
      intro s
      induction s with
      | nil=>intro q _;exact ⟨by simp,List.Pairwise.nil⟩
      | cons u s ih =>
        rintro q ⟨h1,h2,h3,h4⟩
        obtain ⟨g1,g2⟩:=ih u h4
        have hqu:klt q.1 u.1=true:=ltB_ne h1 (h3 u (List.mem_cons_self ..))
        refine ⟨fun k hk=>?_,List.Pairwise.cons (fun k hk=>(g1 k hk).1) g2⟩
        rcases List.mem_cons.1 hk with rfl | hk
        · exact ⟨hqu,bs_ltB d (u :: s) hi h4 (List.cons_ne_nil _ _)⟩
        · exact ⟨klt_tr hqu (g1 k hk).1,(g1 k hk).2⟩
    rw [e] at hb
    obtain ⟨g1,g2⟩:=key r p hb
    rw [hp] at g1
    rw [e3]
    exact ⟨fun k hk=>⟨klt_asy (g1 k hk).1,(g1 k hk).2⟩,g2,fun _ k hk=>(g1 k hk).1⟩
theorem Ky_of {d:Nat} {lo hi:ByteArray} {x:T d} (h:Bnd d lo hi x) (hl:(cellsT d x).length≤1000) (tk:Nat):Ky (nvT d x lo hi tk):=by
  obtain ⟨g1,g2,g3⟩:=keys_sort d h
  have hm:∀ i,i<(cellsT d x).length→tx (keysT d x) i ∈ keysT d x:=fun i hi=>by rw [tx_get (by rw [keys_len];exact hi)];exact List.getElem_mem _
  refine ⟨hl,fun i hi'=>⟨(cells_key d h i hi').2.1,?_⟩,fun i hi'=>?_,fun i hi'=>?_,fun i hi'=>?_⟩
  · have hi':i<(cellsT d x).length:=hi'
    have:tx (cellsT d x) i ∈ cellsT d x:=by rw [tx_get hi'];exact List.getElem_mem _
    exact cells_sz d h _ this
  · rw [show (nvT d x lo hi tk).cells=cellsT d x from rfl,(cells_key d h i hi').1]
    exact (g1 _ (hm i hi')).1
  · rw [show (nvT d x lo hi tk).cells=cellsT d x from rfl,(cells_key d h i hi').1]
    exact (g1 _ (hm i hi')).2
  · have hi':i+1<(cellsT d x).length:=hi'
    rw [show (nvT d x lo hi tk).cells=cellsT d x from rfl,(cells_key d h i (by omega)).1,(cells_key d h (i+1) hi').1]
    rw [tx_get (by rw [keys_len];omega),tx_get (by rw [keys_len];omega)]
    exact List.pairwise_iff_getElem.1 g2 i (i+1) (by rw [keys_len];omega) (by rw [keys_len];omega) (by omega)
theorem csound {d:Nat} {lo hi:ByteArray} {x:T d} (h:Bnd d lo hi x) (hl:(cellsT d x).length≤1000) (hs:d=0∨¬ cellsT d x=[]) {w:World} {p:Nat} (hn:NR w p (nvT d x lo hi 0)) :
    Calls Tryz.prog 164 #[(.pointer (some ⟨p,0,none⟩))] w fun e w'=>e=.returned (.bool true)∧Below w.heap.size w w':=by
  cases d with
  | zero=>exact cisSound1 hn (Ky_of h hl 0) rfl (fun i hi'=>(cells_key 0 h i hi').2.2.2)
  | succ d =>
    have hs:=List.length_pos_iff.2 (hs.resolve_left (by omega))
    refine cisSound2 hn (Ky_of h hl 0) rfl (fun i hi'=>(cells_key (d+1) h i hi').2.2.2) hs ?_
    rw [show (nvT (d+1) x lo hi 0).cells=cellsT (d+1) x from rfl,(cells_key (d+1) h 0 hs).1]
    exact (keys_sort (d+1) h).2.2 (by omega) _ (by rw [tx_get (by rw [keys_len];exact hs)];exact List.getElem_mem _)
section
variable {w w':World} {B D Gp:Nat} {V V':PV} {K:Pgs} {pk m:Nat} {A:Nat→PgV} {fl:List Nat} {pages tb root:Nat}
theorem used_few {l:List ByteArray} (h:usedC l≤1012):l.length≤1000:=by
  have:=used_len l
  omega
set_option maxRecDepth 20000 in
set_option maxHeartbeats 2000000 in
theorem cload (h:TS w B D Gp V K pk m A fl pages) (hm:m≤40000) (ht:TB w tb Gp root) {d:Nat} {lo hi:ByteArray} {x:T d} (hn:numT d x<pages) (hA:A (numT d x)=pgT d x) (hb:Bnd d lo hi x) (hs:d=0∨¬ cellsT d x=[]) :
    Calls Tryz.prog 105 #[(.pointer (some ⟨tb,0,none⟩)),.int .i64 (numT d x:Int),.string lo,.string hi] w fun e w'=>∃ (V':PV) (p:Nat),e=.returned (.pointer (some ⟨p,0,none⟩))∧TS w' B D Gp V' K pk m A fl pages∧St2 w w' B V V'∧ND w' w.heap.size p (nvT d x lo hi 0)∧w.heap.size≤p:=by
  obtain ⟨t0,t1,tlt⟩:=ht.cells
  have hu:usedC (cellsT d x)≤1012:=by
    obtain ⟨C,_,hC⟩:=h.po
    have:=(hC _ hn).2.used
    rw [hA] at this
    exact this
  have HR:=hide (ctread h (by omega) ht _ hn)
  rw [hA] at HR
  have HSND:=hide (fun (X:World) (p:Nat) (hN:NR X p (nvT d x lo hi 0))=>csound hb (used_few hu) hs hN)
  have HSZ:=hide (h.lo)
  clear h hA hb hs ht hn hu
  go_enter Tryz.func105,Tryz.ntmps105
  go_wp2_with fail
  refine HR.out.mono ?_
  rintro e w1 ⟨V1,s,rfl,k1,k2,k3⟩
  obtain ⟨a,c,rfl,-⟩:=StB.own (l:=(pgT d x).cells) k3
  obtain ⟨q1,q2⟩:=k1.below (w':=w1.alloc (.cells (ndC (nvT d x lo hi 0) (.slice a (cellsT d x).length c)) 98)) ((Below.refl _ _).alloc (Nat.le_refl _) _)
  have hnd:ND (w1.alloc (.cells (ndC (nvT d x lo hi 0) (.slice a (cellsT d x).length c)) 98)) w.heap.size w1.heap.size (nvT d x lo hi 0):=⟨_,World.alloc_heap_new w1 _,own_below k3 ((Below.refl _ _).alloc (Nat.le_refl _) _)⟩
  have HND:=hide (hnd)
  have HQ:=hide (show TS (w1.alloc (.cells (ndC (nvT d x lo hi 0) (.slice a (cellsT d x).length c)) 98)) B D Gp V1 K pk m A fl pages∧St2 w (w1.alloc (.cells (ndC (nvT d x lo hi 0) (.slice a (cellsT d x).length c)) 98)) B V V1∧w.heap.size≤w1.heap.size from ⟨q1,k2.trans q2,k2.bel.size⟩)
  have HS2:=hide (HSND.out _ _ hnd.nr)
  have he:(w1.alloc (.cells (ndC (nvT d x lo hi 0) (.slice a (cellsT d x).length c)) 98))=w1.alloc (.cells #[.int .i64 ((pgT d x).kind:Int),.int .i64 ((pgT d x).link:Int),.slice a (pgT d x).cells.length c,.int .i64 (numT d x:Int),.string lo,.string hi,.int .i64 0] 98):=rfl
  rw [he] at HND HQ HS2
  generalize (pgT d x).kind=kd at *
  generalize (pgT d x).link=lk at *
  generalize hcl:(pgT d x).cells.length=cl at *
  clear k1 k2 k3 q1 q2 hnd HR HSND he hcl
  go_wp2_with fail
  refine HS2.out.mono ?_
  rintro e w2 ⟨rfl,hb2⟩
  have HB2:=hide (hb2)
  clear hb2
  go_wp2_with fail
  go_ret
  obtain ⟨q1,q2,q3⟩:=HQ.out
  obtain ⟨r1,r2⟩:=q1.below HB2.out
  exact ⟨V1,w1.heap.size,rfl,r1,q2.trans r2,q1.stayND r2 HND.out,q3⟩
end
end Go.Proofs.YtmgjdjjfeapcdaaGreat
