/- A script of relstorekeep that comes in as an argument: how it lies in memory. -/
import Derived.Test.YtmgjdjjfeapcdaaGreatTuS
import Derived.ProofKit
import Derived.OpenShut
import Derived.ChangeSlices
import Derived.Deep.Slices
import Derived.Deep.Strs
import Derived.SizedLaws
namespace Go.Proofs.YtmgjdjjfeapcdaaGreat
open Go.ChangeShapes Go.WideShapes Go.ChangeAt Go.RowKit Go.Deep
theorem cellsK:Tryz.prog.cellsOf 57=6:=by kernel_rfl
theorem bytesK:Tryz.prog.bytesOf 57=64:=by kernel_rfl
theorem cIntK:Tryz.prog.cellsOf 3=1:=by kernel_rfl
theorem cStrK:Tryz.prog.cellsOf 9=1:=by kernel_rfl
theorem cell_ltQ {W:World} {b o:Nat} {v:Value} (h:W.cell? ⟨b,o,none⟩=some v):b<W.heap.size:=by
  rcases Nat.lt_or_ge b W.heap.size with h' | h'
  · exact h'
  · simp [World.cell?,Array.getElem?_eq_none h'] at h
theorem trod6 {H:Type} {enc:TypeId × Value→H} {P:Program} {w:World} {base:Nat} {spare:Nat→Bool} {held:Bool} {t:TypeId} {f0 f1 f2 f3 f4 f5:Field} {fuel:Nat} {cs:List Value} {x:DataW H × List MemPlace}
    (ht:P.underlying t=some (.struct #[f0,f1,f2,f3,f4,f5])) (h:DataW.trod enc P w base spare held fuel t cs=some x) :
    ∃ y0 y1 y2 y3 y4 y5 n, x.1 = .agg [y0.1, y1.1, y2.1, y3.1, y4.1, y5.1] ∧ cs.length = P.cellsOf t ∧
      DataW.trod enc P w base spare held n f0.type ((cs.drop f0.offset).take (P.cellsOf f0.type))=some y0∧DataW.trod enc P w base spare held n f1.type ((cs.drop f1.offset).take (P.cellsOf f1.type))=some y1 ∧
      DataW.trod enc P w base spare held n f2.type ((cs.drop f2.offset).take (P.cellsOf f2.type))=some y2∧DataW.trod enc P w base spare held n f3.type ((cs.drop f3.offset).take (P.cellsOf f3.type))=some y3 ∧
      DataW.trod enc P w base spare held n f4.type ((cs.drop f4.offset).take (P.cellsOf f4.type))=some y4∧DataW.trod enc P w base spare held n f5.type ((cs.drop f5.offset).take (P.cellsOf f5.type))=some y5:=by
  obtain ⟨xs,n,_,rfl,hl,hlen,hf⟩:=DataW.trod_struct ht h
  match xs,hlen with
  | [y0,y1,y2,y3,y4,y5],_=>exact ⟨y0,y1,y2,y3,y4,y5,n,by simp,hl,by simpa using hf 0 f0 rfl,by simpa using hf 1 f1 rfl,by simpa using hf 2 f2 rfl,by simpa using hf 3 f3 rfl,by simpa using hf 4 f4 rfl,by simpa using hf 5 f5 rfl⟩
theorem weights_all {H:Type} {P:Program} {e:TypeId} {n:Nat}:∀ {l:List (DataW H)} {d:DataW H},d ∈ l→n ∈ d.weights P e→n ∈ DataW.weightsAll P e l
  | x :: l, d, h, hn => by
    simp only [DataW.weightsAll,List.mem_append]
    rcases List.mem_cons.1 h with rfl | h
    · exact .inl hn
    · exact .inr (weights_all h hn)
def act0Q:ActQ:=⟨0,0,0,0,⟨#[]⟩,⟨#[]⟩⟩
instance : Inhabited ActQ := ⟨act0Q⟩
set_option maxRecDepth 100000 in
theorem open_actsQ {H:Type} {enc:TypeId × Value→H} {W:World} {a:Option Addr} {len cap:Nat} {d:DataW H} {p:List MemPlace} (h:DataW.Trod enc Tryz.prog W 0 (fun _=>true) true 53 (.slice a len cap) d p) (hz:∀ n ∈ d.weights Tryz.prog 53,n≤reachBytes) :
    (∃ A,liesQ W a len A)∧len≤cap∧(a=none→len=0∧cap=0)∧len≤reachBytes:=by
  obtain ⟨fuel,hf⟩:=h
  rcases open_slice Tryz.underlying53 hf with ⟨hcs,hx⟩ | ⟨ad,l,c,m,n,D,Pl,hcs,_,hl,_,hm,hx,hel⟩
  · simp [Value.cells] at hcs
    obtain ⟨rfl,rfl,rfl⟩:=hcs
    exact ⟨⟨fun _=>act0Q,.inl rfl⟩,Nat.le_refl _,fun _=>⟨rfl,rfl⟩,Nat.zero_le _⟩
  · simp [Value.cells] at hcs
    obtain ⟨rfl,rfl,rfl⟩:=hcs
    simp only [if_true] at hm
    simp only [Prod.mk.injEq] at hx
    have hd:=hx.1
    have hlen0:len≤reachBytes:=by
      have:=hz ((((List.range len).map D).length+((List.range (m - len)).map fun j=>D (len+j)).length) * Tryz.prog.bytesOf 57) (by
        rw [hd]
        simp only [DataW.weights,Tryz.underlying53]
        exact List.mem_cons_self ..)
      rw [bytesK] at this
      simp only [List.length_map,List.length_range] at this
      omega
    have hw:∀ i,i<len→∀ q ∈ (D i).weights Tryz.prog 57,q≤reachBytes:=fun i hi q hq=>by
      refine hz q ?_
      rw [hd]
      simp only [DataW.weights,Tryz.underlying53]
      exact List.mem_cons_of_mem _ (List.mem_append.2 (.inl (weights_all (List.mem_map.2 ⟨i,List.mem_range.2 hi,rfl⟩) hq)))
    have each:∀ i,i<len→∃ x:ActQ,okQ x∧∀ j,j<6→W.cell? (ad.add (i * 6+j))=(actQ x)[j]?:=by
      intro i hi
      obtain ⟨cs',h1,h2⟩:=hel i (by omega)
      rw [cellsK] at h1
      obtain ⟨_,hlen,hcell⟩:=World.cells?_some h1
      obtain ⟨y0,y1,y2,y3,y4,y5,k,e8,_,g0,g1,g2,g3,g4,g5⟩:=trod6 Tryz.underlying57 h2
      rw [cIntK] at g0 g1 g2 g3
      rw [cStrK] at g4 g5
      obtain ⟨x0,e0,_,w0⟩:=DataW.trod_int Tryz.underlying3 g0
      obtain ⟨x1,e1,_,_⟩:=DataW.trod_int Tryz.underlying3 g1
      obtain ⟨x2,e2,_,_⟩:=DataW.trod_int Tryz.underlying3 g2
      obtain ⟨x3,e3,_,w3⟩:=DataW.trod_int Tryz.underlying3 g3
      obtain ⟨x4,e4,d4,_⟩:=DataW.trod_string Tryz.underlying9 g4
      obtain ⟨x5,e5,d5,_⟩:=DataW.trod_string Tryz.underlying9 g5
      have q:∀ j,j<6→W.cell? (ad.add (i * 6+j))=cs'[j]?:=fun j hj=>by
        have:=hcell j (by omega)
        rw [add_add] at this
        exact this
      match cs',hlen with
      | [v0, v1, v2, v3, v4, v5], _ =>
        simp at e0 e1 e2 e3 e4 e5
        subst e0 e1 e2 e3 e4 e5
        have s4:x4.size≤reachBytes:=hw i hi _ (by
          have e8':D i=_:=e8
          rw [e8']
          simp only [DataW.weights,Tryz.underlying57]
          refine DataW.weights_mem_each (j:=4) (t:=9) rfl rfl _ ?_
          rw [d4]
          simp only [DataW.weights]
          exact List.mem_singleton.2 (by rw [Array.length_toList];rfl))
        have s5:x5.size≤reachBytes:=hw i hi _ (by
          have e8':D i=_:=e8
          rw [e8']
          simp only [DataW.weights,Tryz.underlying57]
          refine DataW.weights_mem_each (j:=5) (t:=9) rfl rfl _ ?_
          rw [d5]
          simp only [DataW.weights]
          exact List.mem_singleton.2 (by rw [Array.length_toList];rfl))
        unfold reachBytes at s4 s5
        exact ⟨⟨x0,x1,x2,x3,x4,x5⟩,⟨bounds_i64 w0,bounds_i64 w3,by show x4.size≤_;omega,by show x5.size≤_;omega⟩,q⟩
    obtain ⟨A,hA⟩:=choose_lt each
    refine ⟨⟨A,?_⟩,hl,(fun e=>by cases e),hlen0⟩
    by_cases h0:len=0
    · exact .inl h0
    · right
      obtain ⟨b,off,spot⟩:=ad
      have h1:=(hA 0 (by omega)).2 0 (by decide)
      have h1':W.cell? ((⟨b,off,spot⟩:Addr).add 0)=some (.int .i64 (A 0).k):=h1
      have hspot:spot=none:=by simpa [Addr.add] using World.cell?_spot h1'
      subst hspot
      rw [Addr.add_lit] at h1'
      refine ⟨b,off,rfl,cell_ltQ h1',fun i hi=>⟨(hA i hi).1,fun j hj=>?_⟩⟩
      have:=(hA i hi).2 j hj
      rwa [Addr.add_lit] at this
end Go.Proofs.YtmgjdjjfeapcdaaGreat
