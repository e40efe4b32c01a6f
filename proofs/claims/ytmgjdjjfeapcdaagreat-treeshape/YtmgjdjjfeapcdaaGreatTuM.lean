/- a map of texts to numbers: the set of texts that are there -/
import Derived.Test.YtmgjdjjfeapcdaaGreatMgAG
import Derived.Maps.StringElems
namespace Go.Proofs.YtmgjdjjfeapcdaaGreat
open Go.RowKit Go.Lib Go.Maps
theorem lawS:Keyed Tryz.prog 9:=string_keyed Tryz.underlying9
def litS:Lit→ByteArray
  | .string l=>⟨l.toArray⟩
  | _=>⟨#[]⟩
theorem litS_mk (s:ByteArray):litS (.string s.data.toList)=s:=by cases s;simp [litS]
theorem own_keysS {R:Value→Option (DataW Unit × List MemPlace)} {X:World} {b n:Nat} {D:DataW Unit} (h:X.ownsMap Tryz.prog 9 R b n D):∃ ks:List ByteArray,ks.Nodup∧X.ownsMap Tryz.prog 9 R b ks.length D∧Maps.size D=ks.length∧(∀ x:ByteArray,(Maps.has D (.string x.data.toList)=true ↔ x ∈ ks))∧∀ x ∈ ks,x.size≤maxLen:=by
  obtain ⟨es0,e0,hp,-⟩:=h.entries lawS
  obtain ⟨es,clock,hb,F,hs,hD⟩:=h
  have hL:es0=(es.toList.map (WideElems.rg Tryz.prog 9 R)).foldr DataW.insert []:=by
    rw [e0] at hD
    injection hD
  have hI:∀ p ∈ es0,∃ x:ByteArray,p.1=.string x.data.toList∧x.size≤maxLen:=fun p hp=>by
    rw [hL,mem_sorted,List.mem_map] at hp
    obtain ⟨en,hen,rfl⟩:=hp
    obtain ⟨y,hy⟩:=F.reads en hen
    have hk:=WideElems.rd_key hy
    obtain ⟨x,-,h2,h3⟩:=WideMaps.string_of_keyOf Tryz.underlying9 hk
    refine ⟨x,?_,h3⟩
    unfold WideElems.rg
    rw [hy]
    exact h2
  have hlen:es0.length=es.size:=by rw [hL];exact length_read es
  subst e0
  refine ⟨es0.map (fun p=>litS p.1),?_,⟨es,clock,hb,F,by rw [List.length_map,hlen];exact Nat.le_refl _,hD⟩,by rw [List.length_map];rfl,fun x=>?_,fun x hx=>?_⟩
  · refine List.pairwise_map.2 (List.Pairwise.imp_of_mem ?_ hp)
    intro p q h1 h2 hne he
    obtain ⟨x,ex,-⟩:=hI p h1
    obtain ⟨y,ey,-⟩:=hI q h2
    rw [ex,ey] at he hne
    rw [litS_mk,litS_mk] at he
    exact hne (by rw [he])
  · rw [has_eq,List.any_eq_true,List.mem_map]
    constructor
    · rintro ⟨p,h1,h2⟩
      refine ⟨p,h1,?_⟩
      obtain ⟨y,ey,-⟩:=hI p h1
      rw [ey] at h2 ⊢
      rw [litS_mk]
      by_cases e:y=x
      · exact e
      · rw [sameKey_ne (fun h=>e (by injection h with h;have:=congrArg List.toArray h;cases x;cases y;simp at this;rw [this]))] at h2
        cases h2
    · rintro ⟨p,h1,h2⟩
      refine ⟨p,h1,?_⟩
      obtain ⟨y,ey,-⟩:=hI p h1
      rw [ey] at h2 ⊢
      rw [litS_mk] at h2
      subst h2
      simp [Lit.sameKey]
  · obtain ⟨p,h1,rfl⟩:=List.mem_map.1 hx
    obtain ⟨y,ey,iy⟩:=hI p h1
    rw [ey,litS_mk]
    exact iy
/- block b is a map that has the texts ks, each with the number 1 -/
def MT (X:World) (b n:Nat) (ks:List ByteArray):Prop:=∃ D:DataW Unit,X.ownsMap Tryz.prog 9 (plainElem Tryz.prog 3) b n D∧∀ s:ByteArray,(Maps.has D (.string s.data.toList)=true ↔ s ∈ ks)∧(s ∈ ks→∀ z,D.atKey (.string s.data.toList) z=.lit (.int .i64 1))
theorem MT.lt {X:World} {b n:Nat} {ks:List ByteArray} (h:MT X b n ks):b<X.heap.size:=by obtain ⟨D,h,-⟩:=h;exact h.lt
theorem MT.mono {X:World} {b n m:Nat} {ks:List ByteArray} (h:MT X b n ks) (hn:n≤m):MT X b m ks:=by obtain ⟨D,h,k⟩:=h;exact ⟨D,h.mono hn,k⟩
theorem MT.keep {X Y:World} {b n:Nat} {ks:List ByteArray} (h:MT X b n ks) (e:Y.heap[b]?=X.heap[b]?):MT Y b n ks:=by
  obtain ⟨D,⟨es,clock,hb,r⟩,k⟩:=h
  exact ⟨D,⟨es,clock,e.trans hb,r⟩,k⟩
theorem MT.isMap {X:World} {b n:Nat} {ks:List ByteArray} (h:MT X b n ks):∃ es clock,X.heap[b]?=some (.map es clock):=by
  obtain ⟨D,⟨es,clock,hb,r⟩,k⟩:=h
  exact ⟨es,clock,hb⟩
theorem MT.made (X:World):MT (X.alloc (.map #[] 0)) X.heap.size 0 []:=
  ⟨.map [],World.ownsMap_made X _ _ _,fun _=>⟨by simp [has_eq],fun h=>by cases h⟩⟩
theorem MT.look {X:World} {b n:Nat} {ks:List ByteArray} (h:MT X b n ks) (s:ByteArray) (hs:s.size≤maxLen) (hin:s ∈ ks) :
    (Instr.lookup 54 (.map (some b)) (.string s) false).run Tryz.prog X=.ok (.int .i64 1) X:=by
  obtain ⟨D,h,k⟩:=h
  obtain ⟨k1,k2⟩:=k s
  obtain ⟨c,hrun,hc,-⟩:=h.lookup_int lawS Tryz.underlying54 Tryz.underlying3 (zeroI X) (WideMaps.keyOf_string_mk Tryz.underlying9 hs)
  rw [k2 hin] at hc
  have e:c=1:=by simp at hc;exact hc.symm
  rw [hrun,e]
theorem lit_ne {x y:ByteArray} (h:¬ y=x):Lit.string y.data.toList ≠ Lit.string x.data.toList:=fun e=>h (by injection e with e;have:=congrArg List.toArray e;cases x;cases y;simp at this;rw [this])
theorem MT.put {X:World} {b n:Nat} {ks ks':List ByteArray} (h:MT X b n ks) (hn:n≤1000000) {x:ByteArray} (hx:x.size≤maxLen) (hk:∀ y,y ∈ ks' ↔ y=x∨y ∈ ks) :
    ∃ Y,(Instr.mapUpdate 54 (.map (some b)) (.string x) (.int .i64 1)).run Tryz.prog X=.ok () Y∧MT Y b (n+1) ks'∧X.grownBy Y (some b):=by
  obtain ⟨D,h,k⟩:=h
  obtain ⟨Y,hrun,hY,hg⟩:=h.update lawS Tryz.underlying54 (by unfold maxLen;omega) (WideMaps.keyOf_string_mk Tryz.underlying9 hx) (plainElem_int (H:=Unit) Tryz.underlying3 (i64_in (x:=1) (by decide) (by decide)))
  refine ⟨Y,hrun,⟨_,hY,fun y=>?_⟩,hg⟩
  rw [hk]
  by_cases e:y=x
  · subst e
    refine ⟨⟨fun _=>.inl rfl,fun _=>has_put_same h.isMap (by simp [WideAt.IsKeyLit]) _⟩,fun _ z=>atKey_put_same h.isMap (by simp [WideAt.IsKeyLit]) _ z⟩
  · rw [has_put_other (lit_ne e)]
    refine ⟨⟨fun q=>.inr ((k y).1.1 q),fun q=>(k y).1.2 (q.resolve_left e)⟩,fun q z=>?_⟩
    rw [atKey_put_other (lit_ne e)]
    exact (k y).2 (q.resolve_left e) z
theorem MT.drop {X:World} {b n:Nat} {ks ks':List ByteArray} (h:MT X b n ks) {x:ByteArray} (hx:x.size≤maxLen) (hk:∀ y,y ∈ ks' ↔ ¬ y=x∧y ∈ ks) (ty:TypeId) :
    ∃ Y,(Builtin.delete_ #[54,9] ty #[.map (some b),.string x]).run Tryz.prog X=.ok (.tuple #[]) Y∧MT Y b n ks'∧X.grownBy Y (some b):=by
  obtain ⟨D,h,k⟩:=h
  obtain ⟨Y,hrun,hY,hg⟩:=h.drop lawS Tryz.underlying54 (WideMaps.keyOf_string_mk Tryz.underlying9 hx) ty
  refine ⟨Y,hrun,⟨_,hY,fun y=>?_⟩,hg.grown⟩
  rw [hk]
  by_cases e:y=x
  · subst e
    refine ⟨⟨fun q=>(by rw [has_del_same] at q;cases q),fun q=>absurd rfl q.1⟩,fun q=>absurd rfl q.1⟩
  · rw [has_del_other (lit_ne e)]
    refine ⟨⟨fun q=>⟨e,(k y).1.1 q⟩,fun q=>(k y).1.2 q.2⟩,fun q z=>?_⟩
    rw [atKey_del_other (lit_ne e)]
    exact (k y).2 q.2 z
theorem nodup_lenS:∀ {ks l:List ByteArray},ks.Nodup→(∀ x ∈ ks,x ∈ l)→ks.length≤l.length
  | [],_,_,_=>Nat.zero_le _
  | x :: r, l, hd, hm => by
    obtain ⟨a,b,rfl⟩:=List.append_of_mem (hm x (by simp))
    have h1:=nodup_lenS (ks:=r) (l:=a ++ b) (List.nodup_cons.1 hd).2 (fun y hy=>by
      have hne:¬ y=x:=fun e=>(List.nodup_cons.1 hd).1 (by rw [← e];exact hy)
      have:=hm y (List.mem_cons_of_mem _ hy)
      rw [List.mem_append,List.mem_cons] at this
      rw [List.mem_append]
      exact this.imp id (fun h=>h.resolve_left hne))
    rw [List.length_append] at h1
    rw [List.length_cons,List.length_append,List.length_cons]
    omega
theorem MT.len {X:World} {b n:Nat} {ks:List ByteArray} (h:MT X b n ks) (hd:ks.Nodup) (ty:TypeId):(Builtin.len_ #[54] ty #[.map (some b)]).run Tryz.prog X=.ok (.int .i64 (ks.length:Int)) X:=by
  obtain ⟨D,h,k⟩:=h
  obtain ⟨l,hl,-,hsz,hm,-⟩:=own_keysS h
  have hk:∀ x,x ∈ l ↔ x ∈ ks:=fun x=>(hm x).symm.trans (k x).1
  have e:Maps.size D=ks.length:=by
    rw [hsz]
    exact Nat.le_antisymm (nodup_lenS hl fun x hx=>(hk x).1 hx) (nodup_lenS hd fun x hx=>(hk x).2 hx)
  rw [h.len Tryz.underlying54 ty,e]
end Go.Proofs.YtmgjdjjfeapcdaaGreat
