/- relstorekeep: a shape's rows grow -/
import Derived.Test.YtmgjdjjfeapcdaaGreatMgCD
import Derived.Test.YtmgjdjjfeapcdaaGreatMgAV
import Derived.Test.YtmgjdjjfeapcdaaGreatMgAM
import Derived.Test.YtmgjdjjfeapcdaaGreatTuM
import Derived.Test.YtmgjdjjfeapcdaaGreatMgAW
import Derived.Test.YtmgjdjjfeapcdaaGreatMgAL
namespace Go.Proofs.YtmgjdjjfeapcdaaGreat
open Go.RowKit Go.Lib Go.Maps Go.Sort
section
variable {w X Y:World} {B D Gp:Nat} {V:PV} {K:Pgs} {pk m:Nat} {A:Nat→PgV} {fl:List Nat} {pages sp k:Nat} {va vb vc v':Value} {lv ln:List Nat} {ks:List ByteArray} {ok:Bool}
theorem Sp.same (h:Sp X sp V k va vb vc lv ln ks ok):X.setCell ⟨sp,4,none⟩ (.bool ok)=X:=by
  have e:(X.setCell ⟨sp,4,none⟩ (.bool ok)).heap=X.heap:=by
    apply Array.ext_getElem?
    intro c
    by_cases hc:c=sp
    · subst hc
      rw [set_blk h.blk,h.blk]
      rfl
    · exact Below.heap_setCell _ _ _ _ (by show ¬ c=sp;exact hc)
  have e2:X.setCell ⟨sp,4,none⟩ (.bool ok)={ X with heap:=(X.setCell ⟨sp,4,none⟩ (.bool ok)).heap }:=rfl
  rw [e2,e]
theorem row_far {t:TypeId} {v:Value} {n base:Nat} {xs:List Value} (h:Sp X sp V k va vb vc lv ln ks ok) (hr:X.ownsRow base t 1 v n xs) (ht:¬ t=64):¬ v.ownBlock=some sp:=fun e=>by
  obtain ⟨cs,hcs⟩:=row_isC hr e
  rw [h.blk] at hcs
  injection hcs with hcs
  injection hcs with _ hcs _
  exact ht hcs.symm
theorem Sp.appA (h:TS X B D Gp V K pk m A fl pages) (hp:Sp X sp V k va vb vc lv ln ks ok) (hB:B≤sp) {n:Nat} (hg:X.grownBy Y va.ownBlock) (ho:Y.ownsRow sp 3 1 v' (lv.length+1) (intsN lv ++ [.int .i64 (n:Int)])) (hn:v'.ownBlock=va.ownBlock∨v'.ownBlock=some X.heap.size):TS (Y.setCell ⟨sp,1,none⟩ v') B D Gp V K pk m A fl pages∧Sp (Y.setCell ⟨sp,1,none⟩ v') sp V k v' vb vc (lv ++ [n]) ln ks ok∧HF sp B X (Y.setCell ⟨sp,1,none⟩ v') V V vc vc:=by
  have hrow:=hp.ra
  have hspn:=row_far hp hrow (by decide)
  have hsY:Y.heap[sp]? = some (.cells #[.int .i64 (k:Int),va,vb,vc,.bool ok] 64 (0,0)):=(hg.block sp hp.cells.2.2.2.2.2.2 (fun e=>hspn e.symm)).trans hp.blk
  have hk:Kpt X Y B V.b.vo:=⟨hg.size,fun c hc hl=>hg.block c hc (fun e=>hl (by
    obtain ⟨cs,hcs⟩:=row_isC hrow e.symm
    exact .inr (.inr ⟨⟨cs,hcs⟩,hp.na c e.symm⟩)))⟩
  have hvs:¬ v'.ownBlock=some sp:=fun e=>by
    rcases hn with q | q
    · exact hspn (q.symm.trans e)
    · rw [q] at e
      injection e with e
      have:=hp.cells.2.2.2.2.2.2
      omega
  have hz:∀ c,¬ c=sp→(Y.setCell ⟨sp,1,none⟩ v').heap[c]? = Y.heap[c]?:=fun c hc=>Below.heap_setCell _ _ _ _ (by show ¬ c=sp;exact hc)
  have old:∀ c,c<X.heap.size→¬ va.ownBlock=some c→¬ c=sp→(Y.setCell ⟨sp,1,none⟩ v').heap[c]? = X.heap[c]?:=fun c h1 h2 h3=>(hz c h3).trans (hg.block c h1 (fun e=>h2 e.symm))
  have gs:=set_grown Y sp 1 v'
  refine ⟨(h.keptN hk).other gs ⟨_,hsY⟩ (by decide),⟨set_blk hsY,?_,?_,?_,?_,?_,?_⟩,⟨fun w0 V0 a b c=>?_,fun c cs t a b d e=>?_,fun c cs a b=>?_,Nat.le_trans hg.size gs.size⟩⟩
  · have e1:(lv ++ [n]).length=lv.length+1:=by simp
    have e2:intsN (lv ++ [n])=intsN lv ++ [.int .i64 (n:Int)]:=by simp [intsN]
    rw [e1,e2]
    exact row_keep ho fun g hgg=>hz g (fun q=>hvs (by rw [hgg,q]))
  · exact row_keep hp.rb fun g hgg=>old g (World.ownsRow.lt hp.rb g hgg).2 (fun q=>hp.dif g q hgg) (fun q=>row_far hp hp.rb (by decide) (by rw [hgg,q]))
  · exact row_keep hp.rc fun g hgg=>old g (World.ownsRow.lt hp.rc g hgg).2 (fun q=>by
      obtain ⟨c1,h1⟩:=row_isC hp.rc hgg
      obtain ⟨c2,h2⟩:=row_isC hrow q
      rw [h1] at h2
      injection h2 with h2
      injection h2 with _ h2 _
      exact absurd h2 (by decide)) (fun q=>row_far hp hp.rc (by decide) (by rw [hgg,q]))
  · intro g hgg
    rcases hn with q | q
    · exact hp.na g (q.symm.trans hgg)
    · rw [q] at hgg
      injection hgg with hgg
      subst hgg
      exact h.newI (Nat.le_refl _)
  · exact hp.nb
  · intro g hgg hb
    rcases hn with q | q
    · exact hp.dif g (q.symm.trans hgg) hb
    · rw [q] at hgg
      injection hgg with hgg
      have:=(World.ownsRow.lt hp.rb g hb).2
      omega
  · exact a.keep2 (o:=va.ownBlock) (o':=some sp) ⟨gs.os.trans hg.os,gs.tape.trans hg.tape,gs.output.trans hg.output,Nat.le_trans hg.size gs.size,fun c hc h1 h2=>(gs.block c (Nat.lt_of_lt_of_le hc hg.size) h2).trans (hg.block c hc h1)⟩ (fun g e=>Nat.le_trans b (World.ownsRow.lt hrow g e).1) (fun g e=>by injection e with e;omega) c
  · refine (old c (Array.getElem?_eq_some_iff.1 a).1 (fun q=>?_) (fun q=>?_)).trans a
    · obtain ⟨c2,h2⟩:=row_isC hrow q
      rw [a] at h2
      injection h2 with h2
      injection h2 with _ h2 _
      rw [h2] at b
      exact absurd b (by decide)
    · subst q
      rw [hp.blk] at a
      injection a with a
      injection a with _ a _
      exact e a.symm
  · refine ⟨(old c (Array.getElem?_eq_some_iff.1 a).1 (fun q=>?_) (fun q=>by
      subst q
      rw [hp.blk] at a
      injection a with a
      injection a with _ a _
      exact absurd a (by decide))).trans a,b⟩
    obtain ⟨c2,h2⟩:=row_isC hrow q
    rw [a] at h2
    injection h2 with h2
    injection h2 with _ h2 _
    exact absurd h2 (by decide)
theorem Sp.appB (h:TS X B D Gp V K pk m A fl pages) (hp:Sp X sp V k va vb vc lv ln ks ok) (hB:B≤sp) {n:Nat} (hg:X.grownBy Y vb.ownBlock) (ho:Y.ownsRow sp 3 1 v' (ln.length+1) (intsN ln ++ [.int .i64 (n:Int)])) (hn:v'.ownBlock=vb.ownBlock∨v'.ownBlock=some X.heap.size):TS (Y.setCell ⟨sp,2,none⟩ v') B D Gp V K pk m A fl pages∧Sp (Y.setCell ⟨sp,2,none⟩ v') sp V k va v' vc lv (ln ++ [n]) ks ok∧HF sp B X (Y.setCell ⟨sp,2,none⟩ v') V V vc vc:=by
  have hrow:=hp.rb
  have hspn:=row_far hp hrow (by decide)
  have hsY:Y.heap[sp]? = some (.cells #[.int .i64 (k:Int),va,vb,vc,.bool ok] 64 (0,0)):=(hg.block sp hp.cells.2.2.2.2.2.2 (fun e=>hspn e.symm)).trans hp.blk
  have hk:Kpt X Y B V.b.vo:=⟨hg.size,fun c hc hl=>hg.block c hc (fun e=>hl (by
    obtain ⟨cs,hcs⟩:=row_isC hrow e.symm
    exact .inr (.inr ⟨⟨cs,hcs⟩,hp.nb c e.symm⟩)))⟩
  have hvs:¬ v'.ownBlock=some sp:=fun e=>by
    rcases hn with q | q
    · exact hspn (q.symm.trans e)
    · rw [q] at e
      injection e with e
      have:=hp.cells.2.2.2.2.2.2
      omega
  have hz:∀ c,¬ c=sp→(Y.setCell ⟨sp,2,none⟩ v').heap[c]? = Y.heap[c]?:=fun c hc=>Below.heap_setCell _ _ _ _ (by show ¬ c=sp;exact hc)
  have old:∀ c,c<X.heap.size→¬ vb.ownBlock=some c→¬ c=sp→(Y.setCell ⟨sp,2,none⟩ v').heap[c]? = X.heap[c]?:=fun c h1 h2 h3=>(hz c h3).trans (hg.block c h1 (fun e=>h2 e.symm))
  have gs:=set_grown Y sp 2 v'
  refine ⟨(h.keptN hk).other gs ⟨_,hsY⟩ (by decide),⟨set_blk hsY,?_,?_,?_,?_,?_,?_⟩,⟨fun w0 V0 a b c=>?_,fun c cs t a b d e=>?_,fun c cs a b=>?_,Nat.le_trans hg.size gs.size⟩⟩
  · exact row_keep hp.ra fun g hgg=>old g (World.ownsRow.lt hp.ra g hgg).2 (fun q=>hp.dif g hgg q) (fun q=>row_far hp hp.ra (by decide) (by rw [hgg,q]))
  · have e1:(ln ++ [n]).length=ln.length+1:=by simp
    have e2:intsN (ln ++ [n])=intsN ln ++ [.int .i64 (n:Int)]:=by simp [intsN]
    rw [e1,e2]
    exact row_keep ho fun g hgg=>hz g (fun q=>hvs (by rw [hgg,q]))
  · exact row_keep hp.rc fun g hgg=>old g (World.ownsRow.lt hp.rc g hgg).2 (fun q=>by
      obtain ⟨c1,h1⟩:=row_isC hp.rc hgg
      obtain ⟨c2,h2⟩:=row_isC hrow q
      rw [h1] at h2
      injection h2 with h2
      injection h2 with _ h2 _
      exact absurd h2 (by decide)) (fun q=>row_far hp hp.rc (by decide) (by rw [hgg,q]))
  · exact hp.na
  · intro g hgg
    rcases hn with q | q
    · exact hp.nb g (q.symm.trans hgg)
    · rw [q] at hgg
      injection hgg with hgg
      subst hgg
      exact h.newI (Nat.le_refl _)
  · intro g ha hgg
    rcases hn with q | q
    · exact hp.dif g ha (q.symm.trans hgg)
    · rw [q] at hgg
      injection hgg with hgg
      have:=(World.ownsRow.lt hp.ra g ha).2
      omega
  · exact a.keep2 (o:=vb.ownBlock) (o':=some sp) ⟨gs.os.trans hg.os,gs.tape.trans hg.tape,gs.output.trans hg.output,Nat.le_trans hg.size gs.size,fun c hc h1 h2=>(gs.block c (Nat.lt_of_lt_of_le hc hg.size) h2).trans (hg.block c hc h1)⟩ (fun g e=>Nat.le_trans b (World.ownsRow.lt hrow g e).1) (fun g e=>by injection e with e;omega) c
  · refine (old c (Array.getElem?_eq_some_iff.1 a).1 (fun q=>?_) (fun q=>?_)).trans a
    · obtain ⟨c2,h2⟩:=row_isC hrow q
      rw [a] at h2
      injection h2 with h2
      injection h2 with _ h2 _
      rw [h2] at b
      exact absurd b (by decide)
    · subst q
      rw [hp.blk] at a
      injection a with a
      injection a with _ a _
      exact e a.symm
  · refine ⟨(old c (Array.getElem?_eq_some_iff.1 a).1 (fun q=>?_) (fun q=>by
      subst q
      rw [hp.blk] at a
      injection a with a
      injection a with _ a _
      exact absurd a (by decide))).trans a,b⟩
    obtain ⟨c2,h2⟩:=row_isC hrow q
    rw [a] at h2
    injection h2 with h2
    injection h2 with _ h2 _
    exact absurd h2 (by decide)
theorem Sp.appC (h:TS X B D Gp V K pk m A fl pages) (hp:Sp X sp V k va vb vc lv ln ks ok) (hB:B≤sp) {n:ByteArray} (hg:X.grownBy Y vc.ownBlock) (ho:Y.ownsRow sp 9 1 v' (ks.length+1) (valsS ks ++ [.string n])) (hn:v'.ownBlock=vc.ownBlock∨v'.ownBlock=some X.heap.size):TS (Y.setCell ⟨sp,3,none⟩ v') B D Gp V K pk m A fl pages∧Sp (Y.setCell ⟨sp,3,none⟩ v') sp V k va vb v' lv ln (ks ++ [n]) ok∧HF sp B X (Y.setCell ⟨sp,3,none⟩ v') V V vc v':=by
  have hrow:=hp.rc
  have hspn:=row_far hp hrow (by decide)
  have hsY:Y.heap[sp]? = some (.cells #[.int .i64 (k:Int),va,vb,vc,.bool ok] 64 (0,0)):=(hg.block sp hp.cells.2.2.2.2.2.2 (fun e=>hspn e.symm)).trans hp.blk
  have hk:Kpt X Y B V.b.vo:=⟨hg.size,fun c hc hl=>hg.block c hc (fun e=>hl (by
    obtain ⟨cs,hcs⟩:=row_isC hrow e.symm
    exact .inl ⟨cs,_,hcs,by decide⟩))⟩
  have hvs:¬ v'.ownBlock=some sp:=fun e=>by
    rcases hn with q | q
    · exact hspn (q.symm.trans e)
    · rw [q] at e
      injection e with e
      have:=hp.cells.2.2.2.2.2.2
      omega
  have hz:∀ c,¬ c=sp→(Y.setCell ⟨sp,3,none⟩ v').heap[c]? = Y.heap[c]?:=fun c hc=>Below.heap_setCell _ _ _ _ (by show ¬ c=sp;exact hc)
  have old:∀ c,c<X.heap.size→¬ vc.ownBlock=some c→¬ c=sp→(Y.setCell ⟨sp,3,none⟩ v').heap[c]? = X.heap[c]?:=fun c h1 h2 h3=>(hz c h3).trans (hg.block c h1 (fun e=>h2 e.symm))
  have gs:=set_grown Y sp 3 v'
  refine ⟨(h.keptN hk).other gs ⟨_,hsY⟩ (by decide),⟨set_blk hsY,?_,?_,?_,?_,?_,?_⟩,⟨fun w0 V0 a b c=>?_,fun c cs t a b d e=>?_,fun c cs a b=>?_,Nat.le_trans hg.size gs.size⟩⟩
  · exact row_keep hp.ra fun g hgg=>old g (World.ownsRow.lt hp.ra g hgg).2 (fun q=>by
      obtain ⟨c1,h1⟩:=row_isC hp.ra hgg
      obtain ⟨c2,h2⟩:=row_isC hrow q
      rw [h1] at h2
      injection h2 with h2
      injection h2 with _ h2 _
      exact absurd h2 (by decide)) (fun q=>row_far hp hp.ra (by decide) (by rw [hgg,q]))
  · exact row_keep hp.rb fun g hgg=>old g (World.ownsRow.lt hp.rb g hgg).2 (fun q=>by
      obtain ⟨c1,h1⟩:=row_isC hp.rb hgg
      obtain ⟨c2,h2⟩:=row_isC hrow q
      rw [h1] at h2
      injection h2 with h2
      injection h2 with _ h2 _
      exact absurd h2 (by decide)) (fun q=>row_far hp hp.rb (by decide) (by rw [hgg,q]))
  · have e1:(ks ++ [n]).length=ks.length+1:=by simp
    have e2:valsS (ks ++ [n])=valsS ks ++ [.string n]:=by simp [valsS]
    rw [e1,e2]
    exact row_keep ho fun g hgg=>hz g (fun q=>hvs (by rw [hgg,q]))
  · exact hp.na
  · exact hp.nb
  · exact hp.dif
  · exact a.keep2 (o:=vc.ownBlock) (o':=some sp) ⟨gs.os.trans hg.os,gs.tape.trans hg.tape,gs.output.trans hg.output,Nat.le_trans hg.size gs.size,fun c hc h1 h2=>(gs.block c (Nat.lt_of_lt_of_le hc hg.size) h2).trans (hg.block c hc h1)⟩ (fun g e=>Nat.le_trans b (World.ownsRow.lt hrow g e).1) (fun g e=>by injection e with e;omega) c
  · refine (old c (Array.getElem?_eq_some_iff.1 a).1 (fun q=>?_) (fun q=>?_)).trans a
    · obtain ⟨c2,h2⟩:=row_isC hrow q
      rw [a] at h2
      injection h2 with h2
      injection h2 with _ h2 _
      exact d h2
    · subst q
      rw [hp.blk] at a
      injection a with a
      injection a with _ a _
      exact e a.symm
  · refine ⟨(old c (Array.getElem?_eq_some_iff.1 a).1 b (fun q=>by
      subst q
      rw [hp.blk] at a
      injection a with a
      injection a with _ a _
      exact absurd a (by decide))).trans a,fun e=>?_⟩
    rcases hn with q | q
    · exact b (q.symm.trans e)
    · rw [q] at e
      injection e with e
      have:=(Array.getElem?_eq_some_iff.1 a).1
      omega
end
end Go.Proofs.YtmgjdjjfeapcdaaGreat
namespace Go.Proofs.YtmgjdjjfeapcdaaGreat
open Go.RowKit Go.Lib Go.Maps Go.Sort
abbrev SortK (l:List ByteArray):Prop:=l.Pairwise (fun a b=>klt a b=true)
theorem ent_sort:∀ (d:Nat) (lo hi:ByteArray) (t:T d),Bnd d lo hi t→SortK ((entT d t).map (·.1))
  | 0, lo, hi, t, h => by
    have:=(keys_sort 0 h).2.1
    show SortK ((t.its.map fun i=>(i.key,i.val)).map (·.1))
    rw [List.map_map]
    exact this
  | d + 1, lo, hi, t, h => by
    have key:∀ (s:List (ByteArray × T d)),BS (Bnd d) s hi→SortK ((entS s).map (·.1)):=by
      intro s
      induction s with
      | nil=>intro _;exact List.Pairwise.nil
      | cons p r ih =>
        intro hb
        obtain ⟨h1,h2,h3,h4⟩:=hb
        rw [entS_cons,List.map_append]
        refine List.pairwise_append.2 ⟨ent_sort d _ _ p.2 h2,ih h4,fun a ha b hb'=>?_⟩
        obtain ⟨e,he,rfl⟩:=List.mem_map.1 ha
        obtain ⟨f,hf,rfl⟩:=List.mem_map.1 hb'
        have g1:=(ent_in d _ _ p.2 h2 e he).2.1
        have g2:=(entS_in d r hi h4 f hf).1
        cases r with
        | nil=>simp [entS] at hf
        | cons q r =>
          rcases g1 with g1 | g1
          · have hq:=(h3 q (by simp)).1
            have g1:q.1=⟨#[]⟩:=g1
            rw [g1] at hq
            exact absurd hq (by decide)
          · exact klt_le g1 g2
    exact key t.kids h.2
theorem sort_nodup {l:List ByteArray} (h:SortK l):l.Nodup:=h.imp fun {a b} hab e=>by
  rw [e,klt_irr] at hab
  cases hab
theorem put_keys {es es':List Ent} {k v:ByteArray} (h:PutR es k v es'):(∀ y,y ∈ es'.map (·.1) ↔ y=k∨y ∈ es.map (·.1))∧es'.length≤es.length+1:=by
  obtain ⟨p,s,h1,h2,-,-⟩:=h
  subst h2
  rcases h1 with rfl | ⟨v0,rfl⟩
  · refine ⟨fun y=>?_,by simp;omega⟩
    simp only [List.map_append,List.map_cons,List.mem_append,List.mem_cons]
    constructor
    · rintro (h | h | h)
      · exact .inr (.inl h)
      · exact .inl h
      · exact .inr (.inr h)
    · rintro (h | h | h)
      · exact .inr (.inl h)
      · exact .inl h
      · exact .inr (.inr h)
  · refine ⟨fun y=>?_,by simp⟩
    simp only [List.map_append,List.map_cons,List.mem_append,List.mem_cons]
    constructor
    · exact fun h=>.inr h
    · rintro (h | h)
      · exact .inr (.inl h)
      · exact h
theorem del_keys {es es':List Ent} {k:ByteArray} {b:Bool} (h:DelR es k b es'):(∀ y,y ∈ es'.map (·.1) ↔ ¬ y=k∧y ∈ es.map (·.1))∧es'.length≤es.length+1:=by
  obtain ⟨p,s,h1,h2,h3,h4⟩:=h
  subst h2
  have n1:∀ y ∈ p.map (·.1),¬ y=k:=fun y hy e=>by
    obtain ⟨q,hq,rfl⟩:=List.mem_map.1 hy
    have:=h3 q hq
    rw [e,klt_irr] at this
    cases this
  have n2:∀ y ∈ s.map (·.1),¬ y=k:=fun y hy e=>by
    obtain ⟨q,hq,rfl⟩:=List.mem_map.1 hy
    have:=h4 q hq
    rw [e,klt_irr] at this
    cases this
  have n3:∀ y,y ∈ (p ++ s).map (·.1)→¬ y=k:=fun y hy=>by
    rw [List.map_append,List.mem_append] at hy
    exact hy.elim (n1 y) (n2 y)
  rcases h1 with ⟨rfl,-⟩ | ⟨v0,rfl,-⟩
  · exact ⟨fun y=>⟨fun h=>⟨n3 y h,h⟩,fun h=>h.2⟩,by simp⟩
  · refine ⟨fun y=>⟨fun h=>⟨n3 y h,?_⟩,fun h=>?_⟩,by simp;omega⟩
    · simp only [List.map_append,List.map_cons,List.mem_append,List.mem_cons] at h ⊢
      exact h.imp id .inr
    · obtain ⟨hk,h⟩:=h
      simp only [List.map_append,List.map_cons,List.mem_append,List.mem_cons] at h ⊢
      rcases h with h | h | h
      · exact .inl h
      · exact absurd h hk
      · exact .inr h
/- links of leaves, place by place -/
theorem lk_at:∀ {l:List (Nat × Nat)},lk l 0→∀ (i:Nat) (h:i<l.length),(∀ h':i+1<l.length,l[i].2=l[i+1].1)∧(i+1=l.length→l[i].2=0)
  | p :: r, hl, 0, _ => by
    have h1:p.2=hdL r 0:=hl.1
    cases r with
    | nil=>exact ⟨fun h'=>absurd h' (by simp),fun _=>h1⟩
    | cons q r=>exact ⟨fun _=>h1,fun h'=>absurd h' (by simp)⟩
  | p :: r, hl, i + 1, h => by
    have:=lk_at hl.2 i (by simpa using h)
    exact ⟨fun h'=>this.1 (by simpa using h'),fun h'=>this.2 (by simpa using h')⟩
structure TrF (A:Nat→PgV) (fl:List Nat) (pages d:Nat) (t:T d) (es:List Ent):Prop where
  ent:entT d t=es
  bnd:Bnd d ⟨#[]⟩ ⟨#[]⟩ t
  lks:lk (lvsT d t) 0
  all:∀ q ∈ nodT d t,A q.1=q.2
  num:∀ n ∈ numsT d t,0<n∧n<pages
  cnt:1+fl.length+(nodT d t).length=pages
  srt:SortK (es.map (·.1))
  key:∀ e ∈ es,okK e.1
  dep:es.length≤250→d≤7
theorem Tr.facts {A:Nat→PgV} {fl:List Nat} {pages d:Nat} {t:T d} {es:List Ent} (h:Tr A fl pages [] t es):TrF A fl pages d t es:=by
  have hb:Bnd d ⟨#[]⟩ ⟨#[]⟩ t:=h.sx.wf.at
  have he:entT d t=es:=by simpa [Cx.pre,Cx.suf] using h.sx.wf.ent
  have hp:(0 :: (fl ++ numsT d t)).Perm (List.range pages):=by
    have:=h.sx.perm
    unfold restN at this
    simp only [Cx.nod,List.append_nil] at this
    unfold numsT
    rw [nodT_eq]
    exact this
  refine ⟨he,hb,by simpa [Cx.lpre,Cx.lsuf] using h.sx.wf.lks,fun q hq=>?_,fun n hn=>?_,?_,?_,fun e hm=>?_,fun hl=>?_⟩
  · rw [nodT_eq,List.mem_cons] at hq
    rcases hq with rfl | hq
    · exact h.own
    · exact h.sx.rep q (by unfold restN;exact List.mem_append_left _ hq)
  · have h1:n<pages:=List.mem_range.1 (hp.mem_iff.1 (by simp [hn]))
    have h2:=hp.nodup_iff.2 List.nodup_range
    rw [List.nodup_cons] at h2
    have h3:¬ n=0:=fun e=>h2.1 (by rw [← e];simp [hn])
    omega
  · have:=hp.length_eq
    rw [List.length_cons,List.length_append,List.length_range] at this
    unfold numsT at this
    rw [List.length_map] at this
    omega
  · rw [← he]
    exact ent_sort d _ _ t hb
  · rw [← he] at hm
    exact (ent_in d _ _ t hb e hm).2.2
  · rcases h.ok.many with h0 | h0
    · omega
    · rw [he] at h0
      have hlt:2 ^ d<2 ^ 8:=Nat.lt_of_le_of_lt (Nat.le_trans h0 hl) (by decide)
      have:=(Nat.pow_lt_pow_iff_right (by decide:1<2)).1 hlt
      omega
theorem lvs_len:∀ (d:Nat) (t:T d),(lvsT d t).length≤(nodT d t).length
  | 0, t => by
    show 1≤(_ :: _:List (Nat × PgV)).length
    simp
  | d + 1, t => by
    show (t.kids.flatMap fun p=>lvsT d p.2).length≤((t.num,pgT (d+1) t) :: t.kids.flatMap fun p=>nodT d p.2).length
    have key:∀ s:List (ByteArray × T d),(s.flatMap fun p=>lvsT d p.2).length≤(s.flatMap fun p=>nodT d p.2).length:=by
      intro s
      induction s with
      | nil=>simp
      | cons p r ih =>
        have:=lvs_len d p.2
        simp only [List.flatMap_cons,List.length_append]
        omega
    have:=key t.kids
    simp only [List.length_cons]
    omega
end Go.Proofs.YtmgjdjjfeapcdaaGreat
namespace Go.Proofs.YtmgjdjjfeapcdaaGreat
open Go.RowKit Go.Lib Go.Maps Go.Sort
theorem PP.mapped {X Y:World} {B D Gp c:Nat} {b:Bk} {P:PS} {L:LS} {S:DS} (h:PP X B D Gp b P L S) (hg:X.grownBy Y (some c)) (hc:isM X c) (hM:¬ c ∈ b.M):PP Y B D Gp b P L S:=by
  obtain ⟨k1,k2,k3,k4,k5,k6,k7,k8⟩:=h.kinds
  have st:∀ d,¬ d=c→d<X.heap.size→Y.heap[d]? = X.heap[d]?:=fun d hd hl=>hg.block d hl (fun e=>by injection e with e;exact hd e)
  have nC:∀ {d:Nat} {t:TypeId},isC X d t→¬ d=c:=fun hd e=>ne_CM hd hc e.symm
  have nM:∀ d,d ∈ b.M→¬ d=c:=fun d hd e=>hM (e ▸ hd)
  have far:farT tyP X c:=fun cur e fz he=>by
    obtain ⟨es,clock,hb⟩:=hc
    rw [hb] at he
    cases he
  exact ⟨(st _ (nC k1) h.lt).trans h.blk,h.log.other hg far (nC k2) (nM _ (by simp [Bk.M])) (nM _ (by simp [Bk.M])),h.fmap.keep (st _ (nM _ (by simp [Bk.M])) h.fmap.lt),h.chm.keep (st _ (nM _ (by simp [Bk.M])) h.chm.lt),fun n f hf=>⟨(st _ (nC (k7 n f hf)) (h.fcells hf).2.2.2.2.2).trans (h.frs n f hf).1,(h.frs n f hf).2⟩,h.inj,row_keep h.ord fun g hg'=>st _ (nC (k8 g hg')) (h.rowblk hg').2.2,h.low,h.dif⟩
section
variable {w w':World} {B D Gp:Nat} {V V':PV} {K:Pgs} {pk m:Nat} {A:Nat→PgV} {fl:List Nat} {pages c:Nat}
theorem TS.mapped (h:TS w B D Gp V K pk m A fl pages) (hg:w.grownBy w' (some c)) (hc:isM w c) (hM:¬ c ∈ V.b.M):TS w' B D Gp V K pk m A fl pages:=by
  obtain ⟨C,h1,h2⟩:=h.po
  exact ⟨⟨C,⟨h1.pp.mapped hg hc hM,h1.pi,Nat.le_trans h1.lo hg.size⟩,h2⟩,h.pg,h.fr,h.zero,h.fls,h.flin,h.nf,h.fnd⟩
theorem MT.stay {n:Nat} {ks:List ByteArray} (h:MT w c n ks) (hM:¬ c ∈ V.b.M) (hs:St2 w w' B V V'):MT w' c n ks∧¬ c ∈ V'.b.M:=by
  refine ⟨h.keep (hs.bel.far c h.lt (fun cur e fz he=>?_) hM),fun hm=>(hs.bel.maps c hm).elim hM (fun k=>?_)⟩
  · obtain ⟨es,clock,hb⟩:=h.isMap
    rw [hb] at he
    cases he
  · have:=h.lt
    omega
end
end Go.Proofs.YtmgjdjjfeapcdaaGreat
namespace Go.Proofs.YtmgjdjjfeapcdaaGreat
open Go.RowKit Go.Lib Go.Maps Go.Sort
def A00:Nat→PgV:=fun _=>⟨4,0,[]⟩
theorem ts_first {w:World} {B D Gp:Nat} {V:PV} (h:PO w B D Gp V K00 K00 1 1) (hn:NoF V.S) (hp:V.P.pages=1) (hf:V.P.free=0):TS w B D Gp V K00 1 1 A00 [] 1:=by
  refine ⟨⟨K00,h,fun n hn'=>⟨?_,(show okP ⟨4,0,[]⟩ from ⟨⟨by decide,by decide⟩,by decide,by decide⟩)⟩⟩,hp,hf,rfl,trivial,fun f hf=>by simp at hf,hn,List.nodup_nil⟩
  have e:n=0:=by omega
  subst e
  show K00 0=some (pgX ⟨4,0,[]⟩)
  rw [pgX_none]
  rfl
structure LwT (w0 X:World) (D Gp tb mb rt:Nat) (V:PV) (m:Nat) (A:Nat→PgV) (fl:List Nat) (pages d:Nat) (t:T d) (es:List Ent) (i:Nat):Prop where
  ts:TS X w0.heap.size D Gp V K00 1 m A fl pages
  tr:Tr A fl pages [] t es
  root:numT d t=rt
  tb:TB X tb Gp rt
  mp:MT X mb i (es.map (·.1))
  far:¬ mb ∈ V.b.M
  len:es.length≤i
  mm:m≤4+58 * i
  pp:pages≤2+14 * i
  bel:Below w0.heap.size w0 X
  low:w0.heap.size≤mb
def LwE (w0 X:World) (D Gp tb mb rt i:Nat):Prop:=∃ (V:PV) (m:Nat) (A:Nat→PgV) (fl:List Nat) (pages d:Nat) (t:T d) (es:List Ent),LwT w0 X D Gp tb mb rt V m A fl pages d t es i
section
variable {w0 X Y:World} {D Gp tb mb rt m pages d i:Nat} {V:PV} {A:Nat→PgV} {fl:List Nat} {t:T d} {es:List Ent}
theorem LwT.below (h:LwT w0 X D Gp tb mb rt V m A fl pages d t es i) (hb:Below X.heap.size X Y):LwT w0 Y D Gp tb mb rt V m A fl pages d t es i:=by
  obtain ⟨t2,s2⟩:=h.ts.below hb
  obtain ⟨m2,f2⟩:=h.mp.stay h.far s2
  exact ⟨t2,h.tr,h.root,h.ts.stayTB s2 h.tb,m2,f2,h.len,h.mm,h.pp,h.bel.trans (hb.mono h.bel.size),h.low⟩
theorem LwT.after {R:List Ent→Prop} (h:LwT w0 X D Gp tb mb rt V m A fl pages d t es i) (hi:i<250) (hp:putPost X w0.heap.size D Gp V K00 1 m pages [] rt d R Y):∃ (V':PV) (m':Nat) (A':Nat→PgV) (fl':List Nat) (pages' d':Nat) (t':T d') (es':List Ent),TS Y w0.heap.size D Gp V' K00 1 m' A' fl' pages'∧Tr A' fl' pages' [] t' es'∧numT d' t'=rt∧TB Y tb Gp rt∧MT Y mb i (es.map (·.1))∧¬ mb ∈ V'.b.M∧R es'∧m'≤4+58 * (i+1)∧pages'≤2+14 * (i+1)∧Below w0.heap.size w0 Y:=by
  obtain ⟨V',A',fl',pages',d',t',es',p1,p2,p3,p4,p5,p6⟩:=hp
  have hd:=h.tr.facts.dep (by have:=h.len;omega)
  obtain ⟨m2,f2⟩:=h.mp.stay h.far p5
  have:=h.mm
  have:=h.pp
  exact ⟨V',_,A',fl',pages',d',t',es',p1,p2,p3,h.ts.stayTB p5 h.tb,m2,f2,p4,by omega,by omega,h.bel.trans p5.bel.toBelow⟩
theorem low_grown {Z:World} {c:Nat} (h:Below w0.heap.size w0 Y) (hg:Y.grownBy Z (some c)) (hc:w0.heap.size≤c):Below w0.heap.size w0 Z:=
  h.trans ⟨hg.os,hg.tape,hg.output,hg.size,fun j hj=>hg.block j (Nat.lt_of_lt_of_le hj h.size) (fun e=>by injection e with e;omega)⟩
theorem kPut (h:LwT w0 X D Gp tb mb rt V m A fl pages d t es i) (hi:i<250) (k v:ByteArray) (hk:okK k) (hv:v.size≤3000) :
    Calls Tryz.prog 19 #[(.pointer (some ⟨tb,0,none⟩)),.string k,.string v] X fun e w'=>e=.returned (.int .i64 0)∧∃ Z,(Instr.mapUpdate 54 (.map (some mb)) (.string k) (.int .i64 1)).run Tryz.prog w'=.ok () Z∧LwE w0 Z D Gp tb mb rt (i+1):=by
  have hd:=h.tr.facts.dep (by have:=h.len;omega)
  have hc:=cPut h.ts (by have:=h.mm;omega) (by have:=h.pp;omega) h.tr (h.root ▸ h.tb) k v hk hv (by omega)
  rw [h.root] at hc
  refine hc.mono ?_
  rintro e w' ⟨rfl,hp⟩
  obtain ⟨V',m',A',fl',pages',d',t',es',p1,p2,p3,p4,p5,p6,p7,p8,p9,p10⟩:=h.after hi hp
  obtain ⟨q1,q2⟩:=put_keys p7
  obtain ⟨Z,z1,z2,z3⟩:=p5.put (by omega) (show k.size≤maxLen by have:=hk.2;unfold maxLen;omega) q1
  refine ⟨rfl,Z,z1,V',m',A',fl',pages',d',t',es',p1.mapped z3 p5.isMap p6,p2,p3,?_,z2,p6,by have:=h.len;omega,p8,p9,low_grown p10 z3 h.low,h.low⟩
  have p4':w'.heap[tb]? = _:=p4
  refine (z3.block tb (Array.getElem?_eq_some_iff.1 p4').1 (fun e=>?_)).trans p4'
  injection e with e
  obtain ⟨es0,ck,hm⟩:=p5.isMap
  rw [← e,p4'] at hm
  cases hm
theorem kPutL (h:LwT w0 X D Gp tb mb rt V m A fl pages d t es i) (hi:i<250) (k v:ByteArray) (hk:okK k) (hv:3000<v.size) (hs:v.size≤9223372036854775807) :
    Calls Tryz.prog 19 #[(.pointer (some ⟨tb,0,none⟩)),.string k,.string v] X fun e w'=>e=.returned (.int .i64 8)∧Below X.heap.size X w'∧∃ Z,(Instr.mapUpdate 54 (.map (some mb)) (.string k) (.int .i64 1)).run Tryz.prog w'=.ok () Z∧(∀ c,c<w'.heap.size→¬ c=mb→Z.heap[c]? = w'.heap[c]?)∧Below w0.heap.size w0 Z:=by
  refine (cPutL k v hk hv hs tb X).mono ?_
  rintro e w' ⟨rfl,hb⟩
  have h2:=h.below hb
  obtain ⟨Z,z1,z2,z3⟩:=h2.mp.put (ks':=k :: es.map (·.1)) (by omega) (show k.size≤maxLen by have:=hk.2;unfold maxLen;omega) (fun y=>by simp)
  exact ⟨rfl,hb,Z,z1,fun c hc hn=>z3.block c hc (fun e=>by injection e with e;exact hn e),low_grown h2.bel z3 h.low⟩
theorem kDel (h:LwT w0 X D Gp tb mb rt V m A fl pages d t es i) (hi:i<250) (k:ByteArray) (hk:okK k) :
    Calls Tryz.prog 20 #[(.pointer (some ⟨tb,0,none⟩)),.string k] X fun e w'=>∃ is:Bool,e=.returned (.tuple #[.bool is,.int .i64 0])∧∀ ty,∃ Z,(Builtin.delete_ #[54,9] ty #[.map (some mb),.string k]).run Tryz.prog w'=.ok (.tuple #[]) Z∧LwE w0 Z D Gp tb mb rt (i+1):=by
  have hd:=h.tr.facts.dep (by have:=h.len;omega)
  have hc:=cDelete h.ts (by have:=h.mm;omega) (by have:=h.pp;omega) h.tr (h.root ▸ h.tb) k hk (by omega)
  rw [h.root] at hc
  refine hc.mono ?_
  rintro e w' ⟨is,rfl,hp⟩
  refine ⟨is,rfl,fun ty=>?_⟩
  obtain ⟨V',m',A',fl',pages',d',t',es',p1,p2,p3,p4,p5,p6,p7,p8,p9,p10⟩:=h.after hi hp
  obtain ⟨q1,q2⟩:=del_keys p7
  obtain ⟨Z,z1,z2,z3⟩:=p5.drop (show k.size≤maxLen by have:=hk.2;unfold maxLen;omega) q1 ty
  refine ⟨Z,z1,V',m',A',fl',pages',d',t',es',p1.mapped z3 p5.isMap p6,p2,p3,?_,z2.mono (by omega),p6,by have:=h.len;omega,p8,p9,low_grown p10 z3 h.low,h.low⟩
  have p4':w'.heap[tb]? = _:=p4
  refine (z3.block tb (Array.getElem?_eq_some_iff.1 p4').1 (fun e=>?_)).trans p4'
  injection e with e
  obtain ⟨es0,ck,hm⟩:=p5.isMap
  rw [← e,p4'] at hm
  cases hm
end
end Go.Proofs.YtmgjdjjfeapcdaaGreat
