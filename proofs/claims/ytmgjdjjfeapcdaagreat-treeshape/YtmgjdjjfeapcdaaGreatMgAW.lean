/- package tree: Create, Open -/
import Derived.Test.YtmgjdjjfeapcdaaGreatMgAV
namespace Go.Proofs.YtmgjdjjfeapcdaaGreat
open Go.RowKit Go.Lib Go.Maps Go.Sort
attribute [local go_sem ↓] Go.wp_at_zero Go.wp_at_succ
set_option maxRecDepth 20000 in
theorem cOpenT (Gp root:Nat) (w:World):Calls Tryz.prog 9 #[(.pointer (some ⟨Gp,0,none⟩)),.int .i64 (root:Int)] w fun e w'=>e=.returned (.pointer (some ⟨w.heap.size,0,none⟩))∧TB w' w.heap.size Gp root∧Below w.heap.size w w':=by
  have HB:Hid (TB (w.alloc (.cells #[(.pointer (some ⟨Gp,0,none⟩)),.int .i64 (root:Int)] 92)) w.heap.size Gp root):=heap_alloc_new w _
  have HW:Hid (Below w.heap.size w (w.alloc (.cells #[(.pointer (some ⟨Gp,0,none⟩)),.int .i64 (root:Int)] 92))):=(Below.refl _ _).alloc (Nat.le_refl _) _
  go_enter Tryz.func9,Tryz.ntmps9
  go_wp2
  go_ret
  exact ⟨rfl,HB.out,HW.out⟩
section
variable {w w':World} {B D Gp:Nat} {V V':PV} {K:Pgs} {pk m:Nat} {A:Nat→PgV} {fl os:List Nat} {pages tb root rt:Nat} {es:List Ent}
set_option maxRecDepth 20000 in
set_option maxHeartbeats 1000000 in
theorem cCreate (h:TS w B D Gp V K pk m A fl pages) (hm:m≤38000) (hp:pages<58000) {Z:List Nat} (hX:(0 :: (fl ++ Z)).Perm (List.range pages)) :
    Calls Tryz.prog 8 #[(.pointer (some ⟨Gp,0,none⟩))] w fun e w'=>∃ n:Nat,e=.returned (.tuple #[.int .i64 (n:Int),.int .i64 0])∧crPost w B D Gp V K pk m A fl pages n w':=by
  have hmf:∀ (fn:Fn) (first cap:Array Value) (w:World),(Instr.makeFunc fn first cap).run Tryz.prog w=.ok (.func fn first cap) w:=fun _ _ _ _=>rfl
  have hen:∀ args w,(callFunc 31 args).run Tryz.prog w=.ok (.enter 31 args) w:=enters_of Tryz.func31 (by kernel_rfl) rfl
  obtain ⟨W3,hW3⟩:∃ W3,((w.alloc (.cells #[(.pointer (some ⟨Gp,0,none⟩)),.int .i64 0] 92)).alloc (.cells #[(.pointer (some ⟨w.heap.size,0,none⟩))] 38)).alloc (.cells #[.int .i64 0] 3)=W3:=⟨_,rfl⟩
  have hb3:Below w.heap.size w W3:=by rw [← hW3];exact (((Below.refl _ _).alloc (Nat.le_refl _) _).alloc (by simp) _).alloc (by simp;omega) _
  have hs3:W3.heap.size=w.heap.size+3:=by rw [← hW3];simp
  have hb4:Below w.heap.size w (W3.alloc (.cells #[.int .i64 0] 26)):=hb3.alloc (by omega) _
  have q0:W3.heap[w.heap.size]? = some (.cells #[(.pointer (some ⟨Gp,0,none⟩)),.int .i64 0] 92 (0,0)):=by
    rw [← hW3,heap_alloc_old _ _ (by simp;omega),heap_alloc_old _ _ (by simp)]
    exact heap_alloc_new w _
  have q1:W3.heap[w.heap.size+1]? = some (.cells #[(.pointer (some ⟨w.heap.size,0,none⟩))] 38 (0,0)):=by
    rw [← hW3,heap_alloc_old _ _ (by simp)]
    have:=heap_alloc_new (w.alloc (.cells #[(.pointer (some ⟨Gp,0,none⟩)),.int .i64 0] 92)) (.cells #[(.pointer (some ⟨w.heap.size,0,none⟩))] 38)
    simpa using this
  have q2:W3.heap[w.heap.size+2]? = some (.cells #[.int .i64 0] 3 (0,0)):=by
    rw [← hW3]
    have:=heap_alloc_new ((w.alloc (.cells #[(.pointer (some ⟨Gp,0,none⟩)),.int .i64 0] 92)).alloc (.cells #[(.pointer (some ⟨w.heap.size,0,none⟩))] 38)) (.cells #[.int .i64 0] 3)
    simpa using this
  have old:∀ j,j<3→(W3.alloc (.cells #[.int .i64 0] 26)).heap[w.heap.size+j]? = W3.heap[w.heap.size+j]?:=fun j hj=>heap_alloc_old _ _ (by omega)
  obtain ⟨h4,s4⟩:=h.below hb4
  have hTB:TB (W3.alloc (.cells #[.int .i64 0] 26)) w.heap.size Gp 0:=by
    have:=old 0 (by omega)
    simp only [Nat.add_zero] at this
    exact this.trans q0
  have HC:=hide (ccaught 31 hen #[(.pointer (some ⟨w.heap.size+1,0,none⟩)),(.pointer (some ⟨w.heap.size+2,0,none⟩))] W3 w.heap.size Gp 0 q0 (fun w'=>∃ (n:Nat) (w1:World),crPost (W3.alloc (.cells #[.int .i64 0] 26)) B D Gp V K pk m A fl pages n w1∧w1.heap[w.heap.size+2]? = some (.cells #[.int .i64 0] 3 (0,0))∧(∀ V',St2 (W3.alloc (.cells #[.int .i64 0] 26)) w1 B V V'→¬ V'.b.vo.ownBlock=some (w.heap.size+2))∧w'=w1.setCell ⟨w.heap.size+2,0,none⟩ (.int .i64 (n:Int))) (ccre1 h4 hm hp hX hTB (by rw [old 1 (by omega)];exact q1) (by rw [old 2 (by omega)];exact q2) (h.newI (by omega))) (fun w' hq=>by
    obtain ⟨n,w1,⟨V',A',fl',pages',p1,p2,p3⟩,p4,p5,rfl⟩:=hq
    rw [Below.heap_setCell _ _ _ _ (by show ¬ W3.heap.size=w.heap.size+2;omega)]
    exact h4.stay p2 (heap_alloc_new W3 _) (by decide)))
  have HL:=hide (fun (w1:World) (n:Nat) (hq:crPost (W3.alloc (.cells #[.int .i64 0] 26)) B D Gp V K pk m A fl pages n w1) (p4:w1.heap[w.heap.size+2]? = some (.cells #[.int .i64 0] 3 (0,0))) (p5:∀ V',St2 (W3.alloc (.cells #[.int .i64 0] 26)) w1 B V V'→¬ V'.b.vo.ownBlock=some (w.heap.size+2))=>(show crPost w B D Gp V K pk m A fl pages n ((w1.setCell ⟨w.heap.size+2,0,none⟩ (.int .i64 (n:Int))).setCell ⟨W3.heap.size,0,none⟩ (.int .i64 0))∧((w1.setCell ⟨w.heap.size+2,0,none⟩ (.int .i64 (n:Int))).setCell ⟨W3.heap.size,0,none⟩ (.int .i64 0)).cell? ⟨w.heap.size+2,0,none⟩=some (.int .i64 (n:Int)) from by
    obtain ⟨V',A',fl',pages',p1,p2,p3⟩:=hq
    have g1:=set_grown w1 (w.heap.size+2) 0 (.int .i64 (n:Int))
    have t1:=p1.setI p4 (p5 V' p2) g1
    have s1:=(s4.trans p2).other g1 (by omega) h.lo
    have b1:(w1.setCell ⟨w.heap.size+2,0,none⟩ (.int .i64 (n:Int))).heap[W3.heap.size]? = some (.cells #[.int .i64 0] 26 (0,0)):=by
      rw [Below.heap_setCell _ _ _ _ (by show ¬ W3.heap.size=w.heap.size+2;omega)]
      exact h4.stay p2 (heap_alloc_new W3 _) (by decide)
    have g2:=set_grown (w1.setCell ⟨w.heap.size+2,0,none⟩ (.int .i64 (n:Int))) W3.heap.size 0 (.int .i64 0)
    refine ⟨⟨V',A',fl',pages',t1.other g2 ⟨_,b1⟩ (by decide),s1.other g2 (by omega) h.lo,p3⟩,?_⟩
    have p6:((w1.setCell ⟨w.heap.size+2,0,none⟩ (.int .i64 (n:Int))).setCell ⟨W3.heap.size,0,none⟩ (.int .i64 0)).heap[w.heap.size+2]? = some (.cells #[.int .i64 (n:Int)] 3 (0,0)):=by
      rw [Below.heap_setCell _ _ _ _ (by show ¬ w.heap.size+2=W3.heap.size;omega),set_blk p4];rfl
    simp [World.cell?,p6]))
  rw [← hW3] at HC HL
  subst hW3
  clear h hX hb3 hs3 hb4 q0 q1 q2 old h4 s4 hen hTB
  go_enter Tryz.func8,Tryz.ntmps8
  go_wp2_with fail
  refine HC.out.mono ?_
  rintro e w5 ⟨rfl,w4,⟨n,w1,p1,p2,p3,hw4⟩,hw5⟩
  have HE:Hid (crPost w B D Gp V K pk m A fl pages n w5):=by rw [hw5,hw4];exact (HL.out w1 n p1 p2 p3).1
  have hcb:w5.cell? ⟨w.heap.size+2,0,none⟩=some (.int .i64 (n:Int)):=by rw [hw5,hw4];exact (HL.out w1 n p1 p2 p3).2
  clear p1 p2 p3 hw4 hw5 HC HL
  go_wp2
  go_ret2
  exact ⟨n,rfl,HE.out⟩
end
end Go.Proofs.YtmgjdjjfeapcdaaGreat
namespace Go.Proofs.YtmgjdjjfeapcdaaGreat
open Go.RowKit Go.Lib Go.Maps Go.Sort
attribute [local go_sem ↓] Go.wp_at_zero Go.wp_at_succ
/- a shape in memory -/
structure Sp (w:World) (sp:Nat) (V:PV) (k:Nat) (va vb vc:Value) (lv ln:List Nat) (ks:List ByteArray) (ok:Bool):Prop where
  blk:w.heap[sp]? = some (.cells #[.int .i64 (k:Int),va,vb,vc,.bool ok] 64 (0,0))
  ra:w.ownsRow sp 3 1 va lv.length (intsN lv)
  rb:w.ownsRow sp 3 1 vb ln.length (intsN ln)
  rc:w.ownsRow sp 9 1 vc ks.length (valsS ks)
  na:∀ g,va.ownBlock=some g→¬ V.b.vo.ownBlock=some g
  nb:∀ g,vb.ownBlock=some g→¬ V.b.vo.ownBlock=some g
  dif:∀ g,va.ownBlock=some g→¬ vb.ownBlock=some g
/- what a shape's calls leave as it was -/
structure HF (sp B:Nat) (w w':World) (V V':PV) (vc vc':Value):Prop where
  st:∀ w0 V0,St2 w0 w B V0 V→w0.heap.size≤sp→B≤w0.heap.size→St2 w0 w' B V0 V'
  blk:∀ (c:Nat) (cs:Array Value) (t:TypeId),w.heap[c]? = some (.cells cs t (0,0))→tyQ t=false→¬ t=9→¬ t=64→w'.heap[c]? = some (.cells cs t (0,0))
  str:∀ (c:Nat) (cs:Array Value),w.heap[c]? = some (.cells cs 9 (0,0))→¬ vc.ownBlock=some c→w'.heap[c]? = some (.cells cs 9 (0,0))∧¬ vc'.ownBlock=some c
  size:w.heap.size≤w'.heap.size
theorem HF.refl (sp B:Nat) (w:World) (V:PV) (vc:Value):HF sp B w w V V vc vc:=⟨fun _ _ h _ _=>h,fun _ _ _ h _ _ _=>h,fun _ _ h k=>⟨h,k⟩,Nat.le_refl _⟩
theorem HF.trans {sp B:Nat} {w w' w'':World} {V V' V'':PV} {vc vc' vc'':Value} (h:HF sp B w w' V V' vc vc') (k:HF sp B w' w'' V' V'' vc' vc''):HF sp B w w'' V V'' vc vc'':=
  ⟨fun w0 V0 a b c=>k.st w0 V0 (h.st w0 V0 a b c) b c,fun c cs t a b d e=>k.blk c cs t (h.blk c cs t a b d e) b d e,fun c cs a b=>k.str c cs (h.str c cs a b).1 (h.str c cs a b).2,Nat.le_trans h.size k.size⟩
section
variable {w w':World} {B D Gp:Nat} {V V':PV} {K:Pgs} {pk m:Nat} {A:Nat→PgV} {fl:List Nat} {pages sp k:Nat} {va vb vc:Value} {lv ln:List Nat} {ks:List ByteArray} {ok:Bool}
theorem Sp.cells (h:Sp w sp V k va vb vc lv ln ks ok):w.cell? ⟨sp,0,none⟩=some (.int .i64 (k:Int))∧w.cell? ⟨sp,1,none⟩=some va∧w.cell? ⟨sp,2,none⟩=some vb∧w.cell? ⟨sp,3,none⟩=some vc∧w.cell? ⟨sp,4,none⟩=some (.bool ok)∧(∀ o,w.frozen? ⟨sp,o,none⟩=false)∧sp<w.heap.size:=by
  have e:=h.blk
  exact ⟨by simp [World.cell?,e],by simp [World.cell?,e],by simp [World.cell?,e],by simp [World.cell?,e],by simp [World.cell?,e],fun o=>by simp [World.frozen?,e],(Array.getElem?_eq_some_iff.1 e).1⟩
theorem TS.hf (h:TS w B D Gp V K pk m A fl pages) (hs:St2 w w' B V V') (sp:Nat) (vc:Value):HF sp B w w' V V' vc vc:=
  ⟨fun _ _ h0 _ _=>h0.trans hs,fun _ _ _ hc h1 _ _=>h.stay hs hc h1,fun _ _ hc h1=>⟨h.stay hs hc (by decide),h1⟩,hs.bel.size⟩
theorem TS.staySp (h:TS w B D Gp V K pk m A fl pages) (hs:St2 w w' B V V') (hp:Sp w sp V k va vb vc lv ln ks ok):Sp w' sp V' k va vb vc lv ln ks ok:=by
  have a:=h.stayI hs hp.ra hp.na
  have b:=h.stayI hs hp.rb hp.nb
  refine ⟨h.stay hs hp.blk (by decide),a.1,b.1,row_keep hp.rc fun g hg=>?_,a.2,b.2,hp.dif⟩
  rcases hp.rc.2 with ⟨e,_⟩ | ⟨g',cap,cur,e,_,hgg,_⟩
  · rw [e] at hg;cases hg
  · rw [e] at hg
    injection hg with hg
    have hg:g'=g:=hg
    subst hg
    exact (h.stay hs hgg (by decide)).trans hgg.symm
/- a store into the shape's own block -/
theorem Sp.row_ne (h:Sp w sp V k va vb vc lv ln ks ok):¬ va.ownBlock=some sp∧¬ vb.ownBlock=some sp∧¬ vc.ownBlock=some sp:=by
  have f:∀ {t:TypeId} {v:Value} {n:Nat} {xs:List Value},w.ownsRow sp t 1 v n xs→¬ t=64→¬ v.ownBlock=some sp:=fun hr ht hg=>by
    rcases hr.2 with ⟨e,_⟩ | ⟨g',cap,cur,e,_,hgg,_⟩
    · rw [e] at hg;cases hg
    · rw [e] at hg
      injection hg with hg
      have hg:g'=sp:=hg
      subst hg
      rw [h.blk] at hgg
      injection hgg with hgg
      injection hgg with _ hgg _
      exact ht hgg.symm
  exact ⟨f h.ra (by decide),f h.rb (by decide),f h.rc (by decide)⟩
theorem Sp.set0 (h:Sp w sp V k va vb vc lv ln ks ok) (k':Nat):Sp (w.setCell ⟨sp,0,none⟩ (.int .i64 (k':Int))) sp V k' va vb vc lv ln ks ok:=by
  have hg:=set_grown w sp 0 (.int .i64 (k':Int))
  obtain ⟨n1,n2,n3⟩:=h.row_ne
  refine ⟨set_blk h.blk,row_keep h.ra fun g e=>hg.block g (World.ownsRow.lt h.ra g e).2 (fun q=>n1 (by rw [e,q])),row_keep h.rb fun g e=>hg.block g (World.ownsRow.lt h.rb g e).2 (fun q=>n2 (by rw [e,q])),row_keep h.rc fun g e=>hg.block g (World.ownsRow.lt h.rc g e).2 (fun q=>n3 (by rw [e,q])),h.na,h.nb,h.dif⟩
theorem Sp.set4 (h:Sp w sp V k va vb vc lv ln ks ok) (ok':Bool):Sp (w.setCell ⟨sp,4,none⟩ (.bool ok')) sp V k va vb vc lv ln ks ok':=by
  have hg:=set_grown w sp 4 (.bool ok')
  obtain ⟨n1,n2,n3⟩:=h.row_ne
  refine ⟨set_blk h.blk,row_keep h.ra fun g e=>hg.block g (World.ownsRow.lt h.ra g e).2 (fun q=>n1 (by rw [e,q])),row_keep h.rb fun g e=>hg.block g (World.ownsRow.lt h.rb g e).2 (fun q=>n2 (by rw [e,q])),row_keep h.rc fun g e=>hg.block g (World.ownsRow.lt h.rc g e).2 (fun q=>n3 (by rw [e,q])),h.na,h.nb,h.dif⟩
theorem Sp.hset (h:Sp w sp V k va vb vc lv ln ks ok) (hB:B≤sp) (o:Nat) (v:Value):HF sp B w (w.setCell ⟨sp,o,none⟩ v) V V vc vc:=by
  have hg:=set_grown w sp o v
  have hne:∀ (c:Nat) (cs:Array Value) (t:TypeId),w.heap[c]? = some (.cells cs t (0,0))→¬ t=64→¬ c=sp:=fun c cs t hc ht e=>by
    subst e
    rw [h.blk] at hc
    injection hc with hc
    injection hc with _ hc _
    exact ht hc.symm
  refine ⟨fun w0 V0 a b c=>a.other hg b c,fun c cs t a b d e=>?_,fun c cs a b=>⟨?_,b⟩,hg.size⟩
  · exact (hg.block c (Array.getElem?_eq_some_iff.1 a).1 (fun q=>hne c cs t a e (by injection q))).trans a
  · exact (hg.block c (Array.getElem?_eq_some_iff.1 a).1 (fun q=>hne c cs _ a (by decide) (by injection q))).trans a
theorem cpagesT (h:TS w B D Gp V K pk m A fl pages):Calls Tryz.prog 23 #[(.pointer (some ⟨Gp,0,none⟩))] w fun e w'=>e=.returned (.int .i64 (pages:Int))∧w'=w:=by
  obtain ⟨C,h1,h2⟩:=h.po
  obtain ⟨c0,c1,c2,c3,c4,c5,c6,c7,c8,c9⟩:=h1.pp.cells
  rw [h.pg] at c2
  clear h h1 h2
  go_enter Tryz.func23,Tryz.ntmps23
  go_wp2_with fail
  go_ret
  exact ⟨rfl,rfl⟩
end
end Go.Proofs.YtmgjdjjfeapcdaaGreat
namespace Go.Proofs.YtmgjdjjfeapcdaaGreat
open Go.RowKit Go.Lib Go.Maps Go.Sort
attribute [local go_sem ↓] Go.wp_at_zero Go.wp_at_succ
section
variable {w w':World} {B D Gp:Nat} {V V':PV} {K:Pgs} {pk m:Nat} {A:Nat→PgV} {fl:List Nat} {pages sp k:Nat} {va vb vc:Value} {lv ln:List Nat} {ks:List ByteArray} {ok:Bool}
theorem Sp.but {c:Nat} {cs:Array Value} {t:TypeId} (h:Sp w sp V k va vb vc lv ln ks ok) (hg:w.grownBy w' (some c)) (hc:w.heap[c]? = some (.cells cs t (0,0))) (ht:¬ t=3∧¬ t=9∧¬ t=64):Sp w' sp V k va vb vc lv ln ks ok:=by
  have f:∀ {t':TypeId} {v:Value} {n:Nat} {xs:List Value},w.ownsRow sp t' 1 v n xs→¬ t=t'→w'.ownsRow sp t' 1 v n xs:=fun hr ht=>row_keep hr fun g hgg=>hg.block g (World.ownsRow.lt hr g hgg).2 fun q=>by
    injection q with q
    subst q
    rcases hr.2 with ⟨e,_⟩ | ⟨g',cap,cur,e,_,hgb,_⟩
    · rw [e] at hgg;cases hgg
    · rw [e] at hgg
      injection hgg with hgg
      have hgg:g'=g:=hgg
      subst hgg
      rw [hc] at hgb
      injection hgb with hgb
      injection hgb with _ hgb _
      exact ht hgb
  refine ⟨(hg.block sp h.cells.2.2.2.2.2.2 (fun q=>?_)).trans h.blk,f h.ra ht.1,f h.rb ht.1,f h.rc ht.2.1,h.na,h.nb,h.dif⟩
  injection q with q
  subst q
  rw [h.blk] at hc
  injection hc with hc
  injection hc with _ hc _
  exact ht.2.2 hc.symm
theorem HF.new {w2:World} {vc':Value} {c:Nat} (h:HF sp B w w' V V' vc vc') (hg:w'.grownBy w2 (some c)) (hc:w.heap.size≤c) (hs:sp<w.heap.size):HF sp B w w2 V V' vc vc':=
  ⟨fun w0 V0 a b d=>(h.st w0 V0 a b d).other hg (by omega) d,fun b cs t a b1 b2 b3=>by
    have hlt:=(Array.getElem?_eq_some_iff.1 a).1
    exact (hg.block b (Nat.lt_of_lt_of_le hlt h.size) (fun q=>by injection q with q;omega)).trans (h.blk b cs t a b1 b2 b3),fun b cs a b1=>by
    have hlt:=(Array.getElem?_eq_some_iff.1 a).1
    exact ⟨(hg.block b (Nat.lt_of_lt_of_le hlt h.size) (fun q=>by injection q with q;omega)).trans (h.str b cs a b1).1,(h.str b cs a b1).2⟩,Nat.le_trans h.size hg.size⟩
set_option maxRecDepth 20000 in
set_option maxHeartbeats 2000000 in
theorem copenS (h:TS w B D Gp V K pk m A fl pages) (hm:m≤50000) (hp:Sp w sp V k va vb vc lv ln ks ok) (hB:B≤sp) (n:Nat) (hn:n<pages) (hk:k<pages) :
    Calls Tryz.prog 55 #[(.pointer (some ⟨sp,0,none⟩)),(.pointer (some ⟨Gp,0,none⟩)),.int .i64 (n:Int)] w fun e w'=>∃ V' v,e=.returned (.agg #[.int .i64 ((A n).kind:Int),.int .i64 ((A n).link:Int),v])∧TS w' B D Gp V' K pk m A fl pages∧Sp w' sp V' (k+1) va vb vc lv ln ks ok∧HF sp B w w' V V' vc vc∧w'.ownsRow w.heap.size 9 1 v (A n).cells.length (valsS (A n).cells):=by
  have hb:Below w.heap.size w (w.alloc (.cells #[.int .i64 0,.int .i64 0,.slice none 0 0] 82)):=((Below.refl _ _).alloc (Nat.le_refl _) _)
  have hps:=h.flsmall.2
  obtain ⟨h1,s1⟩:=h.below hb
  have hp1:=h.staySp s1 hp
  obtain ⟨C,p1,hC⟩:=h1.po
  have HR:=hide (creadP p1 hm (n:Int) (by omega) (by rw [h1.pg];omega))
  have HX:=hide (Bx3.new w (.int .i64 0) (.int .i64 0) (.slice none 0 0))
  have H:=hide h
  have H1:=hide (h1)
  have HS1:=hide (s1)
  have HP1:=hide (p1)
  have HSP:=hide (hp1)
  have HC:=hide (hC)
  have HCn:=hide (hC n hn)
  have HLO:=hide (h.lo)
  have HNK:=hide (show n<pages∧k<pages∧pages≤59000∧B≤sp from ⟨hn,hk,hps,hB⟩)
  obtain ⟨-,-,-,-,-,-,hsl⟩:=hp.cells
  have HSL:=hide hsl
  clear h h1 s1 p1 hC hb hn hp hp1 hk hps hB hsl
  go_enter Tryz.func55,Tryz.ntmps55
  go_wp2_with fail
  refine HR.out.mono ?_
  rintro e w1 ⟨V1,k1,k2,k3,k4,(⟨t,k5,rfl⟩ | ⟨rfl,k5⟩)⟩
  · rw [HCn.out.1] at k5
    injection k5 with k5
    subst k5
    have HX1:=hide (HP1.out.stay k2 HX.out (by decide))
    have HQ1:=hide (show TS w1 B D Gp V1 K pk m A fl pages from ⟨⟨C,k1,HC.out⟩,k3.trans H1.out.pg,k4.trans H1.out.fr,H1.out.zero,H1.out.fls,H1.out.flin,k2.nf H1.out.nf,H1.out.fnd⟩)
    have HSP1:=hide (H1.out.staySp k2 HSP.out)
    have HS2:=hide (HS1.out.trans k2)
    clear k1 k2 k3 k4 HR
    go_wp2_with fail
    refine (copenq (pgX (A n)) _ (pgX_size HCn.out.2)).mono ?_
    rintro e w3 ⟨(⟨_,v,rfl,ho⟩ | ⟨k,_⟩),hb3⟩
    · obtain ⟨g1,g2,g3,g4⟩:=pgX_good HCn.out.2
      rw [g4] at ho
      rw [g2,g3]
      obtain ⟨a,c,rfl,-⟩:=sta_own (L:=(A n).cells) ho
      generalize hkd:(A n).kind=kd at *
      generalize hlk:(A n).link=lk at *
      generalize hcl:(A n).cells=cl at *
      have HE:=hide (show (A n).kind=kd∧(A n).link=lk∧(A n).cells=cl from ⟨hkd,hlk,hcl⟩)
      obtain ⟨q3,r3⟩:=HQ1.out.below hb3
      have sp3:=HQ1.out.staySp r3 HSP1.out
      have hX3:Bx3 w3 w.heap.size (.int .i64 0) (.int .i64 0) (.slice none 0 0):=Bx3.below HX1.out hb3
      obtain ⟨c0,c1,c2,c3,c4,c5,c6⟩:=sp3.cells
      have f0:=c5 0
      have hsne:¬ sp=w.heap.size:=by have:=HSL.out;omega
      have hws:w.heap.size<w3.heap.size:=hX3.lt
      have hcast:((k+1:Nat):Int)=(k:Int)+1:=by omega
      have sp4:=sp3.set0 (k+1)
      have hf4:=sp3.hset HNK.out.2.2.2 0 (.int .i64 ((k+1:Nat):Int))
      have ts4:=q3.other (set_grown w3 sp 0 (.int .i64 ((k+1:Nat):Int))) ⟨_,sp3.blk⟩ (by decide)
      have bx4:Bx3 (w3.setCell ⟨sp,0,none⟩ (.int .i64 ((k+1:Nat):Int))) w.heap.size (.int .i64 0) (.int .i64 0) (.slice none 0 0):=(Below.heap_setCell _ _ _ _ (by show ¬ w.heap.size=sp;omega)).trans hX3
      have ow4:(w3.setCell ⟨sp,0,none⟩ (.int .i64 ((k+1:Nat):Int))).ownsRow w1.heap.size 9 1 (.slice a cl.length c) cl.length (valsS cl):=row_keep ho fun g hg=>Below.heap_setCell _ _ _ _ (by have:=(World.ownsRow.lt ho g hg).1;have:=HSP1.out.cells.2.2.2.2.2.2;show ¬ g=sp;omega)
      rw [hcast] at sp4 hf4 ts4 bx4 ow4
      obtain ⟨W3,hW3⟩:∃ W3,w3.setCell ⟨sp,0,none⟩ (.int .i64 ((k:Int)+1))=W3:=⟨_,rfl⟩
      have hWs:W3.heap.size=w3.heap.size:=by rw [← hW3];simp
      rw [hW3] at sp4 hf4 ts4 bx4 ow4
      have hb4:Below W3.heap.size W3 (W3.alloc (.cells #[.int .i64 (kd:Int),.int .i64 (lk:Int),.slice a cl.length c] 82)):=((Below.refl _ _).alloc (Nat.le_refl _) _)
      obtain ⟨ts5,st5⟩:=ts4.below hb4
      have sp5:=ts4.staySp st5 sp4
      have hf5:HF sp B w (W3.alloc (.cells #[.int .i64 (kd:Int),.int .i64 (lk:Int),.slice a cl.length c] 82)) V V1 vc vc:=(((H.out.hf HS2.out sp vc).trans (HQ1.out.hf r3 sp vc)).trans hf4).trans (ts4.hf st5 sp vc)
      have bx5:=bx4.below hb4
      have by5:=Bx3.new W3 (.int .i64 (kd:Int)) (.int .i64 (lk:Int)) (.slice a cl.length c)
      have ow5:=own_below ow4 hb4
      rw [hWs] at by5
      have hsz:(W3.alloc (.cells #[.int .i64 (kd:Int),.int .i64 (lk:Int),.slice a cl.length c] 82)).heap.size=w3.heap.size+1:=by simp [hWs]
      have HM:=hide (hW3)
      have HRW:=hide (show w.heap.size≤w1.heap.size from Nat.le_trans (by simp) HS2.out.bel.size)
      clear g1 g2 g3 g4 hkd hlk hcl c0 c1 c2 c3 c4 c5 c6 f0 hWs hcast sp4 hf4 ts4 bx4 ow4 hb4 st5 q3 r3 ho hb3 hX3
      obtain ⟨c0,c1,c2,c3,c4,c5,c6⟩:=sp3.cells
      have f0:=c5 0
      clear sp3 c5
      have hw1:wrap64 ((k:Int)+1)=(k:Int)+1:=by have:=HNK.out;unfold wrap64;omega
      go_upto_region 4 with fail
      try rw [hW3]
      generalize W3.alloc (.cells #[.int .i64 (kd:Int),.int .i64 (lk:Int),.slice a cl.length c] 82)=W at *
      have HT:=hide (show TS W B D Gp V1 K pk m A fl pages∧Sp W sp V1 (k+1) va vb vc lv ln ks ok∧HF sp B w W V V1 vc vc∧W.ownsRow w1.heap.size 9 1 (.slice a cl.length c) cl.length (valsS cl) from ⟨ts5,sp5,hf5,ow5⟩)
      have HPG:=hide (fun (W':World) (hb:Below W.heap.size W W')=>cpagesT (ts5.below hb).1)
      clear c0 c1 c2 c3 c4 c6 f0 hW3 HM ts5 hf5 ow5
      obtain ⟨c0,c1,c2,c3,c4,c5,c6⟩:=sp5.cells
      clear c5 sp5
      replace c0:W.cell? ⟨sp,0,none⟩=some (.int .i64 ((k:Int)+1)):=c0
      have hgt:¬ (pages:Int)<(k:Int)+1:=by have:=HNK.out;omega
      have y0:=by5.c0
      have y1:=by5.c1
      have y2:=by5.c2
      have x0:=bx5.c0
      have x1:=bx5.c1
      have x2:=bx5.c2
      have z0:=bx5.fz 0
      have z1:=bx5.fz 1
      have z2:=bx5.fz 2
      have xl:=bx5.lt
      have yl:=by5.lt
      have HBX:=hide (And.intro bx5 by5)
      clear bx5 by5
      have HB0:Hid (Below W.heap.size W W.drew):=(Below.refl _ _).drew
      clear y0 y1 y2 x0 x1 x2 z0 z1 z2 xl yl
      go_region_held3 (fun w'=>Hid (Below W.heap.size W w')∧w'.cell? ⟨sp,0,none⟩=some (.int .i64 ((k:Int)+1))) (first | (and_intros <;> first | exact HB0 | assumption) | (go_split_ands;and_intros <;> assumption)) (first | (go_at_call 23;refine (HPG.out _ (Hid.out (by assumption))).mono ?_;rintro e w' ⟨rfl,rfl⟩))
      go_split_ands
      obtain ⟨bx,by'⟩:=HBX.out
      replace bx:=bx.below HB0.out
      replace by':=by'.below HB0.out
      obtain ⟨t1,t2,t3,t4⟩:=HT.out
      obtain ⟨t1d,std⟩:=t1.below HB0.out
      have t2d:=t1.staySp std t2
      have t3d:=t3.trans (t1.hf std sp vc)
      have t4d:=own_below t4 HB0.out
      have hszd:W.drew.heap.size=w3.heap.size+1:=hsz
      clear t1 t2 t3 t4 std HT HPG HBX HB0 c0 c1 c2 c3 c4 c6 hsz
      generalize W.drew=Wd at *
      have y0:=by'.c0
      have y1:=by'.c1
      have y2:=by'.c2
      have x0:=bx.c0
      have x1:=bx.c1
      have x2:=bx.c2
      have z0:=bx.fz 0
      have z1:=bx.fz 1
      have z2:=bx.fz 2
      have xl:=bx.lt
      have yl:=by'.lt
      have hg:=grown_put Wd w.heap.size (.int .i64 (kd:Int)) (.int .i64 (lk:Int)) (.slice a cl.length c)
      have HQ:=hide (show TS (((Wd.setCell ⟨w.heap.size,0,none⟩ (.int .i64 (kd:Int))).setCell ⟨w.heap.size,1,none⟩ (.int .i64 (lk:Int))).setCell ⟨w.heap.size,2,none⟩ (.slice a cl.length c)) B D Gp V1 K pk m A fl pages∧Sp (((Wd.setCell ⟨w.heap.size,0,none⟩ (.int .i64 (kd:Int))).setCell ⟨w.heap.size,1,none⟩ (.int .i64 (lk:Int))).setCell ⟨w.heap.size,2,none⟩ (.slice a cl.length c)) sp V1 (k+1) va vb vc lv ln ks ok∧HF sp B w (((Wd.setCell ⟨w.heap.size,0,none⟩ (.int .i64 (kd:Int))).setCell ⟨w.heap.size,1,none⟩ (.int .i64 (lk:Int))).setCell ⟨w.heap.size,2,none⟩ (.slice a cl.length c)) V V1 vc vc∧(((Wd.setCell ⟨w.heap.size,0,none⟩ (.int .i64 (kd:Int))).setCell ⟨w.heap.size,1,none⟩ (.int .i64 (lk:Int))).setCell ⟨w.heap.size,2,none⟩ (.slice a cl.length c)).ownsRow w.heap.size 9 1 (.slice a cl.length c) cl.length (valsS cl) from
        ⟨t1d.other hg ⟨_,bx⟩ (by decide),t2d.but hg bx (by decide),t3d.new hg (Nat.le_refl _) HSL.out,own_mono (own_put bx t4d (.int .i64 (kd:Int)) (.int .i64 (lk:Int)) (.slice a cl.length c)) HRW.out⟩)
      clear t1d t2d t3d t4d hg bx by'
      go_wp2
      exact bodyPost_ret (v:=.agg #[.int .i64 (kd:Int),.int .i64 (lk:Int),.slice a cl.length c]) (by simp [results,Tryz.results55,go_sem, *]) rfl ⟨V1,_,by rw [HE.out.1,HE.out.2.1],HQ.out.1,HQ.out.2.1,HQ.out.2.2.1,by rw [HE.out.2.2];exact HQ.out.2.2.2⟩
    · exact absurd (pgX_good HCn.out.2).1 k
  · have:=(k2.nf H1.out.nf).2
    rw [k5] at this
    cases this
end
end Go.Proofs.YtmgjdjjfeapcdaaGreat
