/- package pool: what a call leaves; hold, change, toLog -/
import Derived.Test.YtmgjdjjfeapcdaaGreatMgAG
import Derived.Test.YtmgjdjjfeapcdaaGreatShelf
import Derived.Lib.OwnBridge
import Derived.Sort.OwnSortedInts
namespace Go.Proofs.YtmgjdjjfeapcdaaGreat
open Go.RowKit Go.Lib Go.Maps
attribute [local go_sem ↓] Go.wp_at_zero Go.wp_at_succ
theorem hide {p:Prop} (h:p):Hid p:=h
structure PV where
  b:Bk
  P:PS
  L:LS
  S:DS
  N:Pgs
structure PO (w:World) (B D Gp:Nat) (V:PV) (C K:Pgs) (pk m:Nat):Prop where
  pp:PP w B D Gp V.b V.P V.L V.S
  pi:PI V.P V.L V.S C K V.N pk m
  lo:B≤w.heap.size
structure St2 (w w':World) (B:Nat) (V V':PV):Prop where
  bel:BelP V.b.M V'.b.M B w w'
  nf:NoF V.S→NoF V'.S
theorem St2.refl (w:World) (B:Nat) (V:PV):St2 w w B V V:=⟨BelP.refl _ _ _,id⟩
theorem St2.trans {w w' w'':World} {B:Nat} {V V' V'':PV} (h:St2 w w' B V V') (k:St2 w' w'' B V' V''):St2 w w'' B V V'':=⟨h.bel.trans k.bel,fun n=>k.nf (h.nf n)⟩
theorem owns_sliceI {w:World} {base n:Nat} {v:Value} {xs:List Value} (h:w.ownsRow base 3 1 v n xs):∃ a cap,v=.slice a n cap:=by
  rcases h.2 with ⟨e,h0⟩ | ⟨g,cap,cur,e,_⟩
  · exact ⟨none,0,by rw [e,h0]⟩
  · exact ⟨_,cap,e⟩
theorem PP.vo {X:World} {B D Gp:Nat} {b:Bk} {P:PS} {L:LS} {S:DS} (h:PP X B D Gp b P L S):∃ a cap,b.vo=.slice a P.order.length cap:=owns_sliceI h.ord
theorem newsI (w:World) (n:Int):∀ j u,([Value.int .i64 n]:List Value)[j]?=some u→(w.alloc (.cells #[.int .i64 n] 3)).cell? ((⟨w.heap.size,0,none⟩:Addr).add j)=some u:=by
  intro j u hj
  rw [add_none]
  match j,hj with
  | 0,h=>cases h;go_simp
  | j+1,h=>simp at h
theorem grown_alloc {X Y:World} {r:Option Nat} (h:X.grownBy Y r) (o:Obj):X.grownBy (Y.alloc o) r:=But.trans h (World.grownBy_alloc Y o r)
section
variable {X:World} {B D Gp:Nat} {b:Bk} {P:PS} {L:LS} {S:DS}
set_option maxRecDepth 20000 in
theorem PP.more {n:Int} {s:ByteArray} (h:PP X B D Gp b P L S) (hB:B≤X.heap.size) (hn:i64 n) (hl:P.order.length≤63) (hk:∀ x,(P.fs x).isSome=true→x ∈ P.order) (hf:P.fs n=none) :
    ∃ Y,(Instr.mapUpdate 85 (.map (some b.bF)) (.int .i64 n) (.pointer (some ⟨X.heap.size,0,none⟩))).run Tryz.prog (X.alloc (.cells #[.string s,.int .i64 0,.bool false] 103))=.ok () Y∧PP Y B D Gp b { P with fs:=updR P.fs n ⟨X.heap.size,s,false⟩ } L S∧BelP b.M b.M B X Y:=by
  have hb:Below X.heap.size X (X.alloc (.cells #[.string s,.int .i64 0,.bool false] 103)):=(Below.refl _ _).alloc (Nat.le_refl _) _
  have h1:=h.below hb
  have hm:=h1.fmap.small P.order (fun x hx=>hk x (by cases hq:P.fs x with | none=>rw [hq] at hx;cases hx | some f=>rfl))
  obtain ⟨Y,hrun,hM,hg⟩:=hm.put (by omega) (x:=n) (v:=X.heap.size) hn
  have hnew:(X.alloc (.cells #[.string s,.int .i64 0,.bool false] 103)).heap[X.heap.size]?=some (.cells (frC ⟨X.heap.size,s,false⟩) 103 (0,0)):=heap_alloc_new X _
  refine ⟨Y,hrun,h1.fmaps hg (k:=P.order.length+1) (hM.congr fun x _=>?_) (by omega) (fun m f hf'=>?_) (fun m m' f f' hm1 hm2 he=>?_),(below_belP hb hB _).trans (h1.fmaps_bel hg (Nat.le_trans hB hb.size))⟩
  · unfold updP updR
    by_cases e:x=n
    · rw [if_pos e,if_pos e];rfl
    · rw [if_neg e,if_neg e]
  · by_cases e:m=n
    · subst e;rw [updR_at] at hf';injection hf' with hf';subst hf';exact ⟨hnew,hB⟩
    · rw [updR_ne _ _ e] at hf';exact h1.frs m f hf'
  · by_cases e:m=n
    · by_cases e':m'=n
      · rw [e,e']
      · subst e;rw [updR_at] at hm1;injection hm1 with hm1;subst hm1
        rw [updR_ne _ _ e'] at hm2
        have:=(h.fcells hm2).2.2.2.2.2
        have he:X.heap.size=f'.blk:=he
        omega
    · by_cases e':m'=n
      · subst e';rw [updR_at] at hm2;injection hm2 with hm2;subst hm2
        rw [updR_ne _ _ e] at hm1
        have:=(h.fcells hm1).2.2.2.2.2
        have he:f.blk=X.heap.size:=he
        omega
      · rw [updR_ne _ _ e] at hm1;rw [updR_ne _ _ e'] at hm2;exact h1.inj m m' f f' hm1 hm2 he
/- the pool's own block behind a change of the order's row -/
theorem PP.own5 {Y:World} {r:Option Nat} (h:PP X B D Gp b P L S) (hg:X.grownBy Y r) (hr:∀ g,r=some g→b.vo.ownBlock=some g):Y.cell? ⟨Gp,5,none⟩=some b.vo∧Y.frozen? ⟨Gp,5,none⟩=false∧Gp<Y.heap.size:=by
  have hb:Y.heap[Gp]?=some (.cells (poolC b P) 90 (0,0)):=by
    refine (hg.block Gp h.lt (fun e=>?_)).trans h.blk
    have:=hr _ e.symm
    exact ne_CC (h.kinds.2.2.2.2.2.2.2 _ this) h.kinds.1 (by decide) rfl
  exact ⟨by simp [World.cell?,hb,poolC],by simp [World.frozen?,hb],(Array.getElem?_eq_some_iff.1 hb).1⟩
theorem PP.reord {Y:World} {l:List Int} {v:Value} (h:PP X B D Gp b P L S) (hB:B≤X.heap.size) (hg:X.grownBy Y b.vo.ownBlock) (ho:Y.ownsRow B 3 1 v l.length (l.map (Value.int .i64))) (hown:v.ownBlock=b.vo.ownBlock∨∃ k,v.ownBlock=some k∧X.heap.size≤k) :
    PP (Y.setCell ⟨Gp,5,none⟩ v) B D Gp { b with vo:=v } { P with order:=l } L S∧BelP b.M ({ b with vo:=v }:Bk).M B X (Y.setCell ⟨Gp,5,none⟩ v)∧Y.cell? ⟨Gp,5,none⟩=some b.vo∧Y.frozen? ⟨Gp,5,none⟩=false∧Gp<Y.heap.size:=
  have hn:∀ g,v.ownBlock=some g→b.vo.ownBlock=some g∨X.heap.size≤g:=fun g hg'=>by
      rcases hown with e | ⟨k,e,hk⟩
      · left;rw [← e];exact hg'
      · right;rw [e] at hg';injection hg' with hg';omega
  ⟨h.order hg (fun _ hg=>hg) ho hn,h.order_bel hg (fun _ hg=>hg) hB hn,h.own5 hg (fun _ hg=>hg)⟩
set_option maxRecDepth 20000 in
set_option maxHeartbeats 2000000 in
theorem chold (n:Int) (s:ByteArray) (h:PP X B D Gp b P L S) (hB:B≤X.heap.size) (hn:i64 n) (hl:P.order.length≤63) (hk:∀ x,(P.fs x).isSome=true→x ∈ P.order) (hf:P.fs n=none) :
    Calls Tryz.prog 131 #[(.pointer (some ⟨Gp,0,none⟩)),.int .i64 n,.string s] X fun e w'=>∃ v,e=.returned (.pointer (some ⟨X.heap.size,0,none⟩))∧PP w' B D Gp { b with vo:=v } { P with fs:=updR P.fs n ⟨X.heap.size,s,false⟩,order:=P.order ++ [n] } L S∧BelP b.M ({ b with vo:=v }:Bk).M B X w':=by
  obtain ⟨Y,hrun,hY,hbY⟩:=h.more (s:=s) hB hn hl hk hf
  obtain ⟨c0,c1,c2,c3,c4,c5,c6,c7,c8,c9⟩:=(h.below ((Below.refl _ _).alloc (Nat.le_refl _) (.cells #[.string s,.int .i64 0,.bool false] 103))).cells
  obtain ⟨d0,d1,d2,d3,d4,d5,d6,d7,d8,d9⟩:=hY.cells
  obtain ⟨oa,oc,hvo⟩:=h.vo
  rw [hvo] at d5
  have HY:Hid (PP Y B D Gp b { P with fs:=updR P.fs n ⟨X.heap.size,s,false⟩ } L S):=hY
  have HBY:Hid (BelP b.M b.M B X Y):=hbY
  have HB0:Hid (B≤X.heap.size):=hB
  have HV:Hid (b.vo=.slice oa P.order.length oc):=hvo
  have hi0:(Tryz.prog.info? 3).map (fun i=>(i.zero,i.size,i.bytes))=some (some (.int .i64 0),1,8):=by kernel_rfl
  obtain ⟨i0,hi,hz⟩:=Option.map_eq_some_iff.1 hi0
  simp only [Prod.mk.injEq] at hz
  obtain ⟨hz0,hz1,hz2⟩:=hz
  have HL:Hid (P.order.length≤63):=hl
  clear h hY hbY hB c0 c1 c2 c3 c5 c6 c7 c8 c9 d0 d1 d2 d3 d6 d7 d8 d9 hk hf hvo hl
  go_enter Tryz.func131,Tryz.ntmps131
  go_wp2_with (first
    | (at_builtin;refine wpList_append_own_at _ rfl _ _ 42 rfl B 3 i0 (.int .i64 0) 1 8 Tryz.underlying42 hi hz0 hz1 hz2 rfl (by decide) (.slice oa P.order.length oc) P.order.length (P.order.map (Value.int .i64)) rfl (by rw [← HV.out];exact World.ownsRow.alloc HY.out.ord _) ⟨Y.heap.size,0,none⟩ 1 1 [.int .i64 n] rfl rfl (newsI _ _) (fun x hx=>by simp at hx;subst hx;rfl) (by have:=HL.out;unfold maxLen;omega) (by have:=HL.out;omega) (by simp;exact Nat.le_trans HB0.out (Nat.le_trans HBY.out.size (by omega))) ?_;intro v1 w2 ho1 hg1 hnil1 hown1;obtain ⟨a1,cap1,rfl⟩:=owns_sliceI ho1;have HH:=HY.out.reord (l:=P.order ++ [n]) (Nat.le_trans HB0.out HBY.out.size) (by rw [HV.out];exact But.trans (World.grownBy_alloc Y _ _) hg1) (by rw [List.length_append,List.map_append];exact ho1) (by rw [HV.out];exact hown1.imp id (fun e=>⟨_,e,by simp⟩));have HZ:Hid (PP (w2.setCell ⟨Gp,5,none⟩ (.slice a1 (P.order.length+1) cap1)) B D Gp { b with vo:=(.slice a1 (P.order.length+1) cap1) } { P with fs:=updR P.fs n ⟨X.heap.size,s,false⟩,order:=P.order ++ [n] } L S):=HH.1;have HBZ:Hid (BelP b.M ({ b with vo:=(.slice a1 (P.order.length+1) cap1) }:Bk).M B X (w2.setCell ⟨Gp,5,none⟩ (.slice a1 (P.order.length+1) cap1))):=HBY.out.trans HH.2.1;have e5:=HH.2.2.1;rw [HV.out] at e5;have f5:=HH.2.2.2.1;have l5:=HH.2.2.2.2;clear HH ho1 hg1 hnil1 hown1)
    | go_in)
  go_ret
  exact ⟨_,rfl,HZ.out,HBZ.out⟩
theorem PP.changed {n:Int} {f:FrP} {s:ByteArray} (h:PP X B D Gp b P L S) (hf:P.fs n=some f) (hB:B≤X.heap.size) (hn:i64 n) (hc:∀ x,P.chg x=true→0≤x∧x<59999) :
    PP ((X.setCell ⟨f.blk,0,none⟩ (.string s)).setCell ⟨f.blk,2,none⟩ (.bool true)) B D Gp b { P with fs:=updR P.fs n ⟨f.blk,s,true⟩ } L S∧BelP b.M b.M B X ((X.setCell ⟨f.blk,0,none⟩ (.string s)).setCell ⟨f.blk,2,none⟩ (.bool true)) ∧
    ∃ Y,(Instr.mapUpdate 86 (.map (some b.bC)) (.int .i64 n) (.agg #[])).run Tryz.prog ((X.setCell ⟨f.blk,0,none⟩ (.string s)).setCell ⟨f.blk,2,none⟩ (.bool true))=.ok () Y∧PP Y B D Gp b (chP P n f.blk s) L S∧BelP b.M b.M B X Y:=by
  have hg:X.grownBy ((X.setCell ⟨f.blk,0,none⟩ (.string s)).setCell ⟨f.blk,2,none⟩ (.bool true)) (some f.blk):=((But.refl X (some f.blk)).set 0 (.string s)).set 2 (.bool true)
  have h1:=h.frame (f':=⟨f.blk,s,true⟩) hf rfl hg (by rw [set_blk (set_blk (h.frs n f hf).1)];rfl)
  have b1:=h.frame_bel hf hg hB
  obtain ⟨Y,hrun,hM,hgY⟩:=(h1.chm.small 59999 hc).put (by omega) (x:=n) hn
  exact ⟨h1,b1,Y,hrun,h1.chms hgY hM (by omega),b1.trans (h1.chms_bel hgY (Nat.le_trans hB hg.size))⟩
set_option maxRecDepth 20000 in
set_option maxHeartbeats 2000000 in
theorem cchange (n:Int) (f:FrP) (s:ByteArray) (h:PP X B D Gp b P L S) (hf:P.fs n=some f) (hB:B≤X.heap.size) (hn:i64 n) (hc:∀ x,P.chg x=true→0≤x∧x<59999) :
    Calls Tryz.prog 167 #[(.pointer (some ⟨Gp,0,none⟩)),.int .i64 n,(.pointer (some ⟨f.blk,0,none⟩)),.string s] X fun e w'=>e=.returned (.tuple #[])∧PP w' B D Gp b (chP P n f.blk s) L S∧BelP b.M b.M B X w':=by
  obtain ⟨h1,b1,Y,hrun,hY,hbY⟩:=h.changed (s:=s) hf hB hn hc
  obtain ⟨f0,f1,f2,z0,z2,hlt⟩:=h.fcells hf
  obtain ⟨d0,d1,d2,d3,d4,d5,d6,d7,d8,d9⟩:=h1.cells
  have HY:Hid (PP Y B D Gp b (chP P n f.blk s) L S):=hY
  have HBY:Hid (BelP b.M b.M B X Y):=hbY
  generalize f.blk=g at *
  clear h h1 b1 hY hbY hB d0 d1 d2 d3 d4 d5 d7 d8 d9 hc f1
  go_enter Tryz.func167,Tryz.ntmps167
  go_wp2
  go_end0
  exact ⟨rfl,HY.out,HBY.out⟩
end
set_option maxRecDepth 20000 in
set_option maxHeartbeats 2000000 in
theorem ctoLog {w:World} {B D Gp:Nat} {V:PV} {C K:Pgs} {pk m:Nat} (h:PO w B D Gp V C K pk m) (hm:m≤50000) (n:Int) (f:FrP) (hf:V.P.fs n=some f) (hd:f.dirty=true) :
    Calls Tryz.prog 77 #[(.pointer (some ⟨Gp,0,none⟩)),.int .i64 n] w fun e w'=>∃ V',PO w' B D Gp V' C K pk m∧St2 w w' B V V'∧IntS w w'∧V'.b=V.b∧((e=.returned (.int .i64 0)∧V'.P={ V.P with fs:=updR V.P.fs n { f with dirty:=false } })∨(e=.returned (.int .i64 2)∧V'.S.down=true∧V'.P=V.P)):=by
  obtain ⟨⟨G,bp,bf,bF,bC,vo⟩,P,L,S,N⟩:=V
  obtain ⟨pp,pi,lo⟩:=h
  dsimp only at pp pi hf
  obtain ⟨g1,g2,g3,g4,g5⟩:=pi.held hf
  have hpg:=pi.pg
  obtain ⟨n,rfl⟩:∃ k:Nat,n=k:=⟨n.toNat,by omega⟩
  have hn:i64 (n:Int):=i64_in (by omega) (by omega)
  have hl:=pp.fmap.look1 hn
  simp only [hf,Option.map_some,ptrO] at hl
  obtain ⟨c0,c1,c2,c3,c4,c5,c6,c7,c8,c9⟩:=pp.cells
  obtain ⟨f0,f1,f2,z0,z2,hlt⟩:=pp.fcells hf
  obtain ⟨j,k,i1,i2,i3,i4⟩:=pi.inv
  have hfr:=i1.fr
  have HA:Hid (∀ W,Below w.heap.size w W→Calls Tryz.prog 78 #[(.pointer (some ⟨G,0,none⟩)),.int .i64 (n:Int),.string f.text] W fun e w'=>e=.returned (.int .i64 (apL L S n f.text).1)∧PL w' B D G bp bf (60000+1) (apL L S n f.text).2.1 (apL L S n f.text).2.2∧BelL G bp bf B W w'):=fun W hW=>cappend n f.text W B D G bp bf 60000 k L S (pp.log.below hW) (Nat.le_trans lo hW.size) (by decide) i3 (by omega) (by omega)
  have HP:Hid (PP w B D Gp ⟨G,bp,bf,bF,bC,vo⟩ P L S):=pp
  have HI:Hid (PI P L S C K N pk m):=pi
  have HLO:Hid (B≤w.heap.size):=lo
  have hok:=apL_ok (L:=L) i3 n f.text
  have hnf:NoF S→NoF (apL L S n f.text).2.2:=fun h=>apL_nf h _ _
  rcases ap_out i1 (by omega) (by omega:n<60000) g5 with e1 | ⟨u1,S1,e1,v1,I1⟩
  · rw [e1] at HA hok hnf
    have HNF:Hid (NoF S→NoF { S with down:=true }):=hnf
    clear pp pi hok hnf e1 i1 i2 i3 i4 c1 c2 c3 c5 c6 c7 c8 c9 f1 f2 z0 z2 hfr
    go_enter Tryz.func77,Tryz.ntmps77
    go_wp2_with fail
    go_region_with (go_at_call 78;refine (HA.out _ ((Below.refl _ _).drew)).mono ?_;rintro e w5 ⟨rfl,hp5,hb5⟩)
    all_goals
      have HF5:Hid (BelL G bp bf B w w5):=(below_log ((Below.refl _ _).drew) HLO.out G bp bf).trans hb5
      have HP5:Hid (PP w5 B D Gp ⟨G,bp,bf,bF,bC,vo⟩ P L { S with down:=true }):=HP.out.logs HF5.out (by
        obtain ⟨j,k,i1,-⟩:=HI.out.inv
        exact hp5.small i1.pos i1.posF)
      clear hp5 hb5
      go_wp2
      go_ret
      exact ⟨⟨⟨G,bp,bf,bF,bC,vo⟩,P,L,{ S with down:=true },N⟩,⟨HP5.out,HI.out.down,Nat.le_trans HLO.out HF5.out.size⟩,⟨HP.out.belL HF5.out,HNF.out⟩,fun g cs hg=>HP.out.logs_stay HF5.out hg (by decide) (by decide),rfl,.inr ⟨rfl,rfl,rfl⟩⟩
  · rw [e1] at HA hok hnf
    have HNF:Hid (NoF S→NoF S1):=hnf
    have HI1:Hid (PI { P with fs:=updR P.fs n { f with dirty:=false } } { L with fh:=updM L.fh n L.fr,fr:=L.fr+1 } S1 C K (wth N n f.text) pk m):=by
      refine pi.logged hf hd rfl (fun j' hj hjm=>?_) (fun k' hk'=>?_)
      · rcases ap_out hj (by omega) (by omega:n<60000) g5 with e2 | ⟨u2,S2,e2,v2,I2⟩
        · rw [e1] at e2;cases e2
        · rw [e1] at e2
          injection e2 with _ e2
          injection e2 with _ e2
          subst e2
          exact I2
      · have:=apL_ok (L:=L) hk' n f.text
        rw [e1] at this
        exact this
    have HSM:Hid ((∀ x,((updM L.fh n L.fr) x).isSome=true→0≤x∧x<60000)∧∀ x,(L.pl x).isSome=true→0≤x∧x<60000):=(⟨I1.posF,I1.pos⟩:(∀ x,((updM L.fh n L.fr) x).isSome=true→0≤x∧x<((60000:Nat):Int))∧∀ x,(L.pl x).isSome=true→0≤x∧x<((60000:Nat):Int))
    clear pp pi hok hnf e1 i1 i2 i3 i4 c1 c2 c3 c5 c6 c7 c8 c9 f1 f2 z0 z2 hfr I1
    go_enter Tryz.func77,Tryz.ntmps77
    go_wp2_with fail
    go_region_with (go_at_call 78;refine (HA.out _ ((Below.refl _ _).drew)).mono ?_;rintro e w5 ⟨rfl,hp5,hb5⟩)
    all_goals
      have HF5:Hid (BelL G bp bf B w w5):=(below_log ((Below.refl _ _).drew) HLO.out G bp bf).trans hb5
      have HP5:Hid (PP w5 B D Gp ⟨G,bp,bf,bF,bC,vo⟩ P { L with fh:=updM L.fh n L.fr,fr:=L.fr+1 } S1):=HP.out.logs HF5.out (hp5.small HSM.out.2 HSM.out.1)
      have hg:w5.grownBy (w5.setCell ⟨f.blk,2,none⟩ (.bool false)) (some f.blk):=set_grown _ _ _ _
      have HP6:Hid (PP (w5.setCell ⟨f.blk,2,none⟩ (.bool false)) B D Gp ⟨G,bp,bf,bF,bC,vo⟩ { P with fs:=updR P.fs n { f with dirty:=false } } { L with fh:=updM L.fh n L.fr,fr:=L.fr+1 } S1):=HP5.out.frame hf rfl hg (by rw [set_blk (HP5.out.frs n f hf).1];rfl)
      have HB6:Hid (BelP (Bk.M ⟨G,bp,bf,bF,bC,vo⟩) (Bk.M ⟨G,bp,bf,bF,bC,vo⟩) B w (w5.setCell ⟨f.blk,2,none⟩ (.bool false))):=(HP.out.belL HF5.out).trans (HP5.out.frame_bel hf hg (Nat.le_trans HLO.out HF5.out.size))
      obtain ⟨q0,q1,q2,y0,y2,hlt5⟩:=HP5.out.fcells hf
      clear hp5 hb5 hg q0 q1 y0
      go_wp2
      go_ret
      exact ⟨⟨⟨G,bp,bf,bF,bC,vo⟩,{ P with fs:=updR P.fs n { f with dirty:=false } },{ L with fh:=updM L.fh n L.fr,fr:=L.fr+1 },S1,wth N n f.text⟩,⟨HP6.out,HI1.out,Nat.le_trans HLO.out HB6.out.size⟩,⟨HB6.out,HNF.out⟩,fun g cs hg=>by
        have e5:=HP.out.logs_stay HF5.out hg (by decide) (by decide)
        refine ((set_grown w5 f.blk 2 (.bool false)).block g (Array.getElem?_eq_some_iff.1 (e5.trans hg)).1 (fun e=>?_)).trans e5
        injection e with e
        exact ne_CC ⟨_,(HP5.out.frs n f hf).1⟩ ⟨_,e5.trans hg⟩ (by decide) e,rfl,.inl ⟨rfl,rfl⟩⟩
end Go.Proofs.YtmgjdjjfeapcdaaGreat
namespace Go.Proofs.YtmgjdjjfeapcdaaGreat
open Go.RowKit Go.Lib Go.Maps Go.Sort
attribute [local go_sem ↓] Go.wp_at_zero Go.wp_at_succ
section
variable {X:World} {B D Gp:Nat} {b:Bk} {P:PS} {L:LS} {S:DS}
/- a pool that holds something: where its order lies -/
theorem PP.row (h:PP X B D Gp b P L S) (hne:¬ P.order=[]):∃ g cap,b.vo=.slice (some ⟨g,0,none⟩) P.order.length cap∧B≤g∧g<X.heap.size∧P.order.length≤cap∧cap≤maxLen∧Holds (Value.int .i64) X g 0 P.order.toArray:=by
  have hv:b.vo ≠ .slice none 0 0:=fun e=>by
    rcases h.ord.2 with ⟨_,h0⟩ | ⟨g,cap,cur,e',_⟩
    · exact hne (List.length_eq_zero_iff.1 h0)
    · rw [e] at e';cases e'
  obtain ⟨g,cap,e,h1,h2,h3,h4,h5,h6⟩:=holds_of_ownsRow h.ord hv
  exact ⟨g,cap,e,h1,h2,h3,h4,h6⟩
theorem holds_cell {w:World} {g:Nat} {l:List Int} (h:Holds (Value.int .i64) w g 0 l.toArray) (j:Nat) (hj:j<l.length):w.cell? ⟨g,j,none⟩=some (.int .i64 (l.getD j 0)):=by
  have:=(h j (by simpa using hj)).1
  rw [Nat.zero_add] at this
  rw [this]
  simp [hj]
theorem erase_take {l:List Int} {i:Nat} (hi:i<l.length):(l.take i ++ l.drop (i+1) ++ List.replicate (i+1 - i) 0).take (l.length - 1)=l.eraseIdx i:=by
  rw [List.eraseIdx_eq_take_drop_succ]
  rw [List.take_append_of_le_length (by simp;omega),List.take_of_length_le (by simp;omega)]
theorem cdelete (i:Nat) (h:PP X B D Gp b P L S) (hi:i<P.order.length) (hl:P.order.length≤64) :
    Calls Tryz.prog 171 #[b.vo,.int .i64 i,.int .i64 ((i:Int)+1)] X fun e w'=>∃ a c,e=.returned (.slice a (P.order.length - 1) c)∧w'.ownsRow B 3 1 (.slice a (P.order.length - 1) c) (P.order.eraseIdx i).length ((P.order.eraseIdx i).map (Value.int .i64))∧X.grownBy w' b.vo.ownBlock∧(Value.slice a (P.order.length - 1) c).ownBlock=b.vo.ownBlock:=by
  obtain ⟨g,cap,e,h1,h2,h3,h4,h5⟩:=h.row (fun k=>by rw [k] at hi;simp at hi)
  have ho:=h.ord
  rw [e] at ho ⊢
  have:=Tryz.slices_Delete_int g 0 cap i (i+1) P.order X h5 h3 (by unfold maxLen at h4;omega) (by omega) (by omega)
  rw [show ((i+1:Nat):Int)=(i:Int)+1 by omega,show P.order.length - (i+1 - i)=P.order.length - 1 by omega] at this
  refine this.mono ?_
  rintro r w' ⟨rfl,q,rfl⟩
  have hz:(P.order.take i ++ P.order.drop (i+1) ++ List.replicate (i+1 - i) 0).length=P.order.length:=by simp;omega
  have hrow:=ownsRow_putRow (q:=q) (k:=P.order.length - 1) ho hz (by omega)
  rw [erase_take hi] at hrow
  have hle:(P.order.eraseIdx i).length=P.order.length - 1:=by rw [List.length_eraseIdx,if_pos hi]
  refine ⟨some ⟨g,0,none⟩,cap,rfl,by rw [hle];exact hrow,?_,rfl⟩
  have:=grownBy_sortedI (w:=X) (g:=g) (n:=q) (os:=#[]) (P.order.take i ++ P.order.drop (i+1) ++ List.replicate (i+1 - i) 0).toArray
  rw [grow_empty] at this
  exact this
theorem idx_of {l:List Int} {x:Int} (hn:l.Nodup) (hx:x ∈ l):∃ i:Nat,i<l.length∧idxOf (l.take l.length) x=i∧l[i]?=some x:=by
  obtain ⟨i,hi,rfl⟩:=List.getElem_of_mem hx
  refine ⟨i,hi,idxOf_hit l l.length i _ hi (Nat.le_refl _) (getD_at hi) (fun j hj=>?_),List.getElem?_eq_getElem hi⟩
  rw [getD_at (show j<l.length by omega)]
  intro e
  have:=(List.getElem_inj hn).1 e
  omega
set_option maxRecDepth 20000 in
set_option maxHeartbeats 2000000 in
theorem cwithout (n:Int) (h:PP X B D Gp b P L S) (hn:n ∈ P.order) (hd:P.order.Nodup) (hl:P.order.length≤64) :
    Calls Tryz.prog 129 #[(.pointer (some ⟨Gp,0,none⟩)),.int .i64 n] X fun e w'=>∃ i a c,P.order[i]?=some n∧i<P.order.length∧e=.returned (.slice a (P.order.length - 1) c)∧w'.ownsRow B 3 1 (.slice a (P.order.length - 1) c) (P.order.eraseIdx i).length ((P.order.eraseIdx i).map (Value.int .i64))∧X.grownBy w' b.vo.ownBlock∧(Value.slice a (P.order.length - 1) c).ownBlock=b.vo.ownBlock:=by
  obtain ⟨i,hi,hix,hat⟩:=idx_of hd hn
  obtain ⟨c0,c1,c2,c3,c4,c5,c6,c7,c8,c9⟩:=h.cells
  have HD:=hide (cdelete i h hi hl)
  obtain ⟨g,cap,e,h1,h2,h3,h4,h5⟩:=h.row (fun k=>by rw [k] at hi;simp at hi)
  rw [e] at c5 HD ⊢
  have hI:=Tryz.slices_Index_int g 0 P.order.length cap P.order n X (Nat.le_refl _) (by omega) (fun j hj=>by rw [Nat.zero_add];exact holds_cell h5 j hj)
  rw [hix] at hI
  have HI:=hide (hI)
  have hi63:(i:Int)<1000:=by omega
  clear h c0 c1 c2 c3 c4 c6 c7 c8 c9 h5 hI hix hd hn
  go_enter Tryz.func129,Tryz.ntmps129
  go_wp2_with fail
  refine HI.out.mono ?_
  rintro e w1 ⟨rfl,hw⟩;rw [hw];clear hw
  go_wp2_with fail
  refine HD.out.mono ?_
  rintro r w2 ⟨a,c,rfl,q1,q2,q3⟩
  have HQ:=hide (q1)
  have HQ2:=hide (q2)
  have HQ3:=hide (q3)
  clear q1 q2 q3
  go_wp2
  go_ret
  exact ⟨i,a,c,hat,hi,rfl,HQ.out,HQ2.out,HQ3.out⟩
end
/- a held page at the head of the order goes, in memory -/
theorem PP.drop {X Y:World} {B D Gp:Nat} {b:Bk} {P:PS} {L:LS} {S:DS} {x:Int} (h:PP X B D Gp b P L S) (hg:X.grownBy Y (some b.bF)) (hM:MF Y b.bF 65 (delP (fun n=>(P.fs n).map (·.blk)) x)):PP Y B D Gp b { P with fs:=delR P.fs x } L S:=by
  refine h.fmaps hg (hM.congr fun n _=>?_) (Nat.le_refl _) (fun n f hf=>?_) (fun n n' f f' hf hf'=>?_)
  · unfold delR delP
    by_cases e:n=x
    · rw [if_pos e,if_pos e];rfl
    · rw [if_neg e,if_neg e]
  · by_cases e:n=x
    · subst e;rw [delR_at] at hf;cases hf
    · rw [delR_ne _ e] at hf;exact h.frs n f hf
  · by_cases e:n=x
    · subst e;rw [delR_at] at hf;cases hf
    · by_cases e':n'=x
      · subst e';rw [delR_at] at hf';cases hf'
      · rw [delR_ne _ e] at hf;rw [delR_ne _ e'] at hf';exact h.inj n n' f f' hf hf'
/- room is made for one page more -/
set_option maxRecDepth 20000 in
set_option maxHeartbeats 4000000 in
theorem cmakeRoom {w:World} {B D Gp:Nat} {V:PV} {C K:Pgs} {pk m:Nat} (h:PO w B D Gp V C K pk m) (hm:m≤50000) :
    Calls Tryz.prog 130 #[(.pointer (some ⟨Gp,0,none⟩))] w fun e w'=>∃ V',PO w' B D Gp V' C K pk m∧St2 w w' B V V'∧V'.P.pages=V.P.pages∧V'.P.free=V.P.free∧V'.P.most=V.P.most∧(∀ n f,V'.P.fs n=some f→V.P.fs n=some f)∧((e=.returned (.int .i64 0)∧V'.P.order.length<V'.P.most)∨(e=.returned (.int .i64 2)∧V'.S.down=true)):=by
  obtain ⟨oa,oc,hvo⟩:=h.pp.vo
  obtain ⟨c0,c1,c2,c3,c4,c5,c6,c7,c8,c9⟩:=h.pp.cells
  have hmo:=h.pi.most
  rw [hvo] at c5
  by_cases hl:V.P.order.length<V.P.most
  · have hl':(V.P.order.length:Int)<(V.P.most:Int):=by omega
    have HP:Hid (PO w B D Gp V C K pk m):=h
    have HL:=hide (hl)
    clear hl h hvo c0 c2 c3 c4 c6 c7 c8 c9
    go_enter Tryz.func130,Tryz.ntmps130
    go_wp2_with fail
    go_region
    all_goals
      go_wp2
      go_ret
      exact ⟨V,⟨HP.out.pp.below ((Below.refl _ _).drew),HP.out.pi,HP.out.lo⟩,⟨below_belP ((Below.refl _ _).drew) HP.out.lo _,id⟩,rfl,rfl,rfl,fun _ _ hn=>hn,.inl ⟨rfl,HL.out⟩⟩
  · have hl':¬ (V.P.order.length:Int)<(V.P.most:Int):=by omega
    obtain ⟨x,r,hxr⟩:∃ x r,V.P.order=x :: r:=by
      cases hq:V.P.order with
      | nil=>rw [hq] at hl;simp at hl;omega
      | cons x r=>exact ⟨x,r,rfl⟩
    have hx:=h.pi.rng x (by rw [hxr];exact List.mem_cons_self ..)
    have hpg:=h.pi.pg
    have hx64:i64 x:=i64_in (by omega) (by omega)
    obtain ⟨f,hf⟩:∃ f,V.P.fs x=some f:=Option.isSome_iff_exists.1 ((h.pi.keys x).1 (by rw [hxr];exact List.mem_cons_self ..))
    have hW:PO w.drew B D Gp V C K pk m:=⟨h.pp.below ((Below.refl _ _).drew),h.pi,h.lo⟩
    have HW:Hid (PO w.drew B D Gp V C K pk m):=hW
    have HSW:Hid (St2 w w.drew B V V):=(⟨below_belP ((Below.refl _ _).drew) h.lo _,id⟩:St2 w w.drew B V V)
    obtain ⟨g,cap,hg0,g1,g2,g3,g4,g5⟩:=hW.pp.row (by rw [hxr];simp)
    rw [hvo] at hg0
    injection hg0 with ea _ ec
    subst ea ec
    have hcx:w.drew.cell? ⟨g,0,none⟩=some (.int .i64 x):=by
      have:=holds_cell g5 0 (by rw [hxr];simp)
      rw [this,hxr]
      rfl
    have HIX:Hid (Calls Tryz.prog 140 #[.slice (some ⟨g,0,none⟩) V.P.order.length oc,.func (.func 172) #[(.pointer (some ⟨Gp,0,none⟩))] #[]] w.drew fun e w'=>e=.returned (.int .i64 0)∧w'=w.drew):=by
      have:=cindexL (.pointer (some ⟨Gp,0,none⟩)) (fun _=>true) g 0 V.P.order.length oc V.P.order w.drew rfl (by omega) (fun j hj=>by rw [Nat.zero_add];exact holds_cell g5 j hj) (fun y hy=>by
        obtain ⟨f',hf'⟩:=Option.isSome_iff_exists.1 ((hW.pi.keys y).1 hy)
        have:=hW.pi.rng y hy
        exact cisLoose hW.pp hf' (i64_in (by omega) (by omega)))
      rw [hxr] at this ⊢
      exact this
    have hlk:=hW.pp.fmap.look1 hx64
    simp only [hf,Option.map_some,ptrO] at hlk
    obtain ⟨f0,f1,f2,z0,z2,hlt⟩:=hW.pp.fcells hf
    obtain ⟨e0,e1,e2,e3,e4,e5,e6,e7,e8,e9⟩:=hW.pp.cells
    rw [hvo] at e5
    have HX64:Hid (i64 x):=hx64
    have HXR:Hid (V.P.order=x :: r):=hxr
    have hlen:V.P.order.length=r.length+1:=by rw [hxr];rfl
    have HVO:Hid (V.b.vo=.slice (some ⟨g,0,none⟩) V.P.order.length oc):=hvo
    clear h hW hvo c0 c2 c3 c4 c6 c7 c8 c9 g5 hx64 hxr e0 e1 e2 e3 e6 e7 e8 e9 f0 f1 z0 z2
    cases hd:f.dirty with
    | false =>
      rw [hd] at f2
      have HFF:Hid (V.P.fs x=some f):=hf
      have HDD:Hid (f.dirty=false):=hd
      clear hf hd
      rw [hlen] at HVO HIX c5 e5 hl'
      go_enter Tryz.func130,Tryz.ntmps130
      go_wp2_with fail
      go_region
      all_goals
        go_wp2_with fail
        refine HIX.out.mono ?_
        rintro e w1 ⟨rfl,hw⟩;rw [hw];clear hw
        have HPP5:Hid (PP w.drew B D Gp V.b V.P V.L V.S):=HW.out.pp
        have HPI5:Hid (PI V.P V.L V.S C K V.N pk m):=HW.out.pi
        have HLO5:Hid (B≤w.drew.heap.size):=HW.out.lo
        have HS5:Hid (St2 w w.drew B V V):=HSW
        have HO5:Hid (V.b.vo=.slice (some ⟨g,0,none⟩) (r.length+1) oc):=HVO
        have HR5:Hid (V.P.order=x :: r):=HXR
        have HF5:Hid (V.P.fs x=some f):=HFF
        have HC5:Hid (f.dirty=false):=HDD
        obtain ⟨c0,c1,c2,c3,c4,c5,c6,c7,c8,c9⟩:=HPP5.out.cells
        rw [HO5.out] at c5
        obtain ⟨Y,hrun,hM,hgY⟩:=HPP5.out.fmap.drop HX64.out 0 (x:=x)
        have HY:Hid (PP Y B D Gp V.b { V.P with fs:=delR V.P.fs x } V.L V.S):=HPP5.out.drop hgY hM
        have HBY:Hid (BelP V.b.M V.b.M B w.drew Y):=HPP5.out.fmaps_bel hgY HLO5.out
        obtain ⟨d0,d1,d2,d3,d4,d5,d6,d7,d8,d9⟩:=HY.out.cells
        rw [HO5.out] at d5
        have HD:=hide (cdelete 0 HY.out (by show 0<V.P.order.length;rw [HR5.out];simp) (by have:=HPI5.out.most;show V.P.order.length≤64;omega))
        simp only [HR5.out,HO5.out,List.eraseIdx_cons_zero,List.length_cons,Nat.add_sub_cancel,Int.natCast_zero,Int.zero_add] at HD
        clear hM hgY c0 c1 c2 c3 c5 c6 c7 c8 c9 d0 d1 d2 d3 d4 d6 d7 d8 d9
        go_wp2_with fail
        refine HD.out.mono ?_
        rintro e w8 ⟨a8,c8,rfl,q1,q2,q3⟩
        obtain ⟨u5,z5,l5⟩:=HY.out.own5 q2 (fun g hg=>by rw [HO5.out];exact hg)
        rw [HO5.out] at u5
        have HZ:Hid (PP (w8.setCell ⟨Gp,5,none⟩ (.slice a8 r.length c8)) B D Gp { V.b with vo:=(.slice a8 r.length c8) } { V.P with fs:=delR V.P.fs x,order:=r } V.L V.S):=
          HY.out.order (l:=r) q2 (fun g hg=>by rw [HO5.out];exact hg) q1 (fun g hg=>by left;rw [HO5.out,← q3];exact hg)
        have HBZ:Hid (BelP V.b.M ({ V.b with vo:=(.slice a8 r.length c8) }:Bk).M B w.drew (w8.setCell ⟨Gp,5,none⟩ (.slice a8 r.length c8))):=HBY.out.trans (HY.out.order_bel q2 (fun g hg=>by rw [HO5.out];exact hg) (Nat.le_trans HLO5.out HBY.out.size) (fun g hg=>by left;rw [HO5.out,← q3];exact hg))
        have HPI:Hid (PI { V.P with fs:=delR V.P.fs x,order:=r } V.L V.S C K V.N pk m):=HPI5.out.gone HR5.out HF5.out HC5.out
        clear q1 q2 q3 HD
        go_wp2
        go_ret
        refine ⟨⟨{ V.b with vo:=(.slice a8 r.length c8) },{ V.P with fs:=delR V.P.fs x,order:=r },V.L,V.S,V.N⟩,⟨HZ.out,HPI.out,Nat.le_trans HLO5.out HBZ.out.size⟩,HS5.out.trans ⟨HBZ.out,id⟩,rfl,rfl,rfl,fun y fy hy=>?_,.inl ⟨rfl,?_⟩⟩
        · have hy:delR V.P.fs x y=some fy:=hy
          by_cases e:y=x
          · rw [e,delR_at] at hy;cases hy
          · rw [delR_ne _ e] at hy;exact hy
        · have h1:=HPI5.out.most.1
          rw [HR5.out] at h1
          show r.length<V.P.most
          simp at h1
          omega
    | true =>
      rw [hd] at f2
      have HFF:Hid (V.P.fs x=some f):=hf
      have HDD:Hid (f.dirty=true):=hd
      have HTL:=hide (ctoLog HW.out hm x f hf hd)
      clear hf hd
      rw [hlen] at HVO HIX c5 e5 hl'
      go_enter Tryz.func130,Tryz.ntmps130
      go_wp2_with fail
      go_region
      all_goals
        go_wp2_with fail
        refine HIX.out.mono ?_
        rintro e w1 ⟨rfl,hw⟩;rw [hw];clear hw
        go_wp2_with fail
        refine HTL.out.mono ?_
        rintro e w5 ⟨V4,k1,k2,-,k3,(⟨rfl,k4⟩ | ⟨rfl,k5,k4⟩)⟩
        · have HP4:Hid (PO w5 B D Gp V4 C K pk m):=k1
          have HS4:Hid (St2 w w5 B V V4):=HSW.out.trans k2
          obtain ⟨p0,p1,p2,p3,p4,p5,p6,p7,p8,p9⟩:=k1.pp.cells
          have z9:=k1.pp.unfrozen 9
          have hv4:V4.b.vo=.slice (some ⟨g,0,none⟩) (r.length+1) oc:=by rw [k3];exact HVO.out
          rw [hv4] at p5
          obtain ⟨PX,hPX⟩:∃ PX:PS,PX={ V4.P with spills:=wrap64 (V4.P.spills+1) }:=⟨_,rfl⟩
          have hfp:(PX.fs=V4.P.fs∧PX.order=V4.P.order)∧(PX.pages=V4.P.pages∧PX.free=V4.P.free∧PX.most=V4.P.most):=by rw [hPX];exact ⟨⟨rfl,rfl⟩,rfl,rfl,rfl⟩
          have HPP5:Hid (PP (w5.setCell ⟨Gp,9,none⟩ (.int .i64 (wrap64 (V4.P.spills+1)))) B D Gp V4.b PX V4.L V4.S):=by
            rw [hPX]
            exact hide (k1.pp.own rfl rfl rfl rfl)
          have HPI5:Hid (PI PX V4.L V4.S C K V4.N pk m):=by
            rw [hPX]
            exact hide (k1.pi.stat _ _ _ _)
          have HLO5:Hid (B≤(w5.setCell ⟨Gp,9,none⟩ (.int .i64 (wrap64 (V4.P.spills+1)))).heap.size):=Nat.le_trans k1.lo (set_grown w5 Gp 9 _).size
          have HS5:Hid (St2 w (w5.setCell ⟨Gp,9,none⟩ (.int .i64 (wrap64 (V4.P.spills+1)))) B V V4):=HS4.out.trans (⟨k1.pp.own_bel 9 _ k1.lo,id⟩:St2 w5 _ B V4 V4)
          have HO5:Hid (V4.b.vo=.slice (some ⟨g,0,none⟩) (r.length+1) oc):=hv4
          have HR5:Hid (PX.order=x :: r):=by rw [hfp.1.2,k4];exact HXR
          have HF5:Hid (PX.fs x=some { f with dirty:=false }):=by rw [hfp.1.1,k4];exact hide (updR_at _ _ _)
          have HK5:Hid (PX.pages=V.P.pages∧PX.free=V.P.free∧PX.most=V.P.most∧∀ n f',¬ n=x→PX.fs n=some f'→V.P.fs n=some f'):=by
            rw [hfp.1.1,hfp.2.1,hfp.2.2.1,hfp.2.2.2,k4]
            refine hide ⟨rfl,rfl,rfl,fun n f' hne hn=>?_⟩
            have hn:updR V.P.fs x _ n=some f':=hn
            rw [updR_ne _ _ hne] at hn
            exact hn
          clear k1 k2 k3 k4 hPX hfp HTL p0 p1 p2 p3 p6 p7 p8 e4 e5 f2 hlk hcx c1 c5 hv4
          obtain ⟨c0,c1,c2,c3,c4,c5,c6,c7,c8,c9⟩:=HPP5.out.cells
          rw [HO5.out] at c5
          obtain ⟨Y,hrun,hM,hgY⟩:=HPP5.out.fmap.drop HX64.out 0 (x:=x)
          have HY:Hid (PP Y B D Gp V4.b { PX with fs:=delR PX.fs x } V4.L V4.S):=HPP5.out.drop hgY hM
          have HBY:Hid (BelP V4.b.M V4.b.M B (w5.setCell ⟨Gp,9,none⟩ (.int .i64 (wrap64 (V4.P.spills+1)))) Y):=HPP5.out.fmaps_bel hgY HLO5.out
          obtain ⟨d0,d1,d2,d3,d4,d5,d6,d7,d8,d9⟩:=HY.out.cells
          rw [HO5.out] at d5
          have HD:=hide (cdelete 0 HY.out (by show 0<PX.order.length;rw [HR5.out];simp) (by have:=HPI5.out.most;show PX.order.length≤64;omega))
          simp only [HR5.out,HO5.out,List.eraseIdx_cons_zero,List.length_cons,Nat.add_sub_cancel,Int.natCast_zero,Int.zero_add] at HD
          clear hM hgY c0 c1 c2 c3 c5 c6 c7 c8 c9 d0 d1 d2 d3 d4 d6 d7 d8 d9
          go_wp2_with fail
          refine HD.out.mono ?_
          rintro e w8 ⟨a8,c8,rfl,q1,q2,q3⟩
          obtain ⟨u5,z5,l5⟩:=HY.out.own5 q2 (fun g hg=>by rw [HO5.out];exact hg)
          rw [HO5.out] at u5
          have HZ:Hid (PP (w8.setCell ⟨Gp,5,none⟩ (.slice a8 r.length c8)) B D Gp { V4.b with vo:=(.slice a8 r.length c8) } { PX with fs:=delR PX.fs x,order:=r } V4.L V4.S):=
            HY.out.order (l:=r) q2 (fun g hg=>by rw [HO5.out];exact hg) q1 (fun g hg=>by left;rw [HO5.out,← q3];exact hg)
          have HBZ:Hid (BelP V4.b.M ({ V4.b with vo:=(.slice a8 r.length c8) }:Bk).M B (w5.setCell ⟨Gp,9,none⟩ (.int .i64 (wrap64 (V4.P.spills+1)))) (w8.setCell ⟨Gp,5,none⟩ (.slice a8 r.length c8))):=HBY.out.trans (HY.out.order_bel q2 (fun g hg=>by rw [HO5.out];exact hg) (Nat.le_trans HLO5.out HBY.out.size) (fun g hg=>by left;rw [HO5.out,← q3];exact hg))
          have HPI:Hid (PI { PX with fs:=delR PX.fs x,order:=r } V4.L V4.S C K V4.N pk m):=HPI5.out.gone HR5.out HF5.out rfl
          clear q1 q2 q3 HD
          go_wp2
          go_ret
          refine ⟨⟨{ V4.b with vo:=(.slice a8 r.length c8) },{ PX with fs:=delR PX.fs x,order:=r },V4.L,V4.S,V4.N⟩,⟨HZ.out,HPI.out,Nat.le_trans HLO5.out HBZ.out.size⟩,HS5.out.trans ⟨HBZ.out,id⟩,HK5.out.1,HK5.out.2.1,HK5.out.2.2.1,fun y fy hy=>?_,.inl ⟨rfl,?_⟩⟩
          · have hy:delR PX.fs x y=some fy:=hy
            by_cases e:y=x
            · rw [e,delR_at] at hy;cases hy
            · rw [delR_ne _ e] at hy;exact HK5.out.2.2.2 y fy e hy
          · have h1:=HPI5.out.most.1
            rw [HR5.out] at h1
            show r.length<PX.most
            simp at h1
            omega
        · have HP4:Hid (PO w5 B D Gp V4 C K pk m):=k1
          have HS4:Hid (St2 w w5 B V V4):=HSW.out.trans k2
          have HK4:Hid (V4.S.down=true∧V4.P=V.P):=(⟨k5,k4⟩:V4.S.down=true∧V4.P=V.P)
          clear k1 k2 k3 k4 k5 HTL
          go_wp2
          go_ret
          exact ⟨V4,HP4.out,HS4.out,by rw [HK4.out.2],by rw [HK4.out.2],by rw [HK4.out.2],fun n f' hn=>by rw [HK4.out.2] at hn;exact hn,.inr ⟨rfl,HK4.out.1⟩⟩
end Go.Proofs.YtmgjdjjfeapcdaaGreat
