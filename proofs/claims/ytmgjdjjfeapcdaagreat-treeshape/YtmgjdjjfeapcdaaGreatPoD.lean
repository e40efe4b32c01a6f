/- package pool: what a call leaves; hold, change, toLog -/
import Derived.Test.YtmgjdjjfeapcdaaGreatMgAG
namespace Go.Proofs.YtmgjdjjfeapcdaaGreat
open Go.RowKit Go.Lib Go.Maps
attribute [local go_sem ↓] Go.wp_at_zero Go.wp_at_succ
theorem hide {p:Prop} (h:p):Hid p:=h
structure PV where
  b:Bk
  P:PS
  L:LS
  S:DS
  N:Pgs
structure PO (w:World) (B D Gp:Nat) (V:PV) (C K:Pgs) (pk m:Nat):Prop where
  pp:PP w B D Gp V.b V.P V.L V.S
  pi:PI V.P V.L V.S C K V.N pk m
  lo:B≤w.heap.size
structure St2 (w w':World) (B:Nat) (V V':PV):Prop where
  bel:BelP V.b.M V'.b.M B w w'
  nf:NoF V.S→NoF V'.S
theorem St2.refl (w:World) (B:Nat) (V:PV):St2 w w B V V:=⟨BelP.refl _ _ _,id⟩
theorem St2.trans {w w' w'':World} {B:Nat} {V V' V'':PV} (h:St2 w w' B V V') (k:St2 w' w'' B V' V''):St2 w w'' B V V'':=⟨h.bel.trans k.bel,fun n=>k.nf (h.nf n)⟩
theorem owns_sliceI {w:World} {base n:Nat} {v:Value} {xs:List Value} (h:w.ownsRow base 3 1 v n xs):∃ a cap,v=.slice a n cap:=by
  rcases h.2 with ⟨e,h0⟩ | ⟨g,cap,cur,e,_⟩
  · exact ⟨none,0,by rw [e,h0]⟩
  · exact ⟨_,cap,e⟩
theorem PP.vo {X:World} {B D Gp:Nat} {b:Bk} {P:PS} {L:LS} {S:DS} (h:PP X B D Gp b P L S):∃ a cap,b.vo=.slice a P.order.length cap:=owns_sliceI h.ord
theorem newsI (w:World) (n:Int):∀ j u,([Value.int .i64 n]:List Value)[j]?=some u→(w.alloc (.cells #[.int .i64 n] 3)).cell? ((⟨w.heap.size,0,none⟩:Addr).add j)=some u:=by
  intro j u hj
  rw [add_none]
  match j,hj with
  | 0,h=>cases h;go_simp
  | j+1,h=>simp at h
theorem grown_alloc {X Y:World} {r:Option Nat} (h:X.grownBy Y r) (o:Obj):X.grownBy (Y.alloc o) r:=But.trans h (World.grownBy_alloc Y o r)
section
variable {X:World} {B D Gp:Nat} {b:Bk} {P:PS} {L:LS} {S:DS}
set_option maxRecDepth 20000 in
theorem PP.more {n:Int} {s:ByteArray} (h:PP X B D Gp b P L S) (hB:B≤X.heap.size) (hn:i64 n) (hl:P.order.length≤63) (hk:∀ x,(P.fs x).isSome=true→x ∈ P.order) (hf:P.fs n=none) :
    ∃ Y,(Instr.mapUpdate 85 (.map (some b.bF)) (.int .i64 n) (.pointer (some ⟨X.heap.size,0,none⟩))).run Tryz.prog (X.alloc (.cells #[.string s,.int .i64 0,.bool false] 103))=.ok () Y∧PP Y B D Gp b { P with fs:=updR P.fs n ⟨X.heap.size,s,false⟩ } L S∧BelP b.M b.M B X Y:=by
  have hb:Below X.heap.size X (X.alloc (.cells #[.string s,.int .i64 0,.bool false] 103)):=(Below.refl _ _).alloc (Nat.le_refl _) _
  have h1:=h.below hb
  have hm:=h1.fmap.small P.order (fun x hx=>hk x (by cases hq:P.fs x with | none=>rw [hq] at hx;cases hx | some f=>rfl))
  obtain ⟨Y,hrun,hM,hg⟩:=hm.put (by omega) (x:=n) (v:=X.heap.size) hn
  have hnew:(X.alloc (.cells #[.string s,.int .i64 0,.bool false] 103)).heap[X.heap.size]?=some (.cells (frC ⟨X.heap.size,s,false⟩) 103 (0,0)):=heap_alloc_new X _
  refine ⟨Y,hrun,h1.fmaps hg (k:=P.order.length+1) (hM.congr fun x _=>?_) (by omega) (fun m f hf'=>?_) (fun m m' f f' hm1 hm2 he=>?_),(below_belP hb hB _).trans (h1.fmaps_bel hg (Nat.le_trans hB hb.size))⟩
  · unfold updP updR
    by_cases e:x=n
    · rw [if_pos e,if_pos e];rfl
    · rw [if_neg e,if_neg e]
  · by_cases e:m=n
    · subst e;rw [updR_at] at hf';injection hf' with hf';subst hf';exact ⟨hnew,hB⟩
    · rw [updR_ne _ _ e] at hf';exact h1.frs m f hf'
  · by_cases e:m=n
    · by_cases e':m'=n
      · rw [e,e']
      · subst e;rw [updR_at] at hm1;injection hm1 with hm1;subst hm1
        rw [updR_ne _ _ e'] at hm2
        have:=(h.fcells hm2).2.2.2.2.2
        have he:X.heap.size=f'.blk:=he
        omega
    · by_cases e':m'=n
      · subst e';rw [updR_at] at hm2;injection hm2 with hm2;subst hm2
        rw [updR_ne _ _ e] at hm1
        have:=(h.fcells hm1).2.2.2.2.2
        have he:f.blk=X.heap.size:=he
        omega
      · rw [updR_ne _ _ e] at hm1;rw [updR_ne _ _ e'] at hm2;exact h1.inj m m' f f' hm1 hm2 he
/- the pool's own block behind a change of the order's row -/
theorem PP.own5 {Y:World} {r:Option Nat} (h:PP X B D Gp b P L S) (hg:X.grownBy Y r) (hr:∀ g,r=some g→b.vo.ownBlock=some g):Y.cell? ⟨Gp,5,none⟩=some b.vo∧Y.frozen? ⟨Gp,5,none⟩=false∧Gp<Y.heap.size:=by
  have hb:Y.heap[Gp]?=some (.cells (poolC b P) 90 (0,0)):=by
    refine (hg.block Gp h.lt (fun e=>?_)).trans h.blk
    have:=hr _ e.symm
    exact ne_CC (h.kinds.2.2.2.2.2.2.2 _ this) h.kinds.1 (by decide) rfl
  exact ⟨by simp [World.cell?,hb,poolC],by simp [World.frozen?,hb],(Array.getElem?_eq_some_iff.1 hb).1⟩
theorem PP.reord {Y:World} {l:List Int} {v:Value} (h:PP X B D Gp b P L S) (hB:B≤X.heap.size) (hg:X.grownBy Y b.vo.ownBlock) (ho:Y.ownsRow B 3 1 v l.length (l.map (Value.int .i64))) (hown:v.ownBlock=b.vo.ownBlock∨∃ k,v.ownBlock=some k∧X.heap.size≤k) :
    PP (Y.setCell ⟨Gp,5,none⟩ v) B D Gp { b with vo:=v } { P with order:=l } L S∧BelP b.M ({ b with vo:=v }:Bk).M B X (Y.setCell ⟨Gp,5,none⟩ v)∧Y.cell? ⟨Gp,5,none⟩=some b.vo∧Y.frozen? ⟨Gp,5,none⟩=false∧Gp<Y.heap.size:=
  have hn:∀ g,v.ownBlock=some g→b.vo.ownBlock=some g∨X.heap.size≤g:=fun g hg'=>by
      rcases hown with e | ⟨k,e,hk⟩
      · left;rw [← e];exact hg'
      · right;rw [e] at hg';injection hg' with hg';omega
  ⟨h.order hg (fun _ hg=>hg) ho hn,h.order_bel hg (fun _ hg=>hg) hB hn,h.own5 hg (fun _ hg=>hg)⟩
set_option maxRecDepth 20000 in
set_option maxHeartbeats 2000000 in
theorem chold (n:Int) (s:ByteArray) (h:PP X B D Gp b P L S) (hB:B≤X.heap.size) (hn:i64 n) (hl:P.order.length≤63) (hk:∀ x,(P.fs x).isSome=true→x ∈ P.order) (hf:P.fs n=none) :
    Calls Tryz.prog 131 #[(.pointer (some ⟨Gp,0,none⟩)),.int .i64 n,.string s] X fun e w'=>∃ v,e=.returned (.pointer (some ⟨X.heap.size,0,none⟩))∧PP w' B D Gp { b with vo:=v } { P with fs:=updR P.fs n ⟨X.heap.size,s,false⟩,order:=P.order ++ [n] } L S∧BelP b.M ({ b with vo:=v }:Bk).M B X w':=by
  obtain ⟨Y,hrun,hY,hbY⟩:=h.more (s:=s) hB hn hl hk hf
  obtain ⟨c0,c1,c2,c3,c4,c5,c6,c7,c8,c9⟩:=(h.below ((Below.refl _ _).alloc (Nat.le_refl _) (.cells #[.string s,.int .i64 0,.bool false] 103))).cells
  obtain ⟨d0,d1,d2,d3,d4,d5,d6,d7,d8,d9⟩:=hY.cells
  obtain ⟨oa,oc,hvo⟩:=h.vo
  rw [hvo] at d5
  have HY:Hid (PP Y B D Gp b { P with fs:=updR P.fs n ⟨X.heap.size,s,false⟩ } L S):=hY
  have HBY:Hid (BelP b.M b.M B X Y):=hbY
  have HB0:Hid (B≤X.heap.size):=hB
  have HV:Hid (b.vo=.slice oa P.order.length oc):=hvo
  have hi0:(Tryz.prog.info? 3).map (fun i=>(i.zero,i.size,i.bytes))=some (some (.int .i64 0),1,8):=by kernel_rfl
  obtain ⟨i0,hi,hz⟩:=Option.map_eq_some_iff.1 hi0
  simp only [Prod.mk.injEq] at hz
  obtain ⟨hz0,hz1,hz2⟩:=hz
  have HL:Hid (P.order.length≤63):=hl
  clear h hY hbY hB c0 c1 c2 c3 c5 c6 c7 c8 c9 d0 d1 d2 d3 d6 d7 d8 d9 hk hf hvo hl
  go_enter Tryz.func131,Tryz.ntmps131
  go_wp2_with (first
    | (at_builtin;refine wpList_append_own_at _ rfl _ _ 42 rfl B 3 i0 (.int .i64 0) 1 8 Tryz.underlying42 hi hz0 hz1 hz2 rfl (by decide) (.slice oa P.order.length oc) P.order.length (P.order.map (Value.int .i64)) rfl (by rw [← HV.out];exact World.ownsRow.alloc HY.out.ord _) ⟨Y.heap.size,0,none⟩ 1 1 [.int .i64 n] rfl rfl (newsI _ _) (fun x hx=>by simp at hx;subst hx;rfl) (by have:=HL.out;unfold maxLen;omega) (by have:=HL.out;omega) (by simp;exact Nat.le_trans HB0.out (Nat.le_trans HBY.out.size (by omega))) ?_;intro v1 w2 ho1 hg1 hnil1 hown1;obtain ⟨a1,cap1,rfl⟩:=owns_sliceI ho1;have HH:=HY.out.reord (l:=P.order ++ [n]) (Nat.le_trans HB0.out HBY.out.size) (by rw [HV.out];exact But.trans (World.grownBy_alloc Y _ _) hg1) (by rw [List.length_append,List.map_append];exact ho1) (by rw [HV.out];exact hown1.imp id (fun e=>⟨_,e,by simp⟩));have HZ:Hid (PP (w2.setCell ⟨Gp,5,none⟩ (.slice a1 (P.order.length+1) cap1)) B D Gp { b with vo:=(.slice a1 (P.order.length+1) cap1) } { P with fs:=updR P.fs n ⟨X.heap.size,s,false⟩,order:=P.order ++ [n] } L S):=HH.1;have HBZ:Hid (BelP b.M ({ b with vo:=(.slice a1 (P.order.length+1) cap1) }:Bk).M B X (w2.setCell ⟨Gp,5,none⟩ (.slice a1 (P.order.length+1) cap1))):=HBY.out.trans HH.2.1;have e5:=HH.2.2.1;rw [HV.out] at e5;have f5:=HH.2.2.2.1;have l5:=HH.2.2.2.2;clear HH ho1 hg1 hnil1 hown1)
    | go_in)
  go_ret
  exact ⟨_,rfl,HZ.out,HBZ.out⟩
theorem PP.changed {n:Int} {f:FrP} {s:ByteArray} (h:PP X B D Gp b P L S) (hf:P.fs n=some f) (hB:B≤X.heap.size) (hn:i64 n) (hc:∀ x,P.chg x=true→0≤x∧x<59999) :
    PP ((X.setCell ⟨f.blk,0,none⟩ (.string s)).setCell ⟨f.blk,2,none⟩ (.bool true)) B D Gp b { P with fs:=updR P.fs n ⟨f.blk,s,true⟩ } L S∧BelP b.M b.M B X ((X.setCell ⟨f.blk,0,none⟩ (.string s)).setCell ⟨f.blk,2,none⟩ (.bool true)) ∧
    ∃ Y,(Instr.mapUpdate 86 (.map (some b.bC)) (.int .i64 n) (.agg #[])).run Tryz.prog ((X.setCell ⟨f.blk,0,none⟩ (.string s)).setCell ⟨f.blk,2,none⟩ (.bool true))=.ok () Y∧PP Y B D Gp b (chP P n f.blk s) L S∧BelP b.M b.M B X Y:=by
  have hg:X.grownBy ((X.setCell ⟨f.blk,0,none⟩ (.string s)).setCell ⟨f.blk,2,none⟩ (.bool true)) (some f.blk):=((But.refl X (some f.blk)).set 0 (.string s)).set 2 (.bool true)
  have h1:=h.frame (f':=⟨f.blk,s,true⟩) hf rfl hg (by rw [set_blk (set_blk (h.frs n f hf).1)];rfl)
  have b1:=h.frame_bel hf hg hB
  obtain ⟨Y,hrun,hM,hgY⟩:=(h1.chm.small 59999 hc).put (by omega) (x:=n) hn
  exact ⟨h1,b1,Y,hrun,h1.chms hgY hM (by omega),b1.trans (h1.chms_bel hgY (Nat.le_trans hB hg.size))⟩
set_option maxRecDepth 20000 in
set_option maxHeartbeats 2000000 in
theorem cchange (n:Int) (f:FrP) (s:ByteArray) (h:PP X B D Gp b P L S) (hf:P.fs n=some f) (hB:B≤X.heap.size) (hn:i64 n) (hc:∀ x,P.chg x=true→0≤x∧x<59999) :
    Calls Tryz.prog 167 #[(.pointer (some ⟨Gp,0,none⟩)),.int .i64 n,(.pointer (some ⟨f.blk,0,none⟩)),.string s] X fun e w'=>e=.returned (.tuple #[])∧PP w' B D Gp b (chP P n f.blk s) L S∧BelP b.M b.M B X w':=by
  obtain ⟨h1,b1,Y,hrun,hY,hbY⟩:=h.changed (s:=s) hf hB hn hc
  obtain ⟨f0,f1,f2,z0,z2,hlt⟩:=h.fcells hf
  obtain ⟨d0,d1,d2,d3,d4,d5,d6,d7,d8,d9⟩:=h1.cells
  have HY:Hid (PP Y B D Gp b (chP P n f.blk s) L S):=hY
  have HBY:Hid (BelP b.M b.M B X Y):=hbY
  generalize f.blk=g at *
  clear h h1 b1 hY hbY hB d0 d1 d2 d3 d4 d5 d7 d8 d9 hc f1
  go_enter Tryz.func167,Tryz.ntmps167
  go_wp2
  go_end0
  exact ⟨rfl,HY.out,HBY.out⟩
end
set_option maxRecDepth 20000 in
set_option maxHeartbeats 2000000 in
theorem ctoLog {w:World} {B D Gp:Nat} {V:PV} {C K:Pgs} {pk m:Nat} (h:PO w B D Gp V C K pk m) (hm:m≤50000) (n:Int) (f:FrP) (hf:V.P.fs n=some f) (hd:f.dirty=true) :
    Calls Tryz.prog 77 #[(.pointer (some ⟨Gp,0,none⟩)),.int .i64 n] w fun e w'=>∃ V',PO w' B D Gp V' C K pk m∧St2 w w' B V V'∧IntS w w'∧V'.b=V.b∧((e=.returned (.int .i64 0)∧V'.P={ V.P with fs:=updR V.P.fs n { f with dirty:=false } })∨(e=.returned (.int .i64 2)∧V'.S.down=true∧V'.P=V.P)):=by
  obtain ⟨⟨G,bp,bf,bF,bC,vo⟩,P,L,S,N⟩:=V
  obtain ⟨pp,pi,lo⟩:=h
  dsimp only at pp pi hf
  obtain ⟨g1,g2,g3,g4,g5⟩:=pi.held hf
  have hpg:=pi.pg
  obtain ⟨n,rfl⟩:∃ k:Nat,n=k:=⟨n.toNat,by omega⟩
  have hn:i64 (n:Int):=i64_in (by omega) (by omega)
  have hl:=pp.fmap.look1 hn
  simp only [hf,Option.map_some,ptrO] at hl
  obtain ⟨c0,c1,c2,c3,c4,c5,c6,c7,c8,c9⟩:=pp.cells
  obtain ⟨f0,f1,f2,z0,z2,hlt⟩:=pp.fcells hf
  obtain ⟨j,k,i1,i2,i3,i4⟩:=pi.inv
  have hfr:=i1.fr
  have HA:Hid (∀ W,Below w.heap.size w W→Calls Tryz.prog 78 #[(.pointer (some ⟨G,0,none⟩)),.int .i64 (n:Int),.string f.text] W fun e w'=>e=.returned (.int .i64 (apL L S n f.text).1)∧PL w' B D G bp bf (60000+1) (apL L S n f.text).2.1 (apL L S n f.text).2.2∧BelL G bp bf B W w'):=fun W hW=>cappend n f.text W B D G bp bf 60000 k L S (pp.log.below hW) (Nat.le_trans lo hW.size) (by decide) i3 (by omega) (by omega)
  have HP:Hid (PP w B D Gp ⟨G,bp,bf,bF,bC,vo⟩ P L S):=pp
  have HI:Hid (PI P L S C K N pk m):=pi
  have HLO:Hid (B≤w.heap.size):=lo
  have hok:=apL_ok (L:=L) i3 n f.text
  have hnf:NoF S→NoF (apL L S n f.text).2.2:=fun h=>apL_nf h _ _
  rcases ap_out i1 (by omega) (by omega:n<60000) g5 with e1 | ⟨u1,S1,e1,v1,I1⟩
  · rw [e1] at HA hok hnf
    have HNF:Hid (NoF S→NoF { S with down:=true }):=hnf
    clear pp pi hok hnf e1 i1 i2 i3 i4 c1 c2 c3 c5 c6 c7 c8 c9 f1 f2 z0 z2 hfr
    go_enter Tryz.func77,Tryz.ntmps77
    go_wp2_with fail
    go_region_with (go_at_call 78;refine (HA.out _ ((Below.refl _ _).drew)).mono ?_;rintro e w5 ⟨rfl,hp5,hb5⟩)
    all_goals
      have HF5:Hid (BelL G bp bf B w w5):=(below_log ((Below.refl _ _).drew) HLO.out G bp bf).trans hb5
      have HP5:Hid (PP w5 B D Gp ⟨G,bp,bf,bF,bC,vo⟩ P L { S with down:=true }):=HP.out.logs HF5.out (by
        obtain ⟨j,k,i1,-⟩:=HI.out.inv
        exact hp5.small i1.pos i1.posF)
      clear hp5 hb5
      go_wp2
      go_ret
      exact ⟨⟨⟨G,bp,bf,bF,bC,vo⟩,P,L,{ S with down:=true },N⟩,⟨HP5.out,HI.out.down,Nat.le_trans HLO.out HF5.out.size⟩,⟨HP.out.belL HF5.out,HNF.out⟩,fun g cs hg=>HP.out.logs_stay HF5.out hg (by decide) (by decide),rfl,.inr ⟨rfl,rfl,rfl⟩⟩
  · rw [e1] at HA hok hnf
    have HNF:Hid (NoF S→NoF S1):=hnf
    have HI1:Hid (PI { P with fs:=updR P.fs n { f with dirty:=false } } { L with fh:=updM L.fh n L.fr,fr:=L.fr+1 } S1 C K (wth N n f.text) pk m):=by
      refine pi.logged hf hd rfl (fun j' hj hjm=>?_) (fun k' hk'=>?_)
      · rcases ap_out hj (by omega) (by omega:n<60000) g5 with e2 | ⟨u2,S2,e2,v2,I2⟩
        · rw [e1] at e2;cases e2
        · rw [e1] at e2
          injection e2 with _ e2
          injection e2 with _ e2
          subst e2
          exact I2
      · have:=apL_ok (L:=L) hk' n f.text
        rw [e1] at this
        exact this
    have HSM:Hid ((∀ x,((updM L.fh n L.fr) x).isSome=true→0≤x∧x<60000)∧∀ x,(L.pl x).isSome=true→0≤x∧x<60000):=(⟨I1.posF,I1.pos⟩:(∀ x,((updM L.fh n L.fr) x).isSome=true→0≤x∧x<((60000:Nat):Int))∧∀ x,(L.pl x).isSome=true→0≤x∧x<((60000:Nat):Int))
    clear pp pi hok hnf e1 i1 i2 i3 i4 c1 c2 c3 c5 c6 c7 c8 c9 f1 f2 z0 z2 hfr I1
    go_enter Tryz.func77,Tryz.ntmps77
    go_wp2_with fail
    go_region_with (go_at_call 78;refine (HA.out _ ((Below.refl _ _).drew)).mono ?_;rintro e w5 ⟨rfl,hp5,hb5⟩)
    all_goals
      have HF5:Hid (BelL G bp bf B w w5):=(below_log ((Below.refl _ _).drew) HLO.out G bp bf).trans hb5
      have HP5:Hid (PP w5 B D Gp ⟨G,bp,bf,bF,bC,vo⟩ P { L with fh:=updM L.fh n L.fr,fr:=L.fr+1 } S1):=HP.out.logs HF5.out (hp5.small HSM.out.2 HSM.out.1)
      have hg:w5.grownBy (w5.setCell ⟨f.blk,2,none⟩ (.bool false)) (some f.blk):=set_grown _ _ _ _
      have HP6:Hid (PP (w5.setCell ⟨f.blk,2,none⟩ (.bool false)) B D Gp ⟨G,bp,bf,bF,bC,vo⟩ { P with fs:=updR P.fs n { f with dirty:=false } } { L with fh:=updM L.fh n L.fr,fr:=L.fr+1 } S1):=HP5.out.frame hf rfl hg (by rw [set_blk (HP5.out.frs n f hf).1];rfl)
      have HB6:Hid (BelP (Bk.M ⟨G,bp,bf,bF,bC,vo⟩) (Bk.M ⟨G,bp,bf,bF,bC,vo⟩) B w (w5.setCell ⟨f.blk,2,none⟩ (.bool false))):=(HP.out.belL HF5.out).trans (HP5.out.frame_bel hf hg (Nat.le_trans HLO.out HF5.out.size))
      obtain ⟨q0,q1,q2,y0,y2,hlt5⟩:=HP5.out.fcells hf
      clear hp5 hb5 hg q0 q1 y0
      go_wp2
      go_ret
      exact ⟨⟨⟨G,bp,bf,bF,bC,vo⟩,{ P with fs:=updR P.fs n { f with dirty:=false } },{ L with fh:=updM L.fh n L.fr,fr:=L.fr+1 },S1,wth N n f.text⟩,⟨HP6.out,HI1.out,Nat.le_trans HLO.out HB6.out.size⟩,⟨HB6.out,HNF.out⟩,fun g cs hg=>by
        have e5:=HP.out.logs_stay HF5.out hg (by decide) (by decide)
        refine ((set_grown w5 f.blk 2 (.bool false)).block g (Array.getElem?_eq_some_iff.1 (e5.trans hg)).1 (fun e=>?_)).trans e5
        injection e with e
        exact ne_CC ⟨_,(HP5.out.frs n f hf).1⟩ ⟨_,e5.trans hg⟩ (by decide) e,rfl,.inl ⟨rfl,rfl⟩⟩
end Go.Proofs.YtmgjdjjfeapcdaaGreat
