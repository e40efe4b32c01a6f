/- a part -/
import Derived.Test.YtiaibgfhigdgdaaGreatS1
import Derived.BigRegion
set_option maxRecDepth 100000
set_option maxHeartbeats 8000000
namespace Go.Proofs.YtiaibgfhigdgdaaGreat
open Go.RowKit Go.Lib
variable {b B G bp bf D n m k r cnt:Nat}{t:TypeId}{X Y Z w:World}{S:DS}{F:Int→Option Int}{left:Lit→Bool}
attribute [local go_sem ↓] Go.wp_at_zero Go.wp_at_succ
def markB:ByteArray:=⟨#[114,101,108,115,116,111,114,101,32,108,111,103,32,48,48,49]⟩
def isMark (s:ByteArray):Bool:=decide (16≤s.size∧s.extract 0 16=markB)
theorem cprefix0 (s:ByteArray)(w:World):Calls Tryz.prog 165 #[.string s,.string (⟨#[114,101,108,115,116,111,114,101,32,108,111,103,32,48,48,49]⟩:ByteArray)] w fun e w'=>e=.returned (.bool (isMark s))∧Below w.heap.size w w':=by
 by_cases h1:16≤s.size
 ·have hsl:∀X,(Instr.slice 9 (.string s) none (some (.int .i64 16)) none).run Tryz.prog X=.ok (.string (s.extract 0 16)) X:=fun X=>by
   have:=run_slice_string_h X 9 s Tryz.underlying9 .i64 16 (by decide) (by omega);exact this
  have i1:(16:Int)≤(s.size:Int):=by omega
  by_cases h2:s.extract 0 16=markB
  ·have HT:Hid (isMark s=true):=decide_eq_true ⟨h1,h2⟩;have h2':s.extract 0 16=(⟨#[114,101,108,115,116,111,114,101,32,108,111,103,32,48,48,49]⟩:ByteArray):=h2;clear h1 h2;go_enter Tryz.func165,Tryz.ntmps165;go_wp2;go_ret;exact⟨by rw[HT.out];rfl,by first | exact Below.refl _ _ | exact below_dw (Below.refl _ _)⟩
  ·have HT:Hid (isMark s=false):=decide_eq_false (fun h=>h2 h.2);have n2:=ne_lists h2;have n3:¬(s.extract 0 16).toList=[114,101,108,115,116,111,114,101,32,108,111,103,32,48,48,49]:=fun h=>n2 (h.trans (by decide +kernel))
   have m3:((s.extract 0 16).toList == [114,101,108,115,116,111,114,101,32,108,111,103,32,48,48,49])=false:=by simpa using n3
   clear h1 h2 n2;go_enter Tryz.func165,Tryz.ntmps165;go_wp2;go_ret;exact⟨by rw[HT.out];rfl,by first | exact Below.refl _ _ | exact below_dw (Below.refl _ _)⟩
 ·have HT:Hid (isMark s=false):=decide_eq_false (fun h=>h1 h.1);have i1:(s.size:Int)<16:=by omega
  clear h1;go_enter Tryz.func165,Tryz.ntmps165;go_wp2;go_ret;exact⟨by rw[HT.out];rfl,by first | exact Below.refl _ _ | exact below_dw (Below.refl _ _)⟩
theorem cprefix (s:ByteArray)(w:World):Calls Tryz.prog 106 #[.string s,.string (⟨#[114,101,108,115,116,111,114,101,32,108,111,103,32,48,48,49]⟩:ByteArray)] w fun e w'=>e=.returned (.bool (isMark s))∧Below w.heap.size w w':=by
 go_enter Tryz.func106,Tryz.ntmps106;go_wp2_with fail
 refine(cprefix0 s _).mono ?_;rintro e w2⟨rfl,hb⟩;go_wp2;go_ret;exact⟨rfl,hb⟩
theorem wcell4 {W:World}{v0 v1 v2 v3:Value}(h:W.heap[b]?=some (.cells #[v0,v1,v2,v3] t (0,0))):(W.cell? ⟨b,0,none⟩=some v0∧W.cell? ⟨b,1,none⟩=some v1∧W.cell? ⟨b,2,none⟩=some v2∧W.cell? ⟨b,3,none⟩=some v3)∧(W.frozen? ⟨b,0,none⟩=false∧W.frozen? ⟨b,1,none⟩=false∧W.frozen? ⟨b,2,none⟩=false∧W.frozen? ⟨b,3,none⟩=false)∧b<W.heap.size:=by
 refine⟨⟨?_,?_,?_,?_⟩,⟨?_,?_,?_,?_⟩,(Array.getElem?_eq_some_iff.1 h).1⟩<;>simp[World.cell?,World.frozen?,h]
def headB (log:List UInt8):ByteArray:=⟨(log.take 64).toArray⟩
def pickC (a b:Cm):Cm:=if a.number=0∨b.number=nxN a.number then b else a
def lastC (log:List UInt8):Cm:=if isMark (headB log) then pickC (toldA (headB log) 16 0 log.length) (toldA (headB log) 40 1 log.length) else cm0
structure okCm (c:Cm):Prop where
 slot:c.slot≤1
 number:c.number≤3
 frames:c.frames<4294967296
 pages:c.pages<4294967296
theorem okCm0:okCm cm0:=⟨by decide,by decide,by decide,by decide⟩
theorem told_ok (head:ByteArray)(p slot size:Nat)(hs:slot≤1):okCm (toldA head p slot size):=by
 unfold toldA;split
 ·exact okCm0
 ·split
  ·exact okCm0
  ·rename_i h
   split
   ·exact okCm0
   ·split
    ·exact okCm0
    ·exact⟨hs,by show numB head p≤3;omega,numB_lt _ _,numB_lt _ _⟩
theorem pick_ok {a b:Cm}(ha:okCm a)(hb:okCm b):okCm (pickC a b):=by
 unfold pickC;split
 ·exact hb
 ·exact ha
theorem last_ok (log:List UInt8):okCm (lastC log):=by
 unfold lastC;split
 ·exact pick_ok (told_ok _ _ _ _ (by decide)) (told_ok _ _ _ _ (by decide))
 ·exact okCm0
theorem headB_size (log:List UInt8):(headB log).size=min 64 log.length:=by
 show(log.take 64).toArray.size=_;simp
theorem readHead (S:DS)(hd:S.down=false)(n:Int)(hn:(n=((S.lb 2).length:Int)∧(S.lb 2).length≤64)∨(n=64∧64≤(S.lb 2).length)):rdE 1 0 n S.lb S.down=0∧rdS 1 0 n S.lb S.down=headB (S.lb 2):=by
 have h0:0≤n∧n≤64∧n≤((S.lb 2).length:Int):=by omega
 have ha:askE 1 0 n S.down=0:=by
  unfold askE fitsD;rw[hd,if_pos (by simp;omega)];rfl
 have he:rdE 1 0 n S.lb S.down=0:=by
  unfold rdE;rw[if_pos ha];exact if_neg (by show ¬((S.lb 2).length:Int)<0+n;omega)
 refine⟨he,?_⟩;unfold rdS;rw[if_pos he];show(⟨(((S.lb 2).drop 0).take n.toNat).toArray⟩:ByteArray)=⟨((S.lb 2).take 64).toArray⟩;rw[List.drop_zero]
 congr 2
 rcases hn with⟨rfl,h⟩|⟨rfl,h⟩
 ·rw[Int.toNat_natCast,List.take_of_length_le (Nat.le_refl _),List.take_of_length_le h]
 ·rfl
theorem clastCA (X:World)(B D:Nat)(S:DS)(h:PDs X B D S)(hd:S.down=false)(hz:(S.lb 2).length≤67108864)(hm:(S.lb 2).length≤64):Calls Tryz.prog 61 #[(.pointer (some ⟨D,0,none⟩))] X fun e w'=>e=.returned (.tuple #[cmV (lastC (S.lb 2)),.int .i64 0])∧Below X.heap.size X w':=by
 have ea:askE 1 0 0 S.down=0:=by rw[hd];rfl
 have es:sizV 1 S.lb S.down=((S.lb 2).length:Int):=by unfold sizV;rw[if_pos ea];rfl
 have EA:Hid _:=ea;have ES:Hid _:=es;have R:Hid _:=readHead S hd ((S.lb 2).length:Int) (by omega);have HP:Hid (PDs X B D S):=h;have hsz:=headB_size (S.lb 2);have hh:(headB (S.lb 2)).size≤1000000:=by omega
 have HH:Hid ((headB (S.lb 2)).size≤1000000):=hh;have i1:((S.lb 2).length:Int)≤64:=by omega
 have HL:Hid (lastC (S.lb 2)=if isMark (headB (S.lb 2)) then pickC (toldA (headB (S.lb 2)) 16 0 (S.lb 2).length) (toldA (headB (S.lb 2)) 40 1 (S.lb 2).length) else cm0):=rfl;clear ea es h hd hz hm hsz hh;cases hM:isMark (headB (S.lb 2)) with
 | false =>
  have HT:Hid (lastC (S.lb 2)=cm0):=HL.out.trans (by rw[hM];rfl);have HM:Hid _:=hM;clear HL hM;go_enter Tryz.func61,Tryz.ntmps61;go_wp2_with fail
  refine(csizeD 1 _ B D S (HP.out.below ((Below.refl _ _).alloc (Nat.le_refl _) _))).mono ?_;rintro e w1⟨rfl,rfl⟩;rw[EA.out,ES.out];go_wp2_with fail
  refine(creadD 1 0 ((S.lb 2).length:Int) _ B D S (HP.out.below ((Below.refl _ _).alloc (Nat.le_refl _) _))).mono ?_;rintro e w1⟨rfl,rfl⟩;rw[R.out.1,R.out.2];generalize (S.lb 2).length=z at *;generalize headB (S.lb 2)=hd at *;go_wp2_with fail
  refine(cprefix hd _).mono ?_;rintro e w1⟨rfl,hb1⟩;rw[HM.out];obtain⟨hc1,hf1⟩:=bcell hb1;have za1:X.heap.size<w1.heap.size:=(by have:=hb1.size;(try simp at this);omega);have HB1:Hid (Below X.heap.size X w1):=keepBelow ((Below.refl _ _).alloc (Nat.le_refl _) _) hb1;clear hb1;go_wp2_with fail
  refine bodyPost_ret (v:=.tuple #[(.agg #[.int .i64 (0),.int .i64 (0),.int .i64 (0),.int .i64 (0)]),.int .i64 0]) (by simp[results,Tryz.results61,go_sem, *]) rfl ⟨by rw[HT.out];rfl,?_⟩;exact((((HB1.out).setCell (by simp<;>omega) _).setCell (by simp<;>omega) _).setCell (by simp<;>omega) _).setCell (by simp<;>omega) _
 | true =>
  have HT:Hid (lastC (S.lb 2)=pickC (toldA (headB (S.lb 2)) 16 0 (S.lb 2).length) (toldA (headB (S.lb 2)) 40 1 (S.lb 2).length)):=HL.out.trans (by rw[hM];rfl);have HM:Hid _:=hM;have OA:Hid _:=told_ok (headB (S.lb 2)) 16 0 (S.lb 2).length (by decide);have OB:Hid _:=told_ok (headB (S.lb 2)) 40 1 (S.lb 2).length (by decide);clear HL hM;go_enter Tryz.func61,Tryz.ntmps61;go_wp2_with fail
  refine(csizeD 1 _ B D S (HP.out.below ((Below.refl _ _).alloc (Nat.le_refl _) _))).mono ?_;rintro e w1⟨rfl,rfl⟩;rw[EA.out,ES.out];go_wp2_with fail
  refine(creadD 1 0 ((S.lb 2).length:Int) _ B D S (HP.out.below ((Below.refl _ _).alloc (Nat.le_refl _) _))).mono ?_;rintro e w1⟨rfl,rfl⟩;rw[R.out.1,R.out.2];have TA:Hid (∀W,Calls Tryz.prog 107 #[.string (headB (S.lb 2)),.int .i64 0,.int .i64 (S.lb 2).length] W fun e w'=>e=.returned (cmV (toldA (headB (S.lb 2)) 16 0 (S.lb 2).length))∧Below W.heap.size W w'):=fun W=>ctold0 _ _ W HH.out
  have TB:Hid (∀W,Calls Tryz.prog 107 #[.string (headB (S.lb 2)),.int .i64 1,.int .i64 (S.lb 2).length] W fun e w'=>e=.returned (cmV (toldA (headB (S.lb 2)) 40 1 (S.lb 2).length))∧Below W.heap.size W w'):=fun W=>ctold1 _ _ W HH.out
  generalize toldA (headB (S.lb 2)) 16 0 (S.lb 2).length=ca at *;generalize toldA (headB (S.lb 2)) 40 1 (S.lb 2).length=cb at *;generalize (S.lb 2).length=z at *;generalize headB (S.lb 2)=hd at *;obtain⟨sa,na,fa,pa⟩:=ca;obtain⟨sb,nb,fb,pb⟩:=cb;go_wp2_with fail
  refine(cprefix hd _).mono ?_;rintro e w1⟨rfl,hb1⟩;rw[HM.out];have HO1:Hid (w1.heap[X.heap.size]?=some (.cells #[.int .i64 0,.int .i64 0,.int .i64 0,.int .i64 0] 122 (0,0))):=(hb1.block _ (by simp)).trans (heap_alloc_new X _);have HB1:Hid (Below X.heap.size X w1):=keepBelow ((Below.refl _ _).alloc (Nat.le_refl _) _) hb1;clear hb1;go_wp2_with fail
  refine(TA.out _).mono ?_;rintro e w2⟨rfl,hb2⟩;have HO2:Hid (w2.heap[X.heap.size]?=some (.cells #[.int .i64 0,.int .i64 0,.int .i64 0,.int .i64 0] 122 (0,0))):=(hb2.block _ (Array.getElem?_eq_some_iff.1 HO1.out).1).trans HO1.out;have HB2:Hid (Below X.heap.size X w2):=keepBelow HB1.out hb2;clear hb2;go_wp2_with fail
  refine(TB.out _).mono ?_;rintro e w3⟨rfl,hb3⟩;have HO3:Hid (w3.heap[X.heap.size]?=some (.cells #[.int .i64 0,.int .i64 0,.int .i64 0,.int .i64 0] 122 (0,0))):=(hb3.block _ (Array.getElem?_eq_some_iff.1 HO2.out).1).trans HO2.out;have HB3:Hid (Below X.heap.size X w3):=keepBelow HB2.out hb3;clear hb3;have NA:Hid (na≤4294967296):=Nat.le_trans OA.out.number (by decide);simp only[cmV];by_cases c1:na=0
  ·have HQ:Hid (pickC ⟨sa,na,fa,pa⟩ ⟨sb,nb,fb,pb⟩=⟨sb,nb,fb,pb⟩):=if_pos (Or.inl c1);subst c1;go_wp2_with fail
   go_quiet (fail)
   have HB9:Hid (Below X.heap.size X (((w3.alloc (.cells #[.int .i64 sa,.int .i64 0,.int .i64 fa,.int .i64 pa] 122)).alloc (.cells #[.int .i64 sb,.int .i64 nb,.int .i64 fb,.int .i64 pb] 122)).drewN nq)):=below_dw ((HB3.out.alloc (Nat.le_of_lt (Array.getElem?_eq_some_iff.1 HO3.out).1) _).alloc (by simp;have:=(Array.getElem?_eq_some_iff.1 HO3.out).1;omega) _);have hO:(((w3.alloc (.cells #[.int .i64 sa,.int .i64 0,.int .i64 fa,.int .i64 pa] 122)).alloc (.cells #[.int .i64 sb,.int .i64 nb,.int .i64 fb,.int .i64 pb] 122)).drewN nq).heap[X.heap.size]?=some (.cells #[.int .i64 0,.int .i64 0,.int .i64 0,.int .i64 0] 122 (0,0)):=(heap_alloc_old _ _ (by simp;have:=(Array.getElem?_eq_some_iff.1 HO3.out).1;omega)).trans ((heap_alloc_old _ _ (Array.getElem?_eq_some_iff.1 HO3.out).1).trans HO3.out);have hA:(((w3.alloc (.cells #[.int .i64 sa,.int .i64 0,.int .i64 fa,.int .i64 pa] 122)).alloc (.cells #[.int .i64 sb,.int .i64 nb,.int .i64 fb,.int .i64 pb] 122)).drewN nq).heap[w3.heap.size]?=some (.cells #[.int .i64 sa,.int .i64 0,.int .i64 fa,.int .i64 pa] 122 (0,0)):=(heap_alloc_old _ _ (by simp)).trans (heap_alloc_new w3 _);have hBB:(((w3.alloc (.cells #[.int .i64 sa,.int .i64 0,.int .i64 fa,.int .i64 pa] 122)).alloc (.cells #[.int .i64 sb,.int .i64 nb,.int .i64 fb,.int .i64 pb] 122)).drewN nq).heap[w3.heap.size+1]?=some (.cells #[.int .i64 sb,.int .i64 nb,.int .i64 fb,.int .i64 pb] 122 (0,0)):=by
    have:=heap_alloc_new (w3.alloc (.cells #[.int .i64 sa,.int .i64 0,.int .i64 fa,.int .i64 pa] 122)) (.cells #[.int .i64 sb,.int .i64 nb,.int .i64 fb,.int .i64 pb] 122);rw[show(w3.alloc (.cells #[.int .i64 sa,.int .i64 0,.int .i64 fa,.int .i64 pa] 122)).heap.size=w3.heap.size+1 by simp] at this;exact this
   obtain⟨⟨o0,o1,o2,o3⟩,⟨g0,g1,g2,g3⟩,lo⟩:=wcell4 hO;obtain⟨⟨a0,a1,a2,a3⟩,-,la⟩:=wcell4 hA;obtain⟨⟨b0,b1,b2,b3⟩,-,lb⟩:=wcell4 hBB;clear hO hA hBB;generalize ((w3.alloc (.cells #[.int .i64 sa,.int .i64 0,.int .i64 fa,.int .i64 pa] 122)).alloc (.cells #[.int .i64 sb,.int .i64 nb,.int .i64 fb,.int .i64 pb] 122)).drewN nq=W9 at *;go_wp2;refine bodyPost_ret (v:=.tuple #[(.agg #[.int .i64 ((sb:Int)),.int .i64 ((nb:Int)),.int .i64 ((fb:Int)),.int .i64 ((pb:Int))]),.int .i64 0]) (by simp[results,Tryz.results61,go_sem, *]) rfl ⟨by rw[HT.out,HQ.out];rfl,?_⟩;exact((((HB9.out).setCell (by simp<;>omega) _).setCell (by simp<;>omega) _).setCell (by simp<;>omega) _).setCell (by simp<;>omega) _
  by_cases c2:nb=nxN na
  ·have HQ:Hid (pickC ⟨sa,na,fa,pa⟩ ⟨sb,nb,fb,pb⟩=⟨sb,nb,fb,pb⟩):=if_pos (Or.inr c2);have i2:((na:Int) == 0)=false:=by simpa using c1
   have i3:(nb:Int)=(nxN na:Nat):=by omega
   have i4:((nb:Int) == (nxN na:Nat))=true:=by simpa using i3
   clear c1 c2 i3;go_wp2_with fail
   go_region_held3 (fun w'=>Below w3.heap.size w3 w'∧w3.heap.size+1<w'.heap.size∧w'.cell? ⟨w3.heap.size,0,none⟩=some (.int .i64 ((sa:Int)))∧w'.cell? ⟨w3.heap.size,1,none⟩=some (.int .i64 ((na:Int)))∧w'.cell? ⟨w3.heap.size,2,none⟩=some (.int .i64 ((fa:Int)))∧w'.cell? ⟨w3.heap.size,3,none⟩=some (.int .i64 ((pa:Int)))∧w'.cell? ⟨w3.heap.size+1,0,none⟩=some (.int .i64 ((sb:Int)))∧w'.cell? ⟨w3.heap.size+1,1,none⟩=some (.int .i64 ((nb:Int)))∧w'.cell? ⟨w3.heap.size+1,2,none⟩=some (.int .i64 ((fb:Int)))∧w'.cell? ⟨w3.heap.size+1,3,none⟩=some (.int .i64 ((pb:Int)))) (first | (refine⟨(((Below.refl _ _).alloc (Nat.le_refl _) _).alloc (by simp) _).drew,?_⟩;go_keep) | (go_split_ands;and_intros<;>assumption) | (go_split_ands;exact⟨keepBelow (by assumption) hb,keepSize hb (by assumption),keepCell hb (Nat.lt_of_succ_lt (by assumption)) (by assumption),keepCell hb (Nat.lt_of_succ_lt (by assumption)) (by assumption),keepCell hb (Nat.lt_of_succ_lt (by assumption)) (by assumption),keepCell hb (Nat.lt_of_succ_lt (by assumption)) (by assumption),keepCell hb (by assumption) (by assumption),keepCell hb (by assumption) (by assumption),keepCell hb (by assumption) (by assumption),keepCell hb (by assumption) (by assumption)⟩))
    (first | (go_at_call 108;refine(cnext na _ NA.out).mono ?_;rintro e w'⟨rfl,rfl⟩))
   have HB9:Hid (Below X.heap.size X (((w3.alloc (.cells #[.int .i64 sa,.int .i64 na,.int .i64 fa,.int .i64 pa] 122)).alloc (.cells #[.int .i64 sb,.int .i64 nb,.int .i64 fb,.int .i64 pb] 122)).drew)):=Below.drew ((HB3.out.alloc (Nat.le_of_lt (Array.getElem?_eq_some_iff.1 HO3.out).1) _).alloc (by simp;have:=(Array.getElem?_eq_some_iff.1 HO3.out).1;omega) _);have hO:(((w3.alloc (.cells #[.int .i64 sa,.int .i64 na,.int .i64 fa,.int .i64 pa] 122)).alloc (.cells #[.int .i64 sb,.int .i64 nb,.int .i64 fb,.int .i64 pb] 122)).drew).heap[X.heap.size]?=some (.cells #[.int .i64 0,.int .i64 0,.int .i64 0,.int .i64 0] 122 (0,0)):=(heap_alloc_old _ _ (by simp;have:=(Array.getElem?_eq_some_iff.1 HO3.out).1;omega)).trans ((heap_alloc_old _ _ (Array.getElem?_eq_some_iff.1 HO3.out).1).trans HO3.out);have hA:(((w3.alloc (.cells #[.int .i64 sa,.int .i64 na,.int .i64 fa,.int .i64 pa] 122)).alloc (.cells #[.int .i64 sb,.int .i64 nb,.int .i64 fb,.int .i64 pb] 122)).drew).heap[w3.heap.size]?=some (.cells #[.int .i64 sa,.int .i64 na,.int .i64 fa,.int .i64 pa] 122 (0,0)):=(heap_alloc_old _ _ (by simp)).trans (heap_alloc_new w3 _);have hBB:(((w3.alloc (.cells #[.int .i64 sa,.int .i64 na,.int .i64 fa,.int .i64 pa] 122)).alloc (.cells #[.int .i64 sb,.int .i64 nb,.int .i64 fb,.int .i64 pb] 122)).drew).heap[w3.heap.size+1]?=some (.cells #[.int .i64 sb,.int .i64 nb,.int .i64 fb,.int .i64 pb] 122 (0,0)):=by
    have:=heap_alloc_new (w3.alloc (.cells #[.int .i64 sa,.int .i64 na,.int .i64 fa,.int .i64 pa] 122)) (.cells #[.int .i64 sb,.int .i64 nb,.int .i64 fb,.int .i64 pb] 122);rw[show(w3.alloc (.cells #[.int .i64 sa,.int .i64 na,.int .i64 fa,.int .i64 pa] 122)).heap.size=w3.heap.size+1 by simp] at this;exact this
   obtain⟨⟨o0,o1,o2,o3⟩,⟨g0,g1,g2,g3⟩,lo⟩:=wcell4 hO;obtain⟨⟨a0,a1,a2,a3⟩,-,la⟩:=wcell4 hA;obtain⟨⟨b0,b1,b2,b3⟩,-,lb⟩:=wcell4 hBB;clear hO hA hBB;generalize ((w3.alloc (.cells #[.int .i64 sa,.int .i64 na,.int .i64 fa,.int .i64 pa] 122)).alloc (.cells #[.int .i64 sb,.int .i64 nb,.int .i64 fb,.int .i64 pb] 122)).drew=W9 at *;go_wp2;refine bodyPost_ret (v:=.tuple #[(.agg #[.int .i64 ((sb:Int)),.int .i64 ((nb:Int)),.int .i64 ((fb:Int)),.int .i64 ((pb:Int))]),.int .i64 0]) (by simp[results,Tryz.results61,go_sem, *]) rfl ⟨by rw[HT.out,HQ.out];rfl,?_⟩;exact((((HB9.out).setCell (by simp<;>omega) _).setCell (by simp<;>omega) _).setCell (by simp<;>omega) _).setCell (by simp<;>omega) _
  have HQ:Hid (pickC ⟨sa,na,fa,pa⟩ ⟨sb,nb,fb,pb⟩=⟨sa,na,fa,pa⟩):=if_neg (by rintro(h | h);exact c1 h;exact c2 h);have i2:((na:Int) == 0)=false:=by simpa using c1
  have i4:((nb:Int) == (nxN na:Nat))=false:=by
   have:¬(nb:Int)=(nxN na:Nat):=by omega
   simpa using this
  clear c1 c2;go_wp2_with fail
  go_region_held3 (fun w'=>Below w3.heap.size w3 w'∧w3.heap.size+1<w'.heap.size∧w'.cell? ⟨w3.heap.size,0,none⟩=some (.int .i64 ((sa:Int)))∧w'.cell? ⟨w3.heap.size,1,none⟩=some (.int .i64 ((na:Int)))∧w'.cell? ⟨w3.heap.size,2,none⟩=some (.int .i64 ((fa:Int)))∧w'.cell? ⟨w3.heap.size,3,none⟩=some (.int .i64 ((pa:Int)))∧w'.cell? ⟨w3.heap.size+1,0,none⟩=some (.int .i64 ((sb:Int)))∧w'.cell? ⟨w3.heap.size+1,1,none⟩=some (.int .i64 ((nb:Int)))∧w'.cell? ⟨w3.heap.size+1,2,none⟩=some (.int .i64 ((fb:Int)))∧w'.cell? ⟨w3.heap.size+1,3,none⟩=some (.int .i64 ((pb:Int)))) (first | (refine⟨(((Below.refl _ _).alloc (Nat.le_refl _) _).alloc (by simp) _).drew,?_⟩;go_keep) | (go_split_ands;and_intros<;>assumption) | (go_split_ands;exact⟨keepBelow (by assumption) hb,keepSize hb (by assumption),keepCell hb (Nat.lt_of_succ_lt (by assumption)) (by assumption),keepCell hb (Nat.lt_of_succ_lt (by assumption)) (by assumption),keepCell hb (Nat.lt_of_succ_lt (by assumption)) (by assumption),keepCell hb (Nat.lt_of_succ_lt (by assumption)) (by assumption),keepCell hb (by assumption) (by assumption),keepCell hb (by assumption) (by assumption),keepCell hb (by assumption) (by assumption),keepCell hb (by assumption) (by assumption)⟩))
   (first | (go_at_call 108;refine(cnext na _ NA.out).mono ?_;rintro e w'⟨rfl,rfl⟩))
  have HB9:Hid (Below X.heap.size X (((w3.alloc (.cells #[.int .i64 sa,.int .i64 na,.int .i64 fa,.int .i64 pa] 122)).alloc (.cells #[.int .i64 sb,.int .i64 nb,.int .i64 fb,.int .i64 pb] 122)).drew)):=Below.drew ((HB3.out.alloc (Nat.le_of_lt (Array.getElem?_eq_some_iff.1 HO3.out).1) _).alloc (by simp;have:=(Array.getElem?_eq_some_iff.1 HO3.out).1;omega) _);have hO:(((w3.alloc (.cells #[.int .i64 sa,.int .i64 na,.int .i64 fa,.int .i64 pa] 122)).alloc (.cells #[.int .i64 sb,.int .i64 nb,.int .i64 fb,.int .i64 pb] 122)).drew).heap[X.heap.size]?=some (.cells #[.int .i64 0,.int .i64 0,.int .i64 0,.int .i64 0] 122 (0,0)):=(heap_alloc_old _ _ (by simp;have:=(Array.getElem?_eq_some_iff.1 HO3.out).1;omega)).trans ((heap_alloc_old _ _ (Array.getElem?_eq_some_iff.1 HO3.out).1).trans HO3.out);have hA:(((w3.alloc (.cells #[.int .i64 sa,.int .i64 na,.int .i64 fa,.int .i64 pa] 122)).alloc (.cells #[.int .i64 sb,.int .i64 nb,.int .i64 fb,.int .i64 pb] 122)).drew).heap[w3.heap.size]?=some (.cells #[.int .i64 sa,.int .i64 na,.int .i64 fa,.int .i64 pa] 122 (0,0)):=(heap_alloc_old _ _ (by simp)).trans (heap_alloc_new w3 _);have hBB:(((w3.alloc (.cells #[.int .i64 sa,.int .i64 na,.int .i64 fa,.int .i64 pa] 122)).alloc (.cells #[.int .i64 sb,.int .i64 nb,.int .i64 fb,.int .i64 pb] 122)).drew).heap[w3.heap.size+1]?=some (.cells #[.int .i64 sb,.int .i64 nb,.int .i64 fb,.int .i64 pb] 122 (0,0)):=by
   have:=heap_alloc_new (w3.alloc (.cells #[.int .i64 sa,.int .i64 na,.int .i64 fa,.int .i64 pa] 122)) (.cells #[.int .i64 sb,.int .i64 nb,.int .i64 fb,.int .i64 pb] 122);rw[show(w3.alloc (.cells #[.int .i64 sa,.int .i64 na,.int .i64 fa,.int .i64 pa] 122)).heap.size=w3.heap.size+1 by simp] at this;exact this
  obtain⟨⟨o0,o1,o2,o3⟩,⟨g0,g1,g2,g3⟩,lo⟩:=wcell4 hO;obtain⟨⟨a0,a1,a2,a3⟩,-,la⟩:=wcell4 hA;obtain⟨⟨b0,b1,b2,b3⟩,-,lb⟩:=wcell4 hBB;clear hO hA hBB;generalize ((w3.alloc (.cells #[.int .i64 sa,.int .i64 na,.int .i64 fa,.int .i64 pa] 122)).alloc (.cells #[.int .i64 sb,.int .i64 nb,.int .i64 fb,.int .i64 pb] 122)).drew=W9 at *;go_wp2;refine bodyPost_ret (v:=.tuple #[(.agg #[.int .i64 ((sa:Int)),.int .i64 ((na:Int)),.int .i64 ((fa:Int)),.int .i64 ((pa:Int))]),.int .i64 0]) (by simp[results,Tryz.results61,go_sem, *]) rfl ⟨by rw[HT.out,HQ.out];rfl,?_⟩;exact((((HB9.out).setCell (by simp<;>omega) _).setCell (by simp<;>omega) _).setCell (by simp<;>omega) _).setCell (by simp<;>omega) _
theorem clastCB (X:World)(B D:Nat)(S:DS)(h:PDs X B D S)(hd:S.down=false)(hz:(S.lb 2).length≤67108864)(hm:64<(S.lb 2).length):Calls Tryz.prog 61 #[(.pointer (some ⟨D,0,none⟩))] X fun e w'=>e=.returned (.tuple #[cmV (lastC (S.lb 2)),.int .i64 0])∧Below X.heap.size X w':=by
 have ea:askE 1 0 0 S.down=0:=by rw[hd];rfl
 have es:sizV 1 S.lb S.down=((S.lb 2).length:Int):=by unfold sizV;rw[if_pos ea];rfl
 have EA:Hid _:=ea;have ES:Hid _:=es;have R:Hid _:=readHead S hd 64 (by omega);have HP:Hid (PDs X B D S):=h;have hsz:=headB_size (S.lb 2);have hh:(headB (S.lb 2)).size≤1000000:=by omega
 have HH:Hid ((headB (S.lb 2)).size≤1000000):=hh;have i1:(64:Int)<((S.lb 2).length:Int):=by omega
 have HL:Hid (lastC (S.lb 2)=if isMark (headB (S.lb 2)) then pickC (toldA (headB (S.lb 2)) 16 0 (S.lb 2).length) (toldA (headB (S.lb 2)) 40 1 (S.lb 2).length) else cm0):=rfl;clear ea es h hd hz hm hsz hh;cases hM:isMark (headB (S.lb 2)) with
 | false =>
  have HT:Hid (lastC (S.lb 2)=cm0):=HL.out.trans (by rw[hM];rfl);have HM:Hid _:=hM;clear HL hM;go_enter Tryz.func61,Tryz.ntmps61;go_wp2_with fail
  refine(csizeD 1 _ B D S (HP.out.below ((Below.refl _ _).alloc (Nat.le_refl _) _))).mono ?_;rintro e w1⟨rfl,rfl⟩;rw[EA.out,ES.out];go_wp2_with fail
  refine(creadD 1 0 64 _ B D S (HP.out.below ((Below.refl _ _).alloc (Nat.le_refl _) _))).mono ?_;rintro e w1⟨rfl,rfl⟩;rw[R.out.1,R.out.2];generalize (S.lb 2).length=z at *;generalize headB (S.lb 2)=hd at *;go_wp2_with fail
  refine(cprefix hd _).mono ?_;rintro e w1⟨rfl,hb1⟩;rw[HM.out];obtain⟨hc1,hf1⟩:=bcell hb1;have za1:X.heap.size<w1.heap.size:=(by have:=hb1.size;(try simp at this);omega);have HB1:Hid (Below X.heap.size X w1):=keepBelow ((Below.refl _ _).alloc (Nat.le_refl _) _) hb1;clear hb1;go_wp2_with fail
  refine bodyPost_ret (v:=.tuple #[(.agg #[.int .i64 (0),.int .i64 (0),.int .i64 (0),.int .i64 (0)]),.int .i64 0]) (by simp[results,Tryz.results61,go_sem, *]) rfl ⟨by rw[HT.out];rfl,?_⟩;exact((((HB1.out).setCell (by simp<;>omega) _).setCell (by simp<;>omega) _).setCell (by simp<;>omega) _).setCell (by simp<;>omega) _
 | true =>
  have HT:Hid (lastC (S.lb 2)=pickC (toldA (headB (S.lb 2)) 16 0 (S.lb 2).length) (toldA (headB (S.lb 2)) 40 1 (S.lb 2).length)):=HL.out.trans (by rw[hM];rfl);have HM:Hid _:=hM;have OA:Hid _:=told_ok (headB (S.lb 2)) 16 0 (S.lb 2).length (by decide);have OB:Hid _:=told_ok (headB (S.lb 2)) 40 1 (S.lb 2).length (by decide);clear HL hM;go_enter Tryz.func61,Tryz.ntmps61;go_wp2_with fail
  refine(csizeD 1 _ B D S (HP.out.below ((Below.refl _ _).alloc (Nat.le_refl _) _))).mono ?_;rintro e w1⟨rfl,rfl⟩;rw[EA.out,ES.out];go_wp2_with fail
  refine(creadD 1 0 64 _ B D S (HP.out.below ((Below.refl _ _).alloc (Nat.le_refl _) _))).mono ?_;rintro e w1⟨rfl,rfl⟩;rw[R.out.1,R.out.2];have TA:Hid (∀W,Calls Tryz.prog 107 #[.string (headB (S.lb 2)),.int .i64 0,.int .i64 (S.lb 2).length] W fun e w'=>e=.returned (cmV (toldA (headB (S.lb 2)) 16 0 (S.lb 2).length))∧Below W.heap.size W w'):=fun W=>ctold0 _ _ W HH.out
  have TB:Hid (∀W,Calls Tryz.prog 107 #[.string (headB (S.lb 2)),.int .i64 1,.int .i64 (S.lb 2).length] W fun e w'=>e=.returned (cmV (toldA (headB (S.lb 2)) 40 1 (S.lb 2).length))∧Below W.heap.size W w'):=fun W=>ctold1 _ _ W HH.out
  generalize toldA (headB (S.lb 2)) 16 0 (S.lb 2).length=ca at *;generalize toldA (headB (S.lb 2)) 40 1 (S.lb 2).length=cb at *;generalize (S.lb 2).length=z at *;generalize headB (S.lb 2)=hd at *;obtain⟨sa,na,fa,pa⟩:=ca;obtain⟨sb,nb,fb,pb⟩:=cb;go_wp2_with fail
  refine(cprefix hd _).mono ?_;rintro e w1⟨rfl,hb1⟩;rw[HM.out];have HO1:Hid (w1.heap[X.heap.size]?=some (.cells #[.int .i64 0,.int .i64 0,.int .i64 0,.int .i64 0] 122 (0,0))):=(hb1.block _ (by simp)).trans (heap_alloc_new X _);have HB1:Hid (Below X.heap.size X w1):=keepBelow ((Below.refl _ _).alloc (Nat.le_refl _) _) hb1;clear hb1;go_wp2_with fail
  refine(TA.out _).mono ?_;rintro e w2⟨rfl,hb2⟩;have HO2:Hid (w2.heap[X.heap.size]?=some (.cells #[.int .i64 0,.int .i64 0,.int .i64 0,.int .i64 0] 122 (0,0))):=(hb2.block _ (Array.getElem?_eq_some_iff.1 HO1.out).1).trans HO1.out;have HB2:Hid (Below X.heap.size X w2):=keepBelow HB1.out hb2;clear hb2;go_wp2_with fail
  refine(TB.out _).mono ?_;rintro e w3⟨rfl,hb3⟩;have HO3:Hid (w3.heap[X.heap.size]?=some (.cells #[.int .i64 0,.int .i64 0,.int .i64 0,.int .i64 0] 122 (0,0))):=(hb3.block _ (Array.getElem?_eq_some_iff.1 HO2.out).1).trans HO2.out;have HB3:Hid (Below X.heap.size X w3):=keepBelow HB2.out hb3;clear hb3;have NA:Hid (na≤4294967296):=Nat.le_trans OA.out.number (by decide);simp only[cmV];by_cases c1:na=0
  ·have HQ:Hid (pickC ⟨sa,na,fa,pa⟩ ⟨sb,nb,fb,pb⟩=⟨sb,nb,fb,pb⟩):=if_pos (Or.inl c1);subst c1;go_wp2_with fail
   go_quiet (fail)
   have HB9:Hid (Below X.heap.size X (((w3.alloc (.cells #[.int .i64 sa,.int .i64 0,.int .i64 fa,.int .i64 pa] 122)).alloc (.cells #[.int .i64 sb,.int .i64 nb,.int .i64 fb,.int .i64 pb] 122)).drewN nq)):=below_dw ((HB3.out.alloc (Nat.le_of_lt (Array.getElem?_eq_some_iff.1 HO3.out).1) _).alloc (by simp;have:=(Array.getElem?_eq_some_iff.1 HO3.out).1;omega) _);have hO:(((w3.alloc (.cells #[.int .i64 sa,.int .i64 0,.int .i64 fa,.int .i64 pa] 122)).alloc (.cells #[.int .i64 sb,.int .i64 nb,.int .i64 fb,.int .i64 pb] 122)).drewN nq).heap[X.heap.size]?=some (.cells #[.int .i64 0,.int .i64 0,.int .i64 0,.int .i64 0] 122 (0,0)):=(heap_alloc_old _ _ (by simp;have:=(Array.getElem?_eq_some_iff.1 HO3.out).1;omega)).trans ((heap_alloc_old _ _ (Array.getElem?_eq_some_iff.1 HO3.out).1).trans HO3.out);have hA:(((w3.alloc (.cells #[.int .i64 sa,.int .i64 0,.int .i64 fa,.int .i64 pa] 122)).alloc (.cells #[.int .i64 sb,.int .i64 nb,.int .i64 fb,.int .i64 pb] 122)).drewN nq).heap[w3.heap.size]?=some (.cells #[.int .i64 sa,.int .i64 0,.int .i64 fa,.int .i64 pa] 122 (0,0)):=(heap_alloc_old _ _ (by simp)).trans (heap_alloc_new w3 _);have hBB:(((w3.alloc (.cells #[.int .i64 sa,.int .i64 0,.int .i64 fa,.int .i64 pa] 122)).alloc (.cells #[.int .i64 sb,.int .i64 nb,.int .i64 fb,.int .i64 pb] 122)).drewN nq).heap[w3.heap.size+1]?=some (.cells #[.int .i64 sb,.int .i64 nb,.int .i64 fb,.int .i64 pb] 122 (0,0)):=by
    have:=heap_alloc_new (w3.alloc (.cells #[.int .i64 sa,.int .i64 0,.int .i64 fa,.int .i64 pa] 122)) (.cells #[.int .i64 sb,.int .i64 nb,.int .i64 fb,.int .i64 pb] 122);rw[show(w3.alloc (.cells #[.int .i64 sa,.int .i64 0,.int .i64 fa,.int .i64 pa] 122)).heap.size=w3.heap.size+1 by simp] at this;exact this
   obtain⟨⟨o0,o1,o2,o3⟩,⟨g0,g1,g2,g3⟩,lo⟩:=wcell4 hO;obtain⟨⟨a0,a1,a2,a3⟩,-,la⟩:=wcell4 hA;obtain⟨⟨b0,b1,b2,b3⟩,-,lb⟩:=wcell4 hBB;clear hO hA hBB;generalize ((w3.alloc (.cells #[.int .i64 sa,.int .i64 0,.int .i64 fa,.int .i64 pa] 122)).alloc (.cells #[.int .i64 sb,.int .i64 nb,.int .i64 fb,.int .i64 pb] 122)).drewN nq=W9 at *;go_wp2;refine bodyPost_ret (v:=.tuple #[(.agg #[.int .i64 ((sb:Int)),.int .i64 ((nb:Int)),.int .i64 ((fb:Int)),.int .i64 ((pb:Int))]),.int .i64 0]) (by simp[results,Tryz.results61,go_sem, *]) rfl ⟨by rw[HT.out,HQ.out];rfl,?_⟩;exact((((HB9.out).setCell (by simp<;>omega) _).setCell (by simp<;>omega) _).setCell (by simp<;>omega) _).setCell (by simp<;>omega) _
  by_cases c2:nb=nxN na
  ·have HQ:Hid (pickC ⟨sa,na,fa,pa⟩ ⟨sb,nb,fb,pb⟩=⟨sb,nb,fb,pb⟩):=if_pos (Or.inr c2);have i2:((na:Int) == 0)=false:=by simpa using c1
   have i3:(nb:Int)=(nxN na:Nat):=by omega
   have i4:((nb:Int) == (nxN na:Nat))=true:=by simpa using i3
   clear c1 c2 i3;go_wp2_with fail
   go_region_held3 (fun w'=>Below w3.heap.size w3 w'∧w3.heap.size+1<w'.heap.size∧w'.cell? ⟨w3.heap.size,0,none⟩=some (.int .i64 ((sa:Int)))∧w'.cell? ⟨w3.heap.size,1,none⟩=some (.int .i64 ((na:Int)))∧w'.cell? ⟨w3.heap.size,2,none⟩=some (.int .i64 ((fa:Int)))∧w'.cell? ⟨w3.heap.size,3,none⟩=some (.int .i64 ((pa:Int)))∧w'.cell? ⟨w3.heap.size+1,0,none⟩=some (.int .i64 ((sb:Int)))∧w'.cell? ⟨w3.heap.size+1,1,none⟩=some (.int .i64 ((nb:Int)))∧w'.cell? ⟨w3.heap.size+1,2,none⟩=some (.int .i64 ((fb:Int)))∧w'.cell? ⟨w3.heap.size+1,3,none⟩=some (.int .i64 ((pb:Int)))) (first | (refine⟨(((Below.refl _ _).alloc (Nat.le_refl _) _).alloc (by simp) _).drew,?_⟩;go_keep) | (go_split_ands;and_intros<;>assumption) | (go_split_ands;exact⟨keepBelow (by assumption) hb,keepSize hb (by assumption),keepCell hb (Nat.lt_of_succ_lt (by assumption)) (by assumption),keepCell hb (Nat.lt_of_succ_lt (by assumption)) (by assumption),keepCell hb (Nat.lt_of_succ_lt (by assumption)) (by assumption),keepCell hb (Nat.lt_of_succ_lt (by assumption)) (by assumption),keepCell hb (by assumption) (by assumption),keepCell hb (by assumption) (by assumption),keepCell hb (by assumption) (by assumption),keepCell hb (by assumption) (by assumption)⟩))
    (first | (go_at_call 108;refine(cnext na _ NA.out).mono ?_;rintro e w'⟨rfl,rfl⟩))
   have HB9:Hid (Below X.heap.size X (((w3.alloc (.cells #[.int .i64 sa,.int .i64 na,.int .i64 fa,.int .i64 pa] 122)).alloc (.cells #[.int .i64 sb,.int .i64 nb,.int .i64 fb,.int .i64 pb] 122)).drew)):=Below.drew ((HB3.out.alloc (Nat.le_of_lt (Array.getElem?_eq_some_iff.1 HO3.out).1) _).alloc (by simp;have:=(Array.getElem?_eq_some_iff.1 HO3.out).1;omega) _);have hO:(((w3.alloc (.cells #[.int .i64 sa,.int .i64 na,.int .i64 fa,.int .i64 pa] 122)).alloc (.cells #[.int .i64 sb,.int .i64 nb,.int .i64 fb,.int .i64 pb] 122)).drew).heap[X.heap.size]?=some (.cells #[.int .i64 0,.int .i64 0,.int .i64 0,.int .i64 0] 122 (0,0)):=(heap_alloc_old _ _ (by simp;have:=(Array.getElem?_eq_some_iff.1 HO3.out).1;omega)).trans ((heap_alloc_old _ _ (Array.getElem?_eq_some_iff.1 HO3.out).1).trans HO3.out);have hA:(((w3.alloc (.cells #[.int .i64 sa,.int .i64 na,.int .i64 fa,.int .i64 pa] 122)).alloc (.cells #[.int .i64 sb,.int .i64 nb,.int .i64 fb,.int .i64 pb] 122)).drew).heap[w3.heap.size]?=some (.cells #[.int .i64 sa,.int .i64 na,.int .i64 fa,.int .i64 pa] 122 (0,0)):=(heap_alloc_old _ _ (by simp)).trans (heap_alloc_new w3 _);have hBB:(((w3.alloc (.cells #[.int .i64 sa,.int .i64 na,.int .i64 fa,.int .i64 pa] 122)).alloc (.cells #[.int .i64 sb,.int .i64 nb,.int .i64 fb,.int .i64 pb] 122)).drew).heap[w3.heap.size+1]?=some (.cells #[.int .i64 sb,.int .i64 nb,.int .i64 fb,.int .i64 pb] 122 (0,0)):=by
    have:=heap_alloc_new (w3.alloc (.cells #[.int .i64 sa,.int .i64 na,.int .i64 fa,.int .i64 pa] 122)) (.cells #[.int .i64 sb,.int .i64 nb,.int .i64 fb,.int .i64 pb] 122);rw[show(w3.alloc (.cells #[.int .i64 sa,.int .i64 na,.int .i64 fa,.int .i64 pa] 122)).heap.size=w3.heap.size+1 by simp] at this;exact this
   obtain⟨⟨o0,o1,o2,o3⟩,⟨g0,g1,g2,g3⟩,lo⟩:=wcell4 hO;obtain⟨⟨a0,a1,a2,a3⟩,-,la⟩:=wcell4 hA;obtain⟨⟨b0,b1,b2,b3⟩,-,lb⟩:=wcell4 hBB;clear hO hA hBB;generalize ((w3.alloc (.cells #[.int .i64 sa,.int .i64 na,.int .i64 fa,.int .i64 pa] 122)).alloc (.cells #[.int .i64 sb,.int .i64 nb,.int .i64 fb,.int .i64 pb] 122)).drew=W9 at *;go_wp2;refine bodyPost_ret (v:=.tuple #[(.agg #[.int .i64 ((sb:Int)),.int .i64 ((nb:Int)),.int .i64 ((fb:Int)),.int .i64 ((pb:Int))]),.int .i64 0]) (by simp[results,Tryz.results61,go_sem, *]) rfl ⟨by rw[HT.out,HQ.out];rfl,?_⟩;exact((((HB9.out).setCell (by simp<;>omega) _).setCell (by simp<;>omega) _).setCell (by simp<;>omega) _).setCell (by simp<;>omega) _
  have HQ:Hid (pickC ⟨sa,na,fa,pa⟩ ⟨sb,nb,fb,pb⟩=⟨sa,na,fa,pa⟩):=if_neg (by rintro(h | h);exact c1 h;exact c2 h);have i2:((na:Int) == 0)=false:=by simpa using c1
  have i4:((nb:Int) == (nxN na:Nat))=false:=by
   have:¬(nb:Int)=(nxN na:Nat):=by omega
   simpa using this
  clear c1 c2;go_wp2_with fail
  go_region_held3 (fun w'=>Below w3.heap.size w3 w'∧w3.heap.size+1<w'.heap.size∧w'.cell? ⟨w3.heap.size,0,none⟩=some (.int .i64 ((sa:Int)))∧w'.cell? ⟨w3.heap.size,1,none⟩=some (.int .i64 ((na:Int)))∧w'.cell? ⟨w3.heap.size,2,none⟩=some (.int .i64 ((fa:Int)))∧w'.cell? ⟨w3.heap.size,3,none⟩=some (.int .i64 ((pa:Int)))∧w'.cell? ⟨w3.heap.size+1,0,none⟩=some (.int .i64 ((sb:Int)))∧w'.cell? ⟨w3.heap.size+1,1,none⟩=some (.int .i64 ((nb:Int)))∧w'.cell? ⟨w3.heap.size+1,2,none⟩=some (.int .i64 ((fb:Int)))∧w'.cell? ⟨w3.heap.size+1,3,none⟩=some (.int .i64 ((pb:Int)))) (first | (refine⟨(((Below.refl _ _).alloc (Nat.le_refl _) _).alloc (by simp) _).drew,?_⟩;go_keep) | (go_split_ands;and_intros<;>assumption) | (go_split_ands;exact⟨keepBelow (by assumption) hb,keepSize hb (by assumption),keepCell hb (Nat.lt_of_succ_lt (by assumption)) (by assumption),keepCell hb (Nat.lt_of_succ_lt (by assumption)) (by assumption),keepCell hb (Nat.lt_of_succ_lt (by assumption)) (by assumption),keepCell hb (Nat.lt_of_succ_lt (by assumption)) (by assumption),keepCell hb (by assumption) (by assumption),keepCell hb (by assumption) (by assumption),keepCell hb (by assumption) (by assumption),keepCell hb (by assumption) (by assumption)⟩))
   (first | (go_at_call 108;refine(cnext na _ NA.out).mono ?_;rintro e w'⟨rfl,rfl⟩))
  have HB9:Hid (Below X.heap.size X (((w3.alloc (.cells #[.int .i64 sa,.int .i64 na,.int .i64 fa,.int .i64 pa] 122)).alloc (.cells #[.int .i64 sb,.int .i64 nb,.int .i64 fb,.int .i64 pb] 122)).drew)):=Below.drew ((HB3.out.alloc (Nat.le_of_lt (Array.getElem?_eq_some_iff.1 HO3.out).1) _).alloc (by simp;have:=(Array.getElem?_eq_some_iff.1 HO3.out).1;omega) _);have hO:(((w3.alloc (.cells #[.int .i64 sa,.int .i64 na,.int .i64 fa,.int .i64 pa] 122)).alloc (.cells #[.int .i64 sb,.int .i64 nb,.int .i64 fb,.int .i64 pb] 122)).drew).heap[X.heap.size]?=some (.cells #[.int .i64 0,.int .i64 0,.int .i64 0,.int .i64 0] 122 (0,0)):=(heap_alloc_old _ _ (by simp;have:=(Array.getElem?_eq_some_iff.1 HO3.out).1;omega)).trans ((heap_alloc_old _ _ (Array.getElem?_eq_some_iff.1 HO3.out).1).trans HO3.out);have hA:(((w3.alloc (.cells #[.int .i64 sa,.int .i64 na,.int .i64 fa,.int .i64 pa] 122)).alloc (.cells #[.int .i64 sb,.int .i64 nb,.int .i64 fb,.int .i64 pb] 122)).drew).heap[w3.heap.size]?=some (.cells #[.int .i64 sa,.int .i64 na,.int .i64 fa,.int .i64 pa] 122 (0,0)):=(heap_alloc_old _ _ (by simp)).trans (heap_alloc_new w3 _);have hBB:(((w3.alloc (.cells #[.int .i64 sa,.int .i64 na,.int .i64 fa,.int .i64 pa] 122)).alloc (.cells #[.int .i64 sb,.int .i64 nb,.int .i64 fb,.int .i64 pb] 122)).drew).heap[w3.heap.size+1]?=some (.cells #[.int .i64 sb,.int .i64 nb,.int .i64 fb,.int .i64 pb] 122 (0,0)):=by
   have:=heap_alloc_new (w3.alloc (.cells #[.int .i64 sa,.int .i64 na,.int .i64 fa,.int .i64 pa] 122)) (.cells #[.int .i64 sb,.int .i64 nb,.int .i64 fb,.int .i64 pb] 122);rw[show(w3.alloc (.cells #[.int .i64 sa,.int .i64 na,.int .i64 fa,.int .i64 pa] 122)).heap.size=w3.heap.size+1 by simp] at this;exact this
  obtain⟨⟨o0,o1,o2,o3⟩,⟨g0,g1,g2,g3⟩,lo⟩:=wcell4 hO;obtain⟨⟨a0,a1,a2,a3⟩,-,la⟩:=wcell4 hA;obtain⟨⟨b0,b1,b2,b3⟩,-,lb⟩:=wcell4 hBB;clear hO hA hBB;generalize ((w3.alloc (.cells #[.int .i64 sa,.int .i64 na,.int .i64 fa,.int .i64 pa] 122)).alloc (.cells #[.int .i64 sb,.int .i64 nb,.int .i64 fb,.int .i64 pb] 122)).drew=W9 at *;go_wp2;refine bodyPost_ret (v:=.tuple #[(.agg #[.int .i64 ((sa:Int)),.int .i64 ((na:Int)),.int .i64 ((fa:Int)),.int .i64 ((pa:Int))]),.int .i64 0]) (by simp[results,Tryz.results61,go_sem, *]) rfl ⟨by rw[HT.out,HQ.out];rfl,?_⟩;exact((((HB9.out).setCell (by simp<;>omega) _).setCell (by simp<;>omega) _).setCell (by simp<;>omega) _).setCell (by simp<;>omega) _
theorem clastC (X:World)(B D:Nat)(S:DS)(h:PDs X B D S)(hd:S.down=false)(hz:(S.lb 2).length≤67108864):Calls Tryz.prog 61 #[(.pointer (some ⟨D,0,none⟩))] X fun e w'=>e=.returned (.tuple #[cmV (lastC (S.lb 2)),.int .i64 0])∧Below X.heap.size X w':=by
 rcases Nat.lt_or_ge 64 (S.lb 2).length with hm|hm
 ·exact clastCB X B D S h hd hz hm
 ·exact clastCA X B D S h hd hz hm
structure LS where
 last:Cm
 fr:Nat
 pl:Int→Option Int
 fh:Int→Option Int
def logC (D bp bf:Nat)(L:LS):Array Value:=#[(.pointer (some ⟨D,0,none⟩)),.int .i64 L.last.slot,.int .i64 L.last.number,.int .i64 L.last.frames,.int .i64 L.last.pages,.int .i64 L.fr,.map (some bp),.map (some bf)]
structure PL (X:World) (B D G bp bf n:Nat) (L:LS) (S:DS):Prop where
 blk:X.heap[G]?=some (.cells (logC D bp bf L) 127 (0,0))
 low:B≤G∧B≤bp∧B≤bf
 dif:¬bp=bf
 mp:MI X bp n L.pl
 mf:MI X bf n L.fh
 dsk:PDs X B D S
structure BelL (G bp bf B:Nat) (X Y:World):Prop extends Below B X Y where
 far:∀b,b<X.heap.size→farT tyP X b→¬b=G→¬b=bp→¬b=bf→Y.heap[b]?=X.heap[b]?
 u:KpU B X Y
theorem BelT.log (h:BelT tyP B X Y)(G bp bf:Nat):BelL G bp bf B X Y:=⟨h.toBelow,fun b hb hf _ _ _=>h.far b hb hf,h.u⟩
theorem BelL.refl (G bp bf B:Nat)(X:World):BelL G bp bf B X X:=⟨Below.refl _ _,fun _ _ _ _ _ _=>rfl,KpU.refl _ _⟩
theorem BelL.trans (h:BelL G bp bf B X Y)(k:BelL G bp bf B Y Z):BelL G bp bf B X Z:=
 ⟨h.toBelow.trans k.toBelow,fun b hb hf h1 h2 h3=>by
  have e:=h.far b hb hf h1 h2 h3;exact(k.far b (Nat.lt_of_lt_of_le hb h.size) (hf.of e) h1 h2 h3).trans e,h.u.trans k.u h.size⟩
theorem below_log (h:Below X.heap.size X Y)(hB:B≤X.heap.size)(G bp bf:Nat):BelL G bp bf B X Y:=⟨h.mono hB,fun b hb _ _ _ _=>h.block b hb,KpU.below h⟩
theorem grown_log (h:X.grownBy Y (some b))(hB:B≤X.heap.size)(hb:b=G∨b=bp∨b=bf)(hl:B≤b)(hf:farT tyP X b):BelL G bp bf B X Y:=
 ⟨⟨h.os,h.tape,h.output,h.size,fun i hi=>h.block i (Nat.lt_of_lt_of_le hi hB) (fun e=>by injection e with e;omega)⟩,fun i hi _ h1 h2 h3=>h.block i hi (fun e=>by injection e with e;subst e;rcases hb with rfl | rfl | rfl;exact h1 rfl;exact h2 rfl;exact h3 rfl),KpU.far h hf⟩
theorem PL.lt {L:LS}(h:PL X B D G bp bf n L S):G<X.heap.size:=(Array.getElem?_eq_some_iff.1 h.blk).1
theorem PL.farG {L:LS}(h:PL X B D G bp bf n L S):farT tyP X G:=fun cur e fz he=>by
 rw[h.blk] at he;injection he with he;injection he with _ h2 _;rw[←h2]
 decide
theorem PL.ne {L:LS}(h:PL X B D G bp bf n L S):¬bp=G∧¬bf=G∧¬D=G∧¬D=bp∧¬D=bf:=by
 obtain⟨e1,c1,h1⟩:=h.mp.isMap;obtain⟨e2,c2,h2⟩:=h.mf.isMap;have hD:=h.dsk.nf;refine⟨fun e=>?_,fun e=>?_,fun e=>?_,fun e=>?_,fun e=>?_⟩
 ·subst e;rw[h.blk] at h1;cases h1
 ·subst e;rw[h.blk] at h2;cases h2
 ·subst e;exact hD h.farG
 ·subst e;exact hD (h.mp.far _)
 ·subst e;exact hD (h.mf.far _)
theorem PL.mono {L:LS}(h:PL X B D G bp bf n L S)(hm:n≤m:=by omega):PL X B D G bp bf m L S:=⟨h.blk,h.low,h.dif,h.mp.mono hm,h.mf.mono hm,h.dsk⟩
theorem PL.disk {L:LS}{S':DS}(h:PL X B D G bp bf n L S)(hb:BelT tyP B X Y)(hd:PDs Y B D S'):PL Y B D G bp bf n L S':=
 ⟨(hb.far G h.lt h.farG).trans h.blk,h.low,h.dif,h.mp.keep (hb.far _ h.mp.lt (h.mp.far _)),h.mf.keep (hb.far _ h.mf.lt (h.mf.far _)),hd⟩
theorem PL.below {L:LS}(h:PL X B D G bp bf n L S)(hb:Below X.heap.size X Y):PL Y B D G bp bf n L S:=
 ⟨(hb.block G h.lt).trans h.blk,h.low,h.dif,h.mp.keep (hb.block _ h.mp.lt),h.mf.keep (hb.block _ h.mf.lt),h.dsk.below hb⟩
theorem PL.cells {L:LS}(h:PL X B D G bp bf n L S):X.cell? ⟨G,0,none⟩=some (.pointer (some ⟨D,0,none⟩))∧X.cell? ⟨G,1,none⟩=some (.int .i64 L.last.slot)∧X.cell? ⟨G,2,none⟩=some (.int .i64 L.last.number)∧X.cell? ⟨G,3,none⟩=some (.int .i64 L.last.frames)∧X.cell? ⟨G,4,none⟩=some (.int .i64 L.last.pages)∧X.cell? ⟨G,5,none⟩=some (.int .i64 L.fr)∧X.cell? ⟨G,6,none⟩=some (.map (some bp))∧X.cell? ⟨G,7,none⟩=some (.map (some bf)):=by
 refine⟨?_,?_,?_,?_,?_,?_,?_,?_⟩<;>simp[World.cell?,h.blk,logC]
theorem PL.unfrozen {L:LS}(h:PL X B D G bp bf n L S)(k:Nat):X.frozen? ⟨G,k,none⟩=false:=by simp[World.frozen?,h.blk]
theorem PDs.grown (h:PDs X B D S)(hg:X.grownBy Y (some b))(hf:farT tyP X b):PDs Y B D S:=by
 obtain⟨vb,vw,h⟩:=h;have hne:∀(e:TypeId) (size:Nat) (v:Value) (n:Nat) (xs:List Value),tyP e=true→X.ownsRow B e size v n xs→∀g,v.ownBlock=some g→Y.heap[g]?=X.heap[g]?:=fun e size v n xs he ho g hg'=>by
  have:=row_nf he ho g hg';refine hg.block g (World.ownsRow.lt ho g hg').2 (fun e=>?_);injection e with e;subst e;exact this.2 hf
 refine⟨vb,vw,⟨(hg.block D h.lt (fun e=>?_)).trans h.blk,h.low,fun i hi=>row_keep (h.rows i hi) (hne _ _ _ _ _ (by decide) (h.rows i hi)),row_keep h.wrow (hne _ _ _ _ _ (by decide) h.wrow),h.dif,h.size,h.oks⟩⟩;injection e with e;subst e;exact h.nf hf
theorem PL.fresh {L:LS}(h:PL X B D G bp bf n L S)(hg:X.grownBy Y (some bf))(hF:MI Y bf m F)(hm:n≤m):PL Y B D G bp bf m { L with fh:=F } S:=by
 obtain⟨n1,n2,n3,n4,n5⟩:=h.ne;refine⟨(hg.block G h.lt (fun e=>?_)).trans h.blk,h.low,h.dif,(h.mp.keep (hg.block _ h.mp.lt (fun e=>?_))).mono hm,hF,h.dsk.grown hg (h.mf.far _)⟩
 ·injection e with e;exact n2 e.symm
 ·injection e with e;exact h.dif e
theorem PL.own {L L':LS}{v:Value}(h:PL X B D G bp bf n L S)(he:(logC D bp bf L).setIfInBounds k v=logC D bp bf L')(hp:L'.pl=L.pl)(hf:L'.fh=L.fh):PL (X.setCell ⟨G,k,none⟩ v) B D G bp bf n L' S:=by
 obtain⟨n1,n2,n3,n4,n5⟩:=h.ne;have hg:=set_grown X G k v;refine⟨by rw[set_blk h.blk,he],h.low,h.dif,?_,?_,h.dsk.grown hg h.farG⟩
 ·rw[hp];exact h.mp.keep (hg.block _ h.mp.lt (fun e=>by injection e with e;exact n1 e))
 ·rw[hf];exact h.mf.keep (hg.block _ h.mf.lt (fun e=>by injection e with e;exact n2 e))
def apL (L:LS)(S:DS)(n:Int)(t:ByteArray):Int×LS×DS:=
 if ¬(isPg n=true∧t.size=1024) then(1,L,S)
 else if 67108864<64+1028*(L.fr+1) then(8,L,S)
 else if(opD S 1 (64+1028*(L.fr:Int)) (fourB n.toNat++t) false).1=0 then(0,{ L with fh:=updM L.fh n L.fr,fr:=L.fr+1 },(opD S 1 (64+1028*(L.fr:Int)) (fourB n.toNat++t) false).2)
 else((opD S 1 (64+1028*(L.fr:Int)) (fourB n.toNat++t) false).1,L,(opD S 1 (64+1028*(L.fr:Int)) (fourB n.toNat++t) false).2)
theorem undrewB {w1:World}(h:Below w.drew.heap.size w.drew w1):Below w.heap.size w w1:=⟨h.os,h.tape,h.output,h.size,h.block⟩
theorem cappend0 (n:Nat)(t:ByteArray)(X:World)(B D G bp bf m k:Nat)(L:LS)(S:DS)(h:PL X B D G bp bf m L S)(hB:B≤X.heap.size)(hm:m≤900000)(ho:okS S k)(hk:k≤900000)(hf:L.fr≤65536)(h1:isPg n=true)(hts:t.size=1024)(h2:¬67108864<64+1028*(L.fr+1))(r:Int)(S2:DS)(hop:opD S 1 (64+1028*(L.fr:Int)) (fourB n++t) false=(r,S2)):Calls Tryz.prog 78 #[(.pointer (some ⟨G,0,none⟩)),.int .i64 n,.string t] X fun e w'=>e=.returned (.int .i64 r)∧PL w' B D G bp bf (m+1) (if r=0 then{ L with fh:=updM L.fh n L.fr,fr:=L.fr+1 } else L) S2∧BelL G bp bf B X w':=by
 obtain⟨c0,c1,c2,c3,c4,c5,c6,c7⟩:=h.cells;clear c1 c2 c3 c4;have HI:Hid (isPg n=true):=h1;have HP:Hid (PL X B D G bp bf m L S):=h;have hG:G<X.heap.size:=h.lt;have HO:Hid (okS S k∧k≤1000000):=(⟨ho,by omega⟩:okS S k∧k≤1000000);have HOP:Hid _:=hop;have HB0:Hid (B≤X.heap.size):=hB;have i1:(64:Int)+1028*((L.fr:Int)+1)≤67108864:=by omega
 have f0:Hid ((0:Int)≤(L.fr:Int)):=(by omega:(0:Int)≤(L.fr:Int));have f1:Hid ((L.fr:Int)≤4294967296):=(by omega:(L.fr:Int)≤4294967296);have s4:=fourB_size n;have HN:Hid ((n:Int)≤9223372036854775807):=by
  have:=of_decide_eq_true h1;show(n:Int)≤9223372036854775807;omega
 clear h ho hk h1 h2 hop hB;go_enter Tryz.func78,Tryz.ntmps78;go_wp2_with fail
 refine(cisPage n _).mono ?_;rintro e w1⟨rfl,hw⟩;rw[hw];clear hw;rw[HI.out];go_wp2_with fail
 refine(cframeAt _ _ (by omega) (by omega)).mono ?_;rintro e w2⟨rfl,hw⟩;rw[hw];clear hw;obtain⟨q,hq⟩:∃q,q=64+1028*((L.fr:Int)+1):=⟨_,rfl⟩;rw[←hq] at i1 ⊢;have j1:decide (67108864<q)=false:=decide_eq_false (by omega);clear hq i1;go_wp2_with fail
 go_region_with (first | (go_at_call 116;refine(cframeAt _ _ f0.out f1.out).mono ?_;rintro e w3⟨rfl,hw⟩;rw[hw];clear hw) | (go_at_call 132;refine(cfour n _).mono ?_;rintro e w4⟨rfl,hb4⟩;have HX4:Hid (Below X.heap.size X w4):=undrewB hb4;obtain⟨hc4,hf4⟩:=bcell HX4.out;clear hb4) | (go_at_call 113;refine(cwriteD 1 (64+1028*(L.fr:Int)) (fourB n++t) _ B D S k (HP.out.dsk.below HX4.out) (Nat.le_trans HB0.out HX4.out.size) HO.out.1 HO.out.2).mono ?_;rw[HOP.out];rintro e w5⟨rfl,hp5,hb5⟩))
 all_goals
  have HL5:Hid (PL w5 B D G bp bf m L S2):=(HP.out.below HX4.out).disk hb5 hp5;have HF5:Hid (BelL G bp bf B X w5):=(below_log HX4.out HB0.out G bp bf).trans (hb5.log G bp bf);clear hp5 hb5 HX4 hc4 hf4;by_cases hr:r=0
  ·subst hr;have hL5:=HL5.out.below ((Below.refl _ _).drew);obtain⟨Y,hrun,hMI,hgY⟩:=hL5.mf.put (by omega) (x:=(n:Int)) (v:=(L.fr:Int)) (i64_in (by omega) HN.out) (i64_in (by omega) (by omega));have HY:Hid (PL Y B D G bp bf (m+1) { L with fh:=updM L.fh n L.fr } S2):=hL5.fresh hgY hMI (by omega);have HFY:Hid (BelL G bp bf B X Y):=(HF5.out.trans (below_log ((Below.refl _ _).drew) (Nat.le_trans HB0.out HF5.out.size) G bp bf)).trans (grown_log hgY (Nat.le_trans HB0.out HF5.out.size) (.inr (.inr rfl)) HL5.out.low.2.2 (hL5.mf.far _));obtain⟨d0,d1,d2,d3,d4,d5,d6,d7⟩:=HL5.out.cells;obtain⟨y0,y1,y2,y3,y4,y5,y6,y7⟩:=HY.out.cells;have yf:=HY.out.unfrozen 5;have HZ:Hid (PL (Y.setCell ⟨G,5,none⟩ (.int .i64 ((L.fr:Int)+1))) B D G bp bf (m+1) { L with fh:=updM L.fh n L.fr,fr:=L.fr+1 } S2):=HY.out.own rfl rfl rfl;have HFZ:Hid (BelL G bp bf B X (Y.setCell ⟨G,5,none⟩ (.int .i64 ((L.fr:Int)+1)))):=HFY.out.trans (grown_log (set_grown _ _ _ _) (Nat.le_trans HB0.out HFY.out.size) (.inl rfl) HL5.out.low.1 HY.out.farG);clear d1 d2 d3 d4 y1 y2 y3 y4 hMI hgY hL5;go_wp2_with fail
   go_region
   all_goals
    go_wp2;go_ret;exact⟨rfl,HZ.out,HFZ.out⟩
  ·have hr':(r == 0)=false:=by simpa using hr
   go_wp2;go_ret;exact⟨rfl,HL5.out.mono,HF5.out⟩
theorem pg_nat {n:Int}(h:isPg n=true):∃k:Nat,n=k:=⟨n.toNat,by have:=of_decide_eq_true h;omega⟩
theorem cappend (n:Int)(t:ByteArray)(X:World)(B D G bp bf m k:Nat)(L:LS)(S:DS)(h:PL X B D G bp bf m L S)(hB:B≤X.heap.size)(hm:m≤900000)(ho:okS S k)(hk:k≤900000)(hf:L.fr≤65536):Calls Tryz.prog 78 #[(.pointer (some ⟨G,0,none⟩)),.int .i64 n,.string t] X fun e w'=>e=.returned (.int .i64 (apL L S n t).1)∧PL w' B D G bp bf (m+1) (apL L S n t).2.1 (apL L S n t).2.2∧BelL G bp bf B X w':=by
 by_cases h1:isPg n=true
 ·by_cases hs:t.size=1024
  ·by_cases h2:67108864<64+1028*(L.fr+1)
   ·have e9:apL L S n t=(8,L,S):=by unfold apL;rw[if_neg (fun h=>h ⟨h1,hs⟩),if_pos h2]
    rw[e9];obtain⟨c0,c1,c2,c3,c4,c5,c6,c7⟩:=h.cells;have HI:Hid (isPg n=true):=h1;have HM:Hid (PL X B D G bp bf (m+1) L S):=h.mono;have i1:(67108864:Int)<64+1028*((L.fr:Int)+1):=by omega
    clear h ho h1 h2 e9;go_enter Tryz.func78,Tryz.ntmps78;go_wp2_with fail
    refine(cisPage n _).mono ?_;rintro e w1⟨rfl,hw⟩;rw[hw];clear hw;rw[HI.out];go_wp2_with fail
    refine(cframeAt _ _ (by omega) (by omega)).mono ?_;rintro e w2⟨rfl,hw⟩;rw[hw];clear hw;obtain⟨q,hq⟩:∃q,q=64+1028*((L.fr:Int)+1):=⟨_,rfl⟩;rw[←hq] at i1 ⊢;have j1:decide (67108864<q)=true:=decide_eq_true i1;clear hq i1;go_wp2;go_ret;exact⟨rfl,HM.out,BelL.refl _ _ _ _ _⟩
   ·obtain⟨n,rfl⟩:=pg_nat h1;obtain⟨r,S2,hop⟩:∃r S2,opD S 1 (64+1028*(L.fr:Int)) (fourB n++t) false=(r,S2):=⟨_,_,rfl⟩;have e9:apL L S n t=(r,(if r=0 then{ L with fh:=updM L.fh n L.fr,fr:=L.fr+1 } else L),S2):=by
     unfold apL;rw[if_neg (fun h=>h ⟨h1,hs⟩),if_neg h2,Int.toNat_natCast,hop];by_cases hr:r=0
     ·subst hr;rfl
     ·rw[if_neg hr,if_neg hr]
    rw[e9];exact cappend0 n t X B D G bp bf m k L S h hB hm ho hk hf h1 hs h2 r S2 hop
  ·have e9:apL L S n t=(1,L,S):=by unfold apL;rw[if_pos (fun h=>hs h.2)]
   rw[e9];have HI:Hid (isPg n=true):=h1;have HM:Hid (PL X B D G bp bf (m+1) L S):=h.mono;have i2:(((t.size:Int)) != 1024)=true:=by
    have:¬((t.size:Int))=1024:=by omega
    simpa using this
   have i3:¬((t.size:Int))=1024:=by omega
   clear h ho h1 e9 hs;go_enter Tryz.func78,Tryz.ntmps78;go_wp2_with fail
   refine(cisPage n _).mono ?_;rintro e w1⟨rfl,hw⟩;rw[hw];clear hw;rw[HI.out];go_wp2;go_ret;exact⟨rfl,HM.out,BelL.refl _ _ _ _ _⟩
 ·have e9:apL L S n t=(1,L,S):=by unfold apL;rw[if_pos (fun h=>h1 h.1)]
  rw[e9];have hI:isPg n=false:=by simpa using h1
  have HI:Hid (isPg n=false):=hI;have HM:Hid (PL X B D G bp bf (m+1) L S):=h.mono;clear h ho h1 e9 hI;go_enter Tryz.func78,Tryz.ntmps78;go_wp2_with fail
  refine(cisPage n _).mono ?_;rintro e w1⟨rfl,hw⟩;rw[hw];clear hw;rw[HI.out];go_wp2;go_ret;exact⟨rfl,HM.out,BelL.refl _ _ _ _ _⟩
theorem far_of {T:TypeId→Bool}{cs:Array Value}{fz:Nat×Nat}(h:X.heap[b]?=some (.cells cs t fz))(ht:T t=false):farT T X b:=fun cur e f he=>by
 rw[h] at he;injection he with he;injection he with _ h2 _;rw[←h2];exact ht
theorem PL.told {L:LS}(h:PL X B D G bp bf n L S)(c:Cm)(f:Nat):PL (((((X.setCell ⟨G,1,none⟩ (.int .i64 c.slot)).setCell ⟨G,2,none⟩ (.int .i64 c.number)).setCell ⟨G,3,none⟩ (.int .i64 c.frames)).setCell ⟨G,4,none⟩ (.int .i64 c.pages)).setCell ⟨G,5,none⟩ (.int .i64 f)) B D G bp bf n { L with last:=c,fr:=f } S:=by
 have h1:PL (X.setCell ⟨G,1,none⟩ (.int .i64 c.slot)) B D G bp bf n { L with last:=⟨c.slot,L.last.number,L.last.frames,L.last.pages⟩} S:=h.own rfl rfl rfl;have h2:PL ((X.setCell ⟨G,1,none⟩ (.int .i64 c.slot)).setCell ⟨G,2,none⟩ (.int .i64 c.number)) B D G bp bf n { L with last:=⟨c.slot,c.number,L.last.frames,L.last.pages⟩} S:=h1.own rfl rfl rfl;have h3:PL (((X.setCell ⟨G,1,none⟩ (.int .i64 c.slot)).setCell ⟨G,2,none⟩ (.int .i64 c.number)).setCell ⟨G,3,none⟩ (.int .i64 c.frames)) B D G bp bf n { L with last:=⟨c.slot,c.number,c.frames,L.last.pages⟩} S:=h2.own rfl rfl rfl;have h4:PL ((((X.setCell ⟨G,1,none⟩ (.int .i64 c.slot)).setCell ⟨G,2,none⟩ (.int .i64 c.number)).setCell ⟨G,3,none⟩ (.int .i64 c.frames)).setCell ⟨G,4,none⟩ (.int .i64 c.pages)) B D G bp bf n { L with last:=c } S:=h3.own rfl rfl rfl;exact h4.own rfl rfl rfl
theorem told_log (X:World)(v1 v2 v3 v4 v5:Value)(hB:B≤X.heap.size)(hG:B≤G)(hf:farT tyP X G):BelL G bp bf B X (((((X.setCell ⟨G,1,none⟩ v1).setCell ⟨G,2,none⟩ v2).setCell ⟨G,3,none⟩ v3).setCell ⟨G,4,none⟩ v4).setCell ⟨G,5,none⟩ v5):=
 grown_log ((((((But.refl X (some G)).set 1 v1).set 2 v2).set 3 v3).set 4 v4).set 5 v5) hB (.inl rfl) hG hf
def flC (c:Cm)(fr pg:Nat):Cm:=⟨1-c.slot,nxN c.number,fr,pg⟩
def tlL (L:LS)(S:DS)(fr pg:Nat):Int×LS×DS:=
 if(opD S 1 (16+24*((1-L.last.slot:Nat):Int)) (txtB (nxN L.last.number) fr pg) false).1=0 then
  (if(synD (opD S 1 (16+24*((1-L.last.slot:Nat):Int)) (txtB (nxN L.last.number) fr pg) false).2 1).1=0 then(0,{ L with last:=flC L.last fr pg,fr:=fr },(synD (opD S 1 (16+24*((1-L.last.slot:Nat):Int)) (txtB (nxN L.last.number) fr pg) false).2 1).2)
   else((synD (opD S 1 (16+24*((1-L.last.slot:Nat):Int)) (txtB (nxN L.last.number) fr pg) false).2 1).1,L,(synD (opD S 1 (16+24*((1-L.last.slot:Nat):Int)) (txtB (nxN L.last.number) fr pg) false).2 1).2))
 else((opD S 1 (16+24*((1-L.last.slot:Nat):Int)) (txtB (nxN L.last.number) fr pg) false).1,L,(opD S 1 (16+24*((1-L.last.slot:Nat):Int)) (txtB (nxN L.last.number) fr pg) false).2)
theorem ctell (fr pg:Nat)(X:World)(B D G bp bf m k:Nat)(L:LS)(S:DS)(h:PL X B D G bp bf m L S)(hB:B≤X.heap.size)(ho:okS S k)(hk:k≤900000)(hc:okCm L.last)(r1 r2:Int)(S1 S2:DS)(h1:opD S 1 (16+24*((1-L.last.slot:Nat):Int)) (txtB (nxN L.last.number) fr pg) false=(r1,S1))(h2:synD S1 1=(r2,S2)):Calls Tryz.prog 80 #[(.pointer (some ⟨G,0,none⟩)),.int .i64 fr,.int .i64 pg] X fun e w'=>e=.returned (.int .i64 (if r1=0 then r2 else r1))∧PL w' B D G bp bf m (if r1=0∧r2=0 then{ L with last:=flC L.last fr pg,fr:=fr } else L) (if r1=0 then S2 else S1)∧BelL G bp bf B X w':=by
 obtain⟨c0,c1,c2,c3,c4,c5,c6,c7⟩:=h.cells;have HP:Hid (PL X B D G bp bf m L S):=h;have HB0:Hid (B≤X.heap.size):=hB;have HO:Hid (okS S k∧okS S1 (k+1)∧k+1≤1000000):=(⟨ho,by have:=opD_ok ho 1 (16+24*((1-L.last.slot:Nat):Int)) (txtB (nxN L.last.number) fr pg) false;rw[h1] at this;exact this,by omega⟩:okS S k∧okS S1 (k+1)∧k+1≤1000000);have HC:Hid _:=hc;have H1:Hid _:=h1;have H2:Hid _:=h2;clear h hB ho hk hc h1 h2;go_enter Tryz.func80,Tryz.ntmps80;go_wp2_with fail
 refine(cfollowing L.last.slot L.last.number L.last.frames L.last.pages fr pg _ HC.out.slot (Nat.le_trans HC.out.number (by decide))).mono ?_;rintro e w1⟨rfl,hb1⟩;have HL1:Hid (PL w1 B D G bp bf m L S):=HP.out.below hb1;have HX1:Hid (Below X.heap.size X w1):=hb1;clear hb1 c0 c1 c2 c3 c4 c5 c6 c7 HP;obtain⟨c0,c1,c2,c3,c4,c5,c6,c7⟩:=HL1.out.cells;have hG:G<w1.heap.size:=HL1.out.lt;obtain⟨sl,hsl⟩:∃sl:Nat,sl=1-L.last.slot:=⟨_,rfl⟩;have s0:Hid ((0:Int)≤(sl:Int)):=(by omega:(0:Int)≤(sl:Int));have s1:Hid ((sl:Int)≤1):=(by omega:(sl:Int)≤1);rw[←hsl] at H1 ⊢;have HSL:Hid _:=hsl;clear hsl;obtain⟨nn,hnn⟩:∃nn:Nat,nn=nxN L.last.number:=⟨_,rfl⟩;rw[←hnn] at H1 ⊢;have HNN:Hid _:=hnn;clear hnn;go_wp2_with fail
 go_region_with (first | (go_at_call 136;refine(cslotAt _ _ s0.out s1.out).mono ?_;rintro e w3⟨rfl,hw⟩;rw[hw];clear hw) | (go_at_call 114;refine(ctext sl nn fr pg _).mono ?_;rintro e w4⟨rfl,hb4⟩;have HY4:Hid (Below (w1.alloc (.cells #[.int .i64 sl,.int .i64 nn,.int .i64 fr,.int .i64 pg] 122)).heap.size (w1.alloc (.cells #[.int .i64 sl,.int .i64 nn,.int .i64 fr,.int .i64 pg] 122)) w4):=undrewB hb4;obtain⟨hc4,hf4⟩:=bcell HY4.out;clear hb4) | (go_at_call 113;have HX4:Hid (Below w1.heap.size w1 w4):=keepBelow ((Below.refl _ _).alloc (Nat.le_refl _) _) HY4.out;refine(cwriteD 1 (16+24*(sl:Int)) (txtB nn fr pg) _ B D S k (HL1.out.dsk.below HX4.out) (Nat.le_trans HB0.out (Nat.le_trans HX1.out.size HX4.out.size)) HO.out.1 (by have:=HO.out.2.2;omega)).mono ?_;rw[H1.out];rintro e w5⟨rfl,hp5,hb5⟩))
 all_goals
  have HL5:Hid (PL w5 B D G bp bf m L S1):=(HL1.out.below HX4.out).disk hb5 hp5;have HF5:Hid (BelL G bp bf B X w5):=(below_log HX1.out HB0.out G bp bf).trans ((below_log HX4.out (Nat.le_trans HB0.out HX1.out.size) G bp bf).trans (hb5.log G bp bf));have HC5:Hid (w5.heap[w1.heap.size]?=some (.cells #[.int .i64 sl,.int .i64 nn,.int .i64 fr,.int .i64 pg] 122 (0,0))):=by
   have e4:w4.heap[w1.heap.size]?=some (.cells #[.int .i64 sl,.int .i64 nn,.int .i64 fr,.int .i64 pg] 122 (0,0)):=(HY4.out.block _ (by simp)).trans (heap_alloc_new w1 _);exact(hb5.far _ (Array.getElem?_eq_some_iff.1 e4).1 (far_of e4 (by decide))).trans e4
  clear hp5 hb5 HX4 hc4 hf4 HY4 c0 c1 c2 c3 c4 c5 c6 c7;obtain⟨c0,c1,c2,c3,c4,c5,c6,c7⟩:=HL5.out.cells;by_cases hr:r1=0
  ·subst hr;go_wp2_with fail
   refine(csyncD 1 _ B D S1 (k+1) HL5.out.dsk (Nat.le_trans HB0.out HF5.out.size) HO.out.2.1 HO.out.2.2).mono ?_;rw[H2.out];rintro e w6⟨rfl,hp6,hb6⟩;have HL6:Hid (PL w6 B D G bp bf m L S2):=HL5.out.disk hb6 hp6;have HF6:Hid (BelL G bp bf B X w6):=HF5.out.trans (hb6.log G bp bf);have hC6:w6.heap[w1.heap.size]?=some (.cells #[.int .i64 sl,.int .i64 nn,.int .i64 fr,.int .i64 pg] 122 (0,0)):=(hb6.far _ (Array.getElem?_eq_some_iff.1 HC5.out).1 (far_of HC5.out (by decide))).trans HC5.out;clear hp6 hb6 HC5 HL5 HF5 c0 c1 c2 c3 c4 c5 c6 c7;obtain⟨c0,c1,c2,c3,c4,c5,c6,c7⟩:=HL6.out.cells;obtain⟨⟨b0,b1,b2,b3⟩,-,lb⟩:=wcell4 hC6;clear hC6;by_cases hr2:r2=0
   ·subst hr2;have f1:=HL6.out.unfrozen 1;have f2:=HL6.out.unfrozen 2;have f3:=HL6.out.unfrozen 3;have f4:=HL6.out.unfrozen 4;have f5:=HL6.out.unfrozen 5;have HE:Hid (flC L.last fr pg=⟨sl,nn,fr,pg⟩):=by
     show flC L.last fr pg=⟨sl,nn,fr,pg⟩;rw[HSL.out,HNN.out];rfl
    go_wp2;go_ret;exact⟨rfl,by rw[HE.out];exact HL6.out.told ⟨sl,nn,fr,pg⟩ fr,HF6.out.trans (told_log w6 _ _ _ _ _ (Nat.le_trans HB0.out HF6.out.size) HL6.out.low.1 HL6.out.farG)⟩
   ·have hr':(r2 == 0)=false:=by simpa using hr2
    go_wp2;go_ret;exact⟨rfl,by simpa using HL6.out,HF6.out⟩
  ·have hr':(r1 == 0)=false:=by simpa using hr
   go_wp2;go_ret;exact⟨rfl,by simpa using HL5.out,HF5.out⟩
open Go.Maps
theorem ctellL (fr pg:Nat)(X:World)(B D G bp bf m k:Nat)(L:LS)(S:DS)(h:PL X B D G bp bf m L S)(hB:B≤X.heap.size)(ho:okS S k)(hk:k≤900000)(hc:okCm L.last):Calls Tryz.prog 80 #[(.pointer (some ⟨G,0,none⟩)),.int .i64 fr,.int .i64 pg] X fun e w'=>e=.returned (.int .i64 (tlL L S fr pg).1)∧PL w' B D G bp bf m (tlL L S fr pg).2.1 (tlL L S fr pg).2.2∧BelL G bp bf B X w':=by
 obtain⟨r1,S1,h1⟩:∃r S2,opD S 1 (16+24*((1-L.last.slot:Nat):Int)) (txtB (nxN L.last.number) fr pg) false=(r,S2):=⟨_,_,rfl⟩;obtain⟨r2,S2,h2⟩:∃r S2,synD S1 1=(r,S2):=⟨_,_,rfl⟩;have e:tlL L S fr pg=(if r1=0 then r2 else r1,(if r1=0∧r2=0 then{ L with last:=flC L.last fr pg,fr:=fr } else L),(if r1=0 then S2 else S1)):=by
  unfold tlL;rw[h1];show(if r1=0 then(if(synD S1 1).1=0 then _ else _) else _)=_;rw[h2];by_cases a:r1=0
  ·rw[if_pos a,if_pos a,if_pos a];by_cases b:r2=0
   ·rw[if_pos b,if_pos ⟨a,b⟩,b]
   ·rw[if_neg b,if_neg (fun h=>b h.2)]
  ·rw[if_neg a,if_neg a,if_neg a,if_neg (fun h=>a h.1)]
 rw[e];exact ctell fr pg X B D G bp bf m k L S h hB ho hk hc r1 r2 S1 S2 h1 h2
theorem apL_last (L:LS)(S:DS)(n:Int)(t:ByteArray):(apL L S n t).2.1.last=L.last:=by
 unfold apL;split
 ·rfl
 ·split
  ·rfl
  ·split<;>rfl
theorem apL_ok {L:LS}(h:okS S k)(n:Int)(t:ByteArray):okS (apL L S n t).2.2 (k+1):=by
 unfold apL;split
 ·exact h.mono (Nat.le_succ _)
 ·split
  ·exact h.mono (Nat.le_succ _)
  ·split<;>exact opD_ok h _ _ _ _
theorem tlL_ok {L:LS}(h:okS S k)(fr pg:Nat):okS (tlL L S fr pg).2.2 (k+2):=by
 unfold tlL;split
 ·split<;>exact synD_ok (opD_ok h _ _ _ _) _
 ·exact(opD_ok h _ _ _ _).mono (Nat.le_succ _)
theorem tlL_maps (L:LS)(S:DS)(fr pg:Nat):(tlL L S fr pg).2.1.pl=L.pl∧(tlL L S fr pg).2.1.fh=L.fh:=by
 unfold tlL;split
 ·split<;>exact⟨rfl,rfl⟩
 ·exact⟨rfl,rfl⟩
def mrg (pl fh:Int→Option Int):Int→Option Int:=fun x=>match fh x with | some v=>some v | none=>pl x
def mrgL (pl fh:Int→Option Int)(left:Lit→Bool):Int→Option Int:=fun x=>if left (.int .i64 x)=true then pl x else mrg pl fh x
def cmL (L:LS)(S:DS)(n:Int)(t:ByteArray)(pg:Int):Int×LS×DS:=
 if ¬(1≤pg∧pg≤65536) then(1,L,S)
 else if ¬(apL L S n t).1=0 then apL L S n t
 else if ¬(synD (apL L S n t).2.2 1).1=0 then((synD (apL L S n t).2.2 1).1,(apL L S n t).2.1,(synD (apL L S n t).2.2 1).2)
 else if ¬(tlL (apL L S n t).2.1 (synD (apL L S n t).2.2 1).2 (apL L S n t).2.1.fr pg.toNat).1=0 then tlL (apL L S n t).2.1 (synD (apL L S n t).2.2 1).2 (apL L S n t).2.1.fr pg.toNat
 else(0,{ (tlL (apL L S n t).2.1 (synD (apL L S n t).2.2 1).2 (apL L S n t).2.1.fr pg.toNat).2.1 with pl:=mrg L.pl (apL L S n t).2.1.fh,fh:=fun _=>none },(tlL (apL L S n t).2.1 (synD (apL L S n t).2.2 1).2 (apL L S n t).2.1.fr pg.toNat).2.2)
theorem BelL.none (h:BelL G bp bf B X Y)(hB:B≤X.heap.size)(hg:Y.grownBy Z none):BelL G bp bf B X Z:=
 h.trans (below_log ⟨hg.os,hg.tape,hg.output,hg.size,fun b hb=>hg.block b hb (by simp)⟩ (Nat.le_trans hB h.size) G bp bf)
theorem BelL.newer (h:BelL G bp bf B X Y)(hB:B≤X.heap.size)(hg:Y.grownBy Z (some r))(hr:X.heap.size≤r):BelL G bp bf B X Z:=
 ⟨⟨hg.os.trans h.os,hg.tape.trans h.tape,hg.output.trans h.output,Nat.le_trans h.size hg.size,fun b hb=>(hg.block b (Nat.lt_of_lt_of_le (Nat.lt_of_lt_of_le hb hB) h.size) (fun e=>by injection e with e;omega)).trans (h.block b hb)⟩,
  fun b hb hf h1 h2 h3=>(hg.block b (Nat.lt_of_lt_of_le hb h.size) (fun e=>by injection e with e;omega)).trans (h.far b hb hf h1 h2 h3),h.u.newer hg hr h.size⟩
theorem PL.kept {L:LS}(h:PL X B D G bp bf n L S)(hg:X.grownBy Y (some r))(h1:¬r=G)(h2:¬r=bp)(h3:¬r=bf)(hf:farT tyP X r):PL Y B D G bp bf n L S:=
 ⟨(hg.block G h.lt (fun e=>by injection e with e;exact h1 e.symm)).trans h.blk,h.low,h.dif,h.mp.keep (hg.block _ h.mp.lt (fun e=>by injection e with e;exact h2 e.symm)),h.mf.keep (hg.block _ h.mf.lt (fun e=>by injection e with e;exact h3 e.symm)),h.dsk.grown hg hf⟩
theorem MI.congr {F':Int→Option Int}(h:MI X b n F)(he:∀x,i64 x→F' x=F x):MI X b n F':=by
 obtain⟨D,ho,k⟩:=h;exact⟨D,ho,fun x hx=>by rw[he x hx];exact k x hx⟩
theorem PL.congr {L:LS}(h:PL X B D G bp bf n L S)(he:∀x,i64 x→F x=L.pl x):PL X B D G bp bf n { L with pl:=F } S:=
 ⟨h.blk,h.low,h.dif,h.mp.congr he,h.mf,h.dsk⟩
theorem PL.places {L:LS}(h:PL X B D G bp bf n L S)(hg:X.grownBy Y (some bp))(hF:MI Y bp m F)(hm:n≤m):PL Y B D G bp bf m { L with pl:=F } S:=by
 obtain⟨n1,n2,n3,n4,n5⟩:=h.ne;refine⟨(hg.block G h.lt (fun e=>?_)).trans h.blk,h.low,h.dif,hF,(h.mf.keep (hg.block _ h.mf.lt (fun e=>?_))).mono hm,h.dsk.grown hg (h.mp.far _)⟩
 ·injection e with e;exact n1 e.symm
 ·injection e with e;exact h.dif e.symm
theorem iter_far {P:Program}{k:TypeId}{R:Value→Option (DataW Unit×List MemPlace)}{D:DataW Unit}(h:w.ranges P k R b r n D left cnt)(T:TypeId→Bool):farT T w r∧(∀es c,¬w.heap[r]?=some (.map es c))∧(∀cs t f,¬w.heap[r]?=some (.cells cs t f)):=by
 obtain⟨es,clock,since,seen,c0,-,-,-,-,hr,-⟩:=h;refine⟨fun cur e fz he=>?_,fun es c he=>?_,fun cs t f he=>?_⟩<;>(rw[hr] at he;cases he)
theorem PL.iter {N:Nat}{L:LS}(h:PL X B D G bp bf n L S){DF:DataW Unit}(hr:X.ranges Tryz.prog 3 (plainElem Tryz.prog 3) bf r N DF left cnt):¬r=G∧¬r=bp∧¬r=bf:=by
 obtain⟨-,h1,h2⟩:=iter_far hr tyP;obtain⟨e1,c1,m1⟩:=h.mp.isMap;obtain⟨e2,c2,m2⟩:=h.mf.isMap;exact⟨fun e=>by subst e;exact h2 _ _ _ h.blk,fun e=>by subst e;exact h1 _ _ m1,fun e=>by subst e;exact h1 _ _ m2⟩
theorem mrg_step {pl fh:Int→Option Int}{x c:Int}(hx:fh x=some c)(y:Int):mrgL pl fh (fun z=>left z && !z.sameKey (.int .i64 x)) y=updM (mrgL pl fh left) x c y:=by
 unfold updM mrgL mrg;by_cases e:y=x
 ·subst e;rw[if_pos rfl,if_neg (by simp[Lit.sameKey]),hx]
 ·rw[if_neg e];have:(Lit.int .i64 y).sameKey (.int .i64 x)=false:=sameKey_ne (fun h=>by injection h with _ h;exact e h);show(if(left (.int .i64 y) && !(Lit.int .i64 y).sameKey (.int .i64 x))=true then pl y else _)=_;rw[this,Bool.not_false,Bool.and_true]
theorem PL.none {L:LS}(h:PL X B D G bp bf n L S)(hg:X.grownBy Y none):PL Y B D G bp bf n L S:=h.below ⟨hg.os,hg.tape,hg.output,hg.size,fun b hb=>hg.block b hb (by simp)⟩
theorem ccommit0 (n:Int)(t:ByteArray)(pg:Nat)(X:World)(B D G bp bf m k:Nat)(L:LS)(S:DS)(h:PL X B D G bp bf m L S)(hB:B≤X.heap.size)(hm:m≤400000)(ho:okS S k)(hk:k≤800000)(hf:L.fr≤65535)(hc:okCm L.last)(p1:1≤pg)(p2:pg≤65536)(r0 r1 r2:Int)(L0 L2:LS)(S0 S1 S2:DS)(h0:apL L S n t=(r0,L0,S0))(h1:synD S0 1=(r1,S1))(h2:tlL L0 S1 L0.fr pg=(r2,L2,S2)):Calls Tryz.prog 35 #[(.pointer (some ⟨G,0,none⟩)),.int .i64 n,.string t,.int .i64 pg] X fun e w'=>e=.returned (.int .i64 (if r0=0 then(if r1=0 then r2 else r1) else r0))∧PL w' B D G bp bf (m+m+2) (if r0=0 then(if r1=0 then(if r2=0 then{ L2 with pl:=mrg L0.pl L0.fh,fh:=fun _=>none } else L2) else L0) else L0) (if r0=0 then(if r1=0 then S2 else S1) else S0)∧BelL G bp bf B X w':=by
 have o0:okS S0 (k+1):=by have:=apL_ok (L:=L) ho n t;rw[h0] at this;exact this
 have o1:okS S1 (k+2):=by have:=synD_ok o0 1;rw[h1] at this;exact this
 have l0:okCm L0.last:=by have:=apL_last L S n t;rw[h0] at this;rw[show L0.last=L.last from this];exact hc
 have C0:Hid (∀W,PL W B D G bp bf m L S→B≤W.heap.size→Calls Tryz.prog 78 #[(.pointer (some ⟨G,0,none⟩)),.int .i64 n,.string t] W fun e w'=>e=.returned (.int .i64 r0)∧PL w' B D G bp bf (m+1) L0 S0∧BelL G bp bf B W w'):=fun W hW hBW=>by
  have:=cappend n t W B D G bp bf m k L S hW hBW (by omega) ho (by omega) (by omega);rw[h0] at this;exact this
 have C1:Hid (∀W,PDs W B D S0→B≤W.heap.size→Calls Tryz.prog 79 #[(.pointer (some ⟨D,0,none⟩)),.int .i64 1] W fun e w'=>e=.returned (.int .i64 r1)∧PDs w' B D S1∧BelT tyP B W w'):=fun W hW hBW=>by
  have:=csyncD 1 W B D S0 (k+1) hW hBW o0 (by omega);rw[h1] at this;exact this
 have C2:Hid (∀W,PL W B D G bp bf (m+1) L0 S1→B≤W.heap.size→Calls Tryz.prog 80 #[(.pointer (some ⟨G,0,none⟩)),.int .i64 L0.fr,.int .i64 pg] W fun e w'=>e=.returned (.int .i64 r2)∧PL w' B D G bp bf (m+1) L2 S2∧BelL G bp bf B W w'):=fun W hW hBW=>by
  have:=ctellL L0.fr pg W B D G bp bf (m+1) (k+2) L0 S1 hW hBW o1 (by omega) l0;rw[h2] at this;exact this
 have M2:Hid (L2.pl=L0.pl∧L2.fh=L0.fh):=by have:=tlL_maps L0 S1 L0.fr pg;rw[h2] at this;exact this
 have HP:Hid (PL X B D G bp bf m L S):=h;have HB0:Hid (B≤X.heap.size):=hB;have q1:(1:Int)≤(pg:Int):=by omega
 have q2:(pg:Int)≤65536:=by omega
 clear h hB ho hk hc h0 h1 h2 o0 o1 l0 hf p1 p2;go_enter Tryz.func35,Tryz.ntmps35;go_wp2_with fail
 refine(C0.out _ HP.out HB0.out).mono ?_;rintro e w1⟨rfl,hp1,hb1⟩;have HL1:Hid _:=hp1;have HF1:Hid _:=hb1;clear hp1 hb1;by_cases hr0:r0=0
 ·subst hr0;obtain⟨c0,c1,c2,c3,c4,c5,c6,c7⟩:=HL1.out.cells;clear c1 c2 c3 c4 c6 c7;go_wp2_with fail
  refine(C1.out _ HL1.out.dsk (Nat.le_trans HB0.out HF1.out.size)).mono ?_;rintro e w2⟨rfl,hp2,hb2⟩;have HL2:Hid (PL w2 B D G bp bf (m+1) L0 S1):=HL1.out.disk hb2 hp2;have HF2:Hid (BelL G bp bf B X w2):=HF1.out.trans (hb2.log G bp bf);clear hp2 hb2 c0 c5;by_cases hr1:r1=0
  ·subst hr1;obtain⟨c0,c1,c2,c3,c4,c5,c6,c7⟩:=HL2.out.cells;clear c1 c2 c3 c4 c6 c7;go_wp2_with fail
   refine(C2.out _ HL2.out (Nat.le_trans HB0.out HF2.out.size)).mono ?_;rintro e w3⟨rfl,hp3,hb3⟩;have HL3:Hid _:=hp3;have HF3:Hid (BelL G bp bf B X w3):=HF2.out.trans hb3;clear hp3 hb3 c0 c5;by_cases hr2:r2=0
   ·subst hr2;obtain⟨c0,c1,c2,c3,c4,c5,c6,c7⟩:=HL3.out.cells;obtain⟨DF,hown,HK⟩:=HL3.out.mf;have HKK:Hid _:=HK;clear HK c1 c2 c3 c4 c5 c0;go_wp2_with (first
     | (at_range;refine wpList_range_own _ rfl _ 125 rfl 3 3 lawI Tryz.underlying125 _ bf (m+1) _ rfl hown ?_;intro w4 hrg4 hg4 hs4)
     | go_in)
    go_frame
    have hsz:=hown.size_le;have HL4:Hid (PL w4 B D G bp bf (m+1) L2 S2):=HL3.out.none hg4;have HF4:Hid (BelL G bp bf B X w4):=HF3.out.none HB0.out hg4;have hr3:Hid (X.heap.size≤w3.heap.size):=HF3.out.size;clear c6 c7 hg4 hs4
    go_loopw [12] (fun _ wr=>∃(left:Lit→Bool) (cnt N:Nat),wr.ranges Tryz.prog 3 (plainElem Tryz.prog 3) bf w3.heap.size (m+1) DF left cnt∧N+cnt≤m+m+2∧Hid (∀x,i64 x→left (.int .i64 x)=true→Maps.has DF (.int .i64 x)=true)∧Hid (PL wr B D G bp bf N { L2 with pl:=mrgL L0.pl L0.fh left } S2)∧Hid (BelL G bp bf B X wr)) (fun _ wr=>wr.rangeLeft bf w3.heap.size)
    case atStart =>
     refine⟨_,_,m+1,hrg4,by omega,fun x _ h=>h,?_,HF4⟩;refine HL4.out.congr (fun x hx=>?_);have k:=(HKK.out x hx).1;rw[M2.out.2] at k;unfold mrgL mrg;rw[M2.out.1];cases hF:L0.fh x with
     | none=>split<;>rfl
     | some v=>rw[k,hF];rfl
    case round =>
     obtain⟨left,cnt,N,hrg,hN,HLF,HLr,HFr⟩:=hrel;obtain⟨nG,nP,nF⟩:=HLr.out.iter hrg;have hfar:=(iter_far hrg tyP).1;go_wp2_with (first
      | (at_next;refine wpList_next_ranges_ii _ rfl _ rfl 3 3 .i64 .i64 lawI Tryz.underlying3 Tryz.underlying3 bf w3.heap.size (m+1) _ _ _ rfl hrg ?_ ?_)
      | go_in)
     ·intro hc0 hl0;obtain⟨c0,c1,c2,c3,c4,c5,c6,c7⟩:=HLr.out.cells;clear c0 c1 c2 c3 c4 c5;obtain⟨Y,hrun,hMI,hgY⟩:=HLr.out.mf.clear 0;have HY:Hid (PL Y B D G bp bf (m+m+2) { L2 with pl:=mrg L0.pl L0.fh,fh:=fun _=>none } S2):=((HLr.out.fresh hgY (hMI.mono (Nat.zero_le _)) (Nat.le_refl _)).congr (F:=mrg L0.pl L0.fh) (fun x _=>by show _=mrgL _ _ _ x;unfold mrgL;rw[if_neg (by rw[hl0];decide)])).mono;have HFY:Hid (BelL G bp bf B X Y):=HFr.out.trans (grown_log hgY (Nat.le_trans HB0.out HFr.out.size) (.inr (.inr rfl)) HLr.out.low.2.2 (HLr.out.mf.far _));clear hMI hgY;go_wp2;go_ret;exact⟨rfl,HY.out,HFY.out⟩
     ·intro x c w5 cnt1 hwx hwc hlx hat hrg1 hlt hg1 hs1 hen;have HL5:Hid (PL w5 B D G bp bf N { L2 with pl:=mrgL L0.pl L0.fh left } S2):=HLr.out.kept hg1 nG nP nF hfar;have HF5:Hid (BelL G bp bf B X w5):=HFr.out.newer HB0.out hg1 hr3.out;obtain⟨c0,c1,c2,c3,c4,c5,c6,c7⟩:=HL5.out.cells;clear c0 c1 c2 c3 c4 c5 c7;obtain⟨Y,hrun,hMI,hgY⟩:=HL5.out.mp.put (by omega) (x:=x) (v:=c) hwx hwc;have HX:Hid (L0.fh x=some c):=by
       show L0.fh x=some c;have k:=HKK.out x hwx;rw[M2.out.2] at k;rw[HLF.out x hwx hlx] at k;cases hF:L0.fh x with
       | none=>rw[hF] at k;cases k.1
       | some v =>
        have:=(k.2 v hF .nil).symm.trans (hat .nil);simp at this;rw[this]
      have HY:Hid (PL Y B D G bp bf (N+1) { L2 with pl:=mrgL L0.pl L0.fh (fun z=>left z && !z.sameKey (.int .i64 x))} S2):=(HL5.out.places hgY hMI (by omega)).congr (fun y _=>mrg_step HX.out y);have HFY:Hid (BelL G bp bf B X Y):=HF5.out.trans (grown_log hgY (Nat.le_trans HB0.out HF5.out.size) (.inr (.inl rfl)) HL5.out.low.2.1 (HL5.out.mp.far _));have hrg2:=hrg1.kept hgY (fun e=>by injection e with e;exact HLr.out.dif e.symm) (fun e=>by injection e with e;exact nP e);clear hMI hgY;go_wp2
      go_roundw
      case rel=>exact⟨_,cnt1,N+1,hrg2,by omega,fun y hy h=>HLF.out y hy (by simp at h;exact h.1),HY,HFY⟩
      case measure=>rw[hrg2.left_eq,hrg.left_eq];exact hlt
   ·have hr':(r2 == 0)=false:=by simpa using hr2
    go_wp2;go_ret;exact⟨rfl,HL3.out.mono,HF3.out⟩
  ·have hr':(r1 == 0)=false:=by simpa using hr1
   go_wp2;go_ret;exact⟨rfl,HL2.out.mono,HF2.out⟩
 ·have hr':(r0 == 0)=false:=by simpa using hr0
  go_wp2;go_ret;exact⟨rfl,HL1.out.mono,HF1.out⟩
theorem ccommit (n:Int)(t:ByteArray)(pg:Int)(X:World)(B D G bp bf m k:Nat)(L:LS)(S:DS)(h:PL X B D G bp bf m L S)(hB:B≤X.heap.size)(hm:m≤400000)(ho:okS S k)(hk:k≤800000)(hf:L.fr≤65535)(hc:okCm L.last):Calls Tryz.prog 35 #[(.pointer (some ⟨G,0,none⟩)),.int .i64 n,.string t,.int .i64 pg] X fun e w'=>e=.returned (.int .i64 (cmL L S n t pg).1)∧PL w' B D G bp bf (m+m+2) (cmL L S n t pg).2.1 (cmL L S n t pg).2.2∧BelL G bp bf B X w':=by
 by_cases hp:1≤pg∧pg≤65536
 ·obtain⟨pn,rfl⟩:∃k:Nat,pg=k:=⟨pg.toNat,by omega⟩;obtain⟨r0,L0,S0,h0⟩:∃r a b,apL L S n t=(r,a,b):=⟨_,_,_,rfl⟩;obtain⟨r1,S1,h1⟩:∃r a,synD S0 1=(r,a):=⟨_,_,rfl⟩;obtain⟨r2,L2,S2,h2⟩:∃r a b,tlL L0 S1 L0.fr pn=(r,a,b):=⟨_,_,_,rfl⟩;have lp:L0.pl=L.pl:=by
   have e:(apL L S n t).2.1.pl=L.pl:=by
    unfold apL;split
    ·rfl
    ·split
     ·rfl
     ·split<;>rfl
   rw[h0] at e;exact e
  have e:cmL L S n t pn=(if r0=0 then(if r1=0 then r2 else r1) else r0,(if r0=0 then(if r1=0 then(if r2=0 then{ L2 with pl:=mrg L0.pl L0.fh,fh:=fun _=>none } else L2) else L0) else L0),(if r0=0 then(if r1=0 then S2 else S1) else S0)):=by
   unfold cmL;rw[if_neg (fun h=>h hp),h0];by_cases a:r0=0
   ·rw[if_neg (fun h=>h a)];show(if ¬(synD S0 1).1=0 then _ else _)=_;rw[h1];by_cases b:r1=0
    ·rw[if_neg (fun h=>h b)];show(if ¬(tlL L0 S1 L0.fr (pn:Int).toNat).1=0 then _ else _)=_;rw[Int.toNat_natCast,h2,if_pos a,if_pos b,if_pos a,if_pos b,if_pos a,if_pos b,lp];by_cases c:r2=0
     ·rw[if_neg (fun h=>h c),if_pos c,c]
     ·rw[if_pos c,if_neg c]
    ·rw[if_pos b,if_pos a,if_neg b,if_pos a,if_neg b,if_pos a,if_neg b]
   ·rw[if_pos a,if_neg a,if_neg a,if_neg a]
  rw[e];exact ccommit0 n t pn X B D G bp bf m k L S h hB hm ho hk hf hc (by omega) (by omega) r0 r1 r2 L0 L2 S0 S1 S2 h0 h1 h2
 ·have e9:cmL L S n t pg=(1,L,S):=if_pos hp;rw[e9];have HM:Hid (PL X B D G bp bf (m+m+2) L S):=h.mono;clear h ho e9;by_cases p1:pg<1
  ·go_enter Tryz.func35,Tryz.ntmps35;go_wp2;go_ret;exact⟨rfl,HM.out,BelL.refl _ _ _ _ _⟩
  ·have p2:65536<pg:=by omega
   have p3:decide (pg<1)=false:=decide_eq_false p1;go_enter Tryz.func35,Tryz.ntmps35;go_wp2;go_ret;exact⟨rfl,HM.out,BelL.refl _ _ _ _ _⟩
theorem PDs.len (h:PDs X B D S)(i:Nat)(hi:i<4):(S.lb i).length≤67108864:=by obtain⟨vb,vw,h⟩:=h;exact h.size i hi
def okM (F:Int→Option Int):Prop:=∀x v,F x=some v→0≤v∧v≤1000000
theorem cframed0 (v:Int)(X:World)(B D G bp bf m:Nat)(L:LS)(S:DS)(h:PL X B D G bp bf m L S)(v0:0≤v)(v1:v≤1000000)(q:ByteArray)(r:Int)(hR:∀W,PDs W B D S→Calls Tryz.prog 68 #[(.pointer (some ⟨D,0,none⟩)),.int .i64 1,.int .i64 (64+1028*v+4),.int .i64 1024] W fun e w'=>e=.returned (.tuple #[.string q,.int .i64 r])∧w'=W):Calls Tryz.prog 66 #[(.pointer (some ⟨G,0,none⟩)),.int .i64 v] X fun e w'=>e=.returned (.tuple #[.string q,.int .i64 r])∧Below X.heap.size X w':=by
 obtain⟨c0,c1,c2,c3,c4,c5,c6,c7⟩:=h.cells;have HP:Hid (PDs X B D S):=h.dsk;have HR:Hid _:=hR;have V0:Hid (0≤v∧v≤4294967296):=(⟨v0,by omega⟩:0≤v∧v≤4294967296);have hw1:IntKind.i64.wrap (64+1028*v+4)=64+1028*v+4:=by rw[IntKind.wrap_i64];omega
 clear c1 c2 c3 c4 c5 c6 c7 h hR v0 v1;obtain⟨z,hz⟩:∃z,z=64+1028*v:=⟨_,rfl⟩;have HFA:Hid (∀W,Calls Tryz.prog 116 #[.int .i64 v] W fun e w'=>e=.returned (.int .i64 z)∧w'=W):=fun W=>by rw[hz];exact cframeAt v W V0.out.1 V0.out.2
 rw[←hz] at hw1 HR;clear hz;go_enter Tryz.func66,Tryz.ntmps66;go_wp2_with fail
 go_region_with (first | (go_at_call 116;refine(HFA.out _).mono ?_;rintro e w3⟨rfl,hw⟩;rw[hw];clear hw) | (go_at_call 68;refine(HR.out _ (HP.out.below ((Below.refl _ _).drew))).mono ?_;rintro e w4⟨rfl,hw⟩;rw[hw];clear hw))
 all_goals
  go_wp2
  go_ret2
  exact⟨rfl,(Below.refl _ _).drew⟩
theorem cframed (v:Int)(X:World)(B D G bp bf m:Nat)(L:LS)(S:DS)(h:PL X B D G bp bf m L S)(v0:0≤v)(v1:v≤1000000):Calls Tryz.prog 66 #[(.pointer (some ⟨G,0,none⟩)),.int .i64 v] X fun e w'=>e=.returned (.tuple #[.string (rdS 1 (64+1028*v+4) 1024 S.lb S.down),.int .i64 (rdE 1 (64+1028*v+4) 1024 S.lb S.down)])∧Below X.heap.size X w':=
 cframed0 v X B D G bp bf m L S h v0 v1 _ _ (fun W hW=>creadD 1 (64+1028*v+4) 1024 W B D S hW)
def rdF (S:DS)(v:Int):ByteArray×Int:=(rdS 1 (64+1028*v+4) 1024 S.lb S.down,rdE 1 (64+1028*v+4) 1024 S.lb S.down)
def rdL (L:LS)(S:DS)(n:Int):ByteArray×Int:=
 if ¬isPg n=true then(⟨#[]⟩,1)
 else match L.fh n with
  | some v=>rdF S v
  | none => match L.pl n with
   | some v=>rdF S v
   | none=>if S.down then(⟨#[]⟩,2) else if((S.lb 0).length:Int)/1024≤n then(⟨#[]⟩,7) else(rdS 0 (1024*n) 1024 S.lb S.down,rdE 0 (1024*n) 1024 S.lb S.down)
theorem creadL (n:Int)(X:World)(B D G bp bf m:Nat)(L:LS)(S:DS)(h:PL X B D G bp bf m L S)(hp:okM L.pl)(hf:okM L.fh):Calls Tryz.prog 27 #[(.pointer (some ⟨G,0,none⟩)),.int .i64 n] X fun e w'=>e=.returned (.tuple #[.string (rdL L S n).1,.int .i64 (rdL L S n).2])∧Below X.heap.size X w':=by
 by_cases h1:isPg n=true
 ·have hn:=of_decide_eq_true h1;have i64n:i64 n:=i64_in (by omega) (by omega);have kf:=h.mf.look i64n;have kp:=h.mp.look i64n;have HI:Hid (isPg n=true):=h1;have HPL:Hid (PL X B D G bp bf m L S):=h;obtain⟨c0,c1,c2,c3,c4,c5,c6,c7⟩:=h.cells;clear c1 c2 c3 c4 c5;cases hF:L.fh n with
  | some v =>
   have HE:Hid (rdL L S n=rdF S v):=by
    show rdL L S n=rdF S v;unfold rdL;rw[if_neg (fun h=>h h1),hF]
   have HV:Hid (0≤v∧v≤1000000):=hf n v hF;rw[hF] at kf;have kf':(Instr.lookup 125 (.map (some bf)) (.int .i64 n) true).run Tryz.prog X=.ok (.tuple #[.int .i64 v,.bool true]) X:=kf;clear kf kp hF h h1 hp hf;obtain⟨q,r,hqr⟩:∃q r,rdF S v=(q,r):=⟨_,_,rfl⟩;have HC:Hid (∀W,PL W B D G bp bf m L S→Calls Tryz.prog 66 #[(.pointer (some ⟨G,0,none⟩)),.int .i64 v] W fun e w'=>e=.returned (.tuple #[.string q,.int .i64 r])∧Below W.heap.size W w'):=fun W hW=>by
    have:=cframed v W B D G bp bf m L S hW HV.out.1 HV.out.2;have e1:rdS 1 (64+1028*v+4) 1024 S.lb S.down=q:=congrArg Prod.fst hqr;have e2:rdE 1 (64+1028*v+4) 1024 S.lb S.down=r:=congrArg Prod.snd hqr;rw[e1,e2] at this;exact this
   rw[HE.out,hqr];clear hqr HE;go_enter Tryz.func27,Tryz.ntmps27;go_wp2_with fail
   refine(cisPage n _).mono ?_;rintro e w1⟨rfl,hw⟩;rw[hw];clear hw;rw[HI.out];go_wp2_with fail
   refine(HC.out _ HPL.out).mono ?_;rintro e w2⟨rfl,hb2⟩;go_wp2
   go_ret2
   exact⟨rfl,hb2⟩
  | none =>
   rw[hF] at kf;have kf':(Instr.lookup 125 (.map (some bf)) (.int .i64 n) true).run Tryz.prog X=.ok (.tuple #[.int .i64 0,.bool false]) X:=kf;cases hQ:L.pl n with
   | some v =>
    have HE:Hid (rdL L S n=rdF S v):=by
     show rdL L S n=rdF S v;unfold rdL;rw[if_neg (fun h=>h h1),hF];show(match L.pl n with | some v=>rdF S v | none=>_)=_;rw[hQ]
    have HV:Hid (0≤v∧v≤1000000):=hp n v hQ;rw[hQ] at kp;have kp':(Instr.lookup 125 (.map (some bp)) (.int .i64 n) true).run Tryz.prog X=.ok (.tuple #[.int .i64 v,.bool true]) X:=kp;clear kf kp hF hQ h h1 hp hf;obtain⟨q,r,hqr⟩:∃q r,rdF S v=(q,r):=⟨_,_,rfl⟩;have HC:Hid (∀W,PL W B D G bp bf m L S→Calls Tryz.prog 66 #[(.pointer (some ⟨G,0,none⟩)),.int .i64 v] W fun e w'=>e=.returned (.tuple #[.string q,.int .i64 r])∧Below W.heap.size W w'):=fun W hW=>by
     have:=cframed v W B D G bp bf m L S hW HV.out.1 HV.out.2;have e1:rdS 1 (64+1028*v+4) 1024 S.lb S.down=q:=congrArg Prod.fst hqr;have e2:rdE 1 (64+1028*v+4) 1024 S.lb S.down=r:=congrArg Prod.snd hqr;rw[e1,e2] at this;exact this
    rw[HE.out,hqr];clear hqr HE;go_enter Tryz.func27,Tryz.ntmps27;go_wp2_with fail
    refine(cisPage n _).mono ?_;rintro e w1⟨rfl,hw⟩;rw[hw];clear hw;rw[HI.out];go_wp2_with fail
    refine(HC.out _ HPL.out).mono ?_;rintro e w2⟨rfl,hb2⟩;go_wp2
    go_ret2
    exact⟨rfl,hb2⟩
   | none =>
    rw[hQ] at kp;have kp':(Instr.lookup 125 (.map (some bp)) (.int .i64 n) true).run Tryz.prog X=.ok (.tuple #[.int .i64 0,.bool false]) X:=kp;have HE:Hid (rdL L S n=if S.down then(⟨#[]⟩,2) else if((S.lb 0).length:Int)/1024≤n then(⟨#[]⟩,7) else(rdS 0 (1024*n) 1024 S.lb S.down,rdE 0 (1024*n) 1024 S.lb S.down)):=by
     show rdL L S n=_;unfold rdL;rw[if_neg (fun h=>h h1),hF];show(match L.pl n with | some v=>rdF S v | none=>_)=_;rw[hQ]
    have n0:=hn.1;have n1:=hn.2;clear kf kp hF hQ h h1 hp hf hn;cases hd:S.down with
    | true =>
     have ea:askE 0 0 0 S.down=2:=by rw[hd];rfl
     have es:sizV 0 S.lb S.down=0:=by unfold sizV;rw[ea];rfl
     have HA:Hid _:=ea;have HS:Hid _:=es;have HR:Hid (rdL L S n=(⟨#[]⟩,2)):=HE.out.trans (by rw[hd];rfl);rw[HR.out];clear HE ea es hd HR;go_enter Tryz.func27,Tryz.ntmps27;go_wp2_with fail
     refine(cisPage n _).mono ?_;rintro e w1⟨rfl,hw⟩;rw[hw];clear hw;rw[HI.out];go_wp2_with fail
     refine(csizeD 0 _ B D S HPL.out.dsk).mono ?_;rintro e w2⟨rfl,hw⟩;rw[hw];clear hw;rw[HA.out,HS.out];go_wp2
     go_ret2
     exact⟨rfl,Below.refl _ _⟩
    | false =>
     have ea:askE 0 0 0 S.down=0:=by rw[hd];rfl
     have es:sizV 0 S.lb S.down=((S.lb 0).length:Int):=by unfold sizV;rw[if_pos ea];rfl
     have HA:Hid _:=ea;have HS:Hid _:=es;by_cases hl:((S.lb 0).length:Int)/1024≤n
     ·have HR:Hid (rdL L S n=(⟨#[]⟩,7)):=HE.out.trans (by rw[hd,if_neg (by decide),if_pos hl]);rw[HR.out];clear HE ea es hd HR;go_enter Tryz.func27,Tryz.ntmps27;go_wp2_with fail
      refine(cisPage n _).mono ?_;rintro e w1⟨rfl,hw⟩;rw[hw];clear hw;rw[HI.out];go_wp2_with fail
      refine(csizeD 0 _ B D S HPL.out.dsk).mono ?_;rintro e w2⟨rfl,hw⟩;rw[hw];clear hw;rw[HA.out,HS.out];go_wp2
      go_ret2
      exact⟨rfl,Below.refl _ _⟩
     ·obtain⟨q,hq⟩:∃q,q=rdS 0 (1024*n) 1024 S.lb S.down:=⟨_,rfl⟩;obtain⟨r,hr⟩:∃r,r=rdE 0 (1024*n) 1024 S.lb S.down:=⟨_,rfl⟩;have HR:Hid (rdL L S n=(q,r)):=HE.out.trans (by rw[hq,hr,hd,if_neg (by decide),if_neg hl]);have HC:Hid (∀W,PDs W B D S→Calls Tryz.prog 68 #[(.pointer (some ⟨D,0,none⟩)),.int .i64 0,.int .i64 (1024*n),.int .i64 1024] W fun e w'=>e=.returned (.tuple #[.string q,.int .i64 r])∧w'=W):=fun W hW=>by rw[hq,hr];exact creadD 0 (1024*n) 1024 W B D S hW
      have hl':decide (((S.lb 0).length:Int)/1024≤n)=false:=decide_eq_false hl;have hlen:=HPL.out.dsk.len 0 (by decide);have hw2:wrap64 (((S.lb 0).length:Int)/1024)=((S.lb 0).length:Int)/1024:=by unfold wrap64;omega
      have hw1:IntKind.i64.wrap (1024*n)=1024*n:=by rw[IntKind.wrap_i64];omega
      rw[HR.out];clear HE ea es hd HR hq hr hl;go_enter Tryz.func27,Tryz.ntmps27;go_wp2_with fail
      refine(cisPage n _).mono ?_;rintro e w1⟨rfl,hw⟩;rw[hw];clear hw;rw[HI.out];go_wp2_with fail
      refine(csizeD 0 _ B D S HPL.out.dsk).mono ?_;rintro e w2⟨rfl,hw⟩;rw[hw];clear hw;rw[HA.out,HS.out];go_wp2_with fail
      refine(HC.out _ HPL.out.dsk).mono ?_;rintro e w3⟨rfl,hw⟩;rw[hw];clear hw;go_wp2
      go_ret2
      exact⟨rfl,Below.refl _ _⟩
 ·have HE:Hid (rdL L S n=(⟨#[]⟩,1)):=if_pos h1;have hI:isPg n=false:=by simpa using h1
  have HI:Hid (isPg n=false):=hI;rw[HE.out];clear h h1 hp hf HE hI;go_enter Tryz.func27,Tryz.ntmps27;go_wp2_with fail
  refine(cisPage n _).mono ?_;rintro e w1⟨rfl,hw⟩;rw[hw];clear hw;rw[HI.out];go_wp2
  go_ret2
  exact⟨rfl,Below.refl _ _⟩
def frT (log:List UInt8)(i:Nat):ByteArray:=⟨((log.drop (64+1028*i)).take 4).toArray⟩
def frN (log:List UInt8)(i:Nat):Nat:=numB (frT log i) 0
def fndM (log:List UInt8)(F:Int→Option Int):Nat→Int→Option Int
 | 0=>F
 | i+1=>updM (fndM log F i) (frN log i) i
end Go.Proofs.YtiaibgfhigdgdaaGreat
