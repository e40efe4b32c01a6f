/- a part -/
import Derived.Test.YtfjkockcgddgbaaGreatP1
set_option maxRecDepth 100000
set_option maxHeartbeats 8000000
namespace Go.Proofs.YtfjkockcgddgbaaGreat
open Go.RowKit Go.Lib
attribute [local go_sem ↓] Go.wp_at_zero Go.wp_at_succ
structure Cm where
 slot:Nat
 number:Nat
 frames:Nat
 pages:Nat
def cmV (c:Cm):Value:=(.agg #[.int .i64 ((c.slot:Int)),.int .i64 ((c.number:Int)),.int .i64 ((c.frames:Int)),.int .i64 ((c.pages:Int))])
def cm0:Cm:=⟨0,0,0,0⟩
def halfB (n f p:Nat):ByteArray:=fourB n++fourB f++fourB p
def txtB (n f p:Nat):ByteArray:=halfB n f p++halfB n f p
theorem fourB_size (n:Nat):(fourB n).size=4:=rfl
theorem halfB_size (n f p:Nat):(halfB n f p).size=12:=by unfold halfB;simp[ByteArray.size_append,fourB_size]
theorem txtB_size (n f p:Nat):(txtB n f p).size=24:=by unfold txtB;simp[ByteArray.size_append,halfB_size]
theorem ctext (s n f p:Nat)(w:World):Calls Tryz.prog 90 #[(.agg #[.int .i64 ((s:Int)),.int .i64 ((n:Int)),.int .i64 ((f:Int)),.int .i64 ((p:Int))])] w fun e w'=>e=.returned (.string (txtB n f p))∧Below w.heap.size w w':=by
 have HT:Hid (txtB n f p=(fourB n++fourB f++fourB p)++(fourB n++fourB f++fourB p)):=rfl;have s1:=fourB_size n;have s2:=fourB_size f;have s3:=fourB_size p;go_enter Tryz.func90,Tryz.ntmps90
 go_upto_region 1 with fail
 go_region_held3 (fun w'=>Below w.heap.size w w'∧w.heap.size<w'.heap.size∧w'.cell? ⟨w.heap.size,0,none⟩=some (.int .i64 ((s:Int)))∧w'.cell? ⟨w.heap.size,1,none⟩=some (.int .i64 ((n:Int)))∧w'.cell? ⟨w.heap.size,2,none⟩=some (.int .i64 ((f:Int)))∧w'.cell? ⟨w.heap.size,3,none⟩=some (.int .i64 ((p:Int)))) (first | (refine⟨((Below.refl _ _).alloc (Nat.le_refl _) _).drew,?_⟩;go_keep) | (go_split_ands;and_intros<;>assumption) | (go_split_ands;exact⟨keepBelow (by assumption) hb,keepSize hb (by assumption),keepCell hb (by assumption) (by assumption),keepCell hb (by assumption) (by assumption),keepCell hb (by assumption) (by assumption),keepCell hb (by assumption) (by assumption)⟩))
  (first | (go_at_call 59;refine(cfour _ _).mono ?_;rintro e w'⟨rfl,hb⟩))
 go_wp2;go_ret
 go_split_ands
 exact⟨by rw[HT.out];rfl,by assumption⟩
theorem cfollowing (s n f p fr pg:Nat)(w:World)(hs:s≤1)(hn:n≤4294967296):Calls Tryz.prog 99 #[(.agg #[.int .i64 ((s:Int)),.int .i64 ((n:Int)),.int .i64 ((f:Int)),.int .i64 ((p:Int))]),.int .i64 fr,.int .i64 pg] w fun e w'=>e=.returned (.agg #[.int .i64 (((1-s:Nat):Int)),.int .i64 ((nxN n:Nat)),.int .i64 ((fr:Int)),.int .i64 ((pg:Int))])∧Below w.heap.size w w':=by
 have hs1:((1-s:Nat):Int)=1-(s:Int):=by omega
 have hwr:IntKind.i64.wrap (1-(s:Int))=1-(s:Int):=by rw[IntKind.wrap_i64];omega
 rw[hs1];go_enter Tryz.func99,Tryz.ntmps99;go_wp2_with fail
 go_region_with (first | (go_at_call 85;refine(cnext _ _ hn).mono ?_;rintro e w2⟨rfl,rfl⟩))
 all_goals
  go_wp2;refine bodyPost_ret (v:=(.agg #[.int .i64 (1-(s:Int)),.int .i64 ((nxN n:Nat)),.int .i64 ((fr:Int)),.int .i64 ((pg:Int))])) (by simp[results,Tryz.results99,go_sem, *]) rfl ⟨rfl,?_⟩;exact(((Below.refl _ _).alloc (Nat.le_refl _) _).alloc (by simp) _).drew
def toldA (head:ByteArray)(p slot size:Nat):Cm:=
 if head.size<p+24 then cm0
 else if ¬(1≤numB head p∧numB head p≤3) then cm0
 else if ¬txtB (numB head p) (numB head (p+4)) (numB head (p+8))=head.extract p (p+24) then cm0
 else if 0<numB head (p+4)∧size<64+1028*numB head (p+4) then cm0
 else⟨slot,numB head p,numB head (p+4),numB head (p+8)⟩
theorem ne_lists {s t:ByteArray}(h:¬s=t):¬s.toList=t.toList:=by
 rw[ByteArray.toList_eq,ByteArray.toList_eq];intro e;apply h;exact Go.WideShapes.bytes_inj e
theorem ctold0 (head:ByteArray)(size:Nat)(w:World)(hh:head.size≤1000000):Calls Tryz.prog 84 #[.string head,.int .i64 0,.int .i64 size] w fun e w'=>e=.returned (cmV (toldA head 16 0 size))∧Below w.heap.size w w':=by
 by_cases h1:head.size<40
 ·have HT:Hid (toldA head 16 0 size=cm0):=if_pos h1;go_enter Tryz.func84,Tryz.ntmps84;go_wp2_with fail
  refine(cslotAt 0 _ (by omega) (by omega)).mono ?_;rintro e w2⟨rfl,rfl⟩;have h2:(head.size:Int)<40:=by omega
  go_wp2;refine bodyPost_ret (v:=(.agg #[.int .i64 (0),.int .i64 (0),.int .i64 (0),.int .i64 (0)])) (by simp[results,Tryz.results84,go_sem, *]) rfl ⟨by rw[HT.out];rfl,?_⟩;exact((Below.refl _ _).alloc (Nat.le_refl _) _)
 have h2:¬(head.size:Int)<40:=by omega
 have HA:Hid (16+4≤head.size):=(by omega:16+4≤head.size);have HB:Hid (20+4≤head.size):=(by omega:20+4≤head.size);have HC:Hid (24+4≤head.size):=(by omega:24+4≤head.size);have HH:Hid (head.size≤1099511627776):=(by omega:head.size≤1099511627776);have HE:toldA head 16 0 size=if ¬(1≤numB head 16∧numB head 16≤3) then cm0 else if ¬txtB (numB head 16) (numB head 20) (numB head 24)=head.extract 16 40 then cm0 else if 0<numB head 20∧size<64+1028*numB head 20 then cm0 else⟨0,numB head 16,numB head 20,numB head 24⟩:=if_neg h1;have ba:=numB_lt head 16;have bf:=numB_lt head 20;have bp:=numB_lt head 24;by_cases c1:numB head 16<1
 ·have HT:Hid (toldA head 16 0 size=cm0):=HE.trans (if_pos (by omega));clear HE;go_enter Tryz.func84,Tryz.ntmps84;go_wp2_with fail
  refine(cslotAt 0 _ (by omega) (by omega)).mono ?_;rintro e w2⟨rfl,rfl⟩;go_wp2_with fail
  refine(cnumber head 16 _ HA.out HH.out).mono ?_;rintro e w2⟨rfl,rfl⟩;go_wp2_with fail
  refine(cnumber head 20 _ HB.out HH.out).mono ?_;rintro e w2⟨rfl,rfl⟩;go_wp2_with fail
  refine(cnumber head 24 _ HC.out HH.out).mono ?_;rintro e w2⟨rfl,rfl⟩;generalize numB head 16=a at *;generalize numB head 20=f at *;generalize numB head 24=p at *;have i1:(a:Int)<1:=by omega
  go_upto_region 5 with fail
  go_quiet (fail)
  go_wp2;refine bodyPost_ret (v:=(.agg #[.int .i64 (0),.int .i64 (0),.int .i64 (0),.int .i64 (0)])) (by simp[results,Tryz.results84,go_sem, *]) rfl ⟨by rw[HT.out];rfl,?_⟩;exact(((((below_dw (((Below.refl _ _).alloc (Nat.le_refl _) _).alloc (by simp) _))).setCell (by simp<;>omega) _).setCell (by simp<;>omega) _).setCell (by simp<;>omega) _).setCell (by simp<;>omega) _
 by_cases c2:3<numB head 16
 ·have HT:Hid (toldA head 16 0 size=cm0):=HE.trans (if_pos (by omega));clear HE;go_enter Tryz.func84,Tryz.ntmps84;go_wp2_with fail
  refine(cslotAt 0 _ (by omega) (by omega)).mono ?_;rintro e w2⟨rfl,rfl⟩;go_wp2_with fail
  refine(cnumber head 16 _ HA.out HH.out).mono ?_;rintro e w2⟨rfl,rfl⟩;go_wp2_with fail
  refine(cnumber head 20 _ HB.out HH.out).mono ?_;rintro e w2⟨rfl,rfl⟩;go_wp2_with fail
  refine(cnumber head 24 _ HC.out HH.out).mono ?_;rintro e w2⟨rfl,rfl⟩;generalize numB head 16=a at *;generalize numB head 20=f at *;generalize numB head 24=p at *;have j1:decide ((a:Int)<1)=false:=decide_eq_false (by omega);have j2:decide ((3:Int)<(a:Int))=true:=decide_eq_true (by omega)
  go_upto_region 5 with fail
  go_quiet (fail)
  go_wp2;refine bodyPost_ret (v:=(.agg #[.int .i64 (0),.int .i64 (0),.int .i64 (0),.int .i64 (0)])) (by simp[results,Tryz.results84,go_sem, *]) rfl ⟨by rw[HT.out];rfl,?_⟩;exact(((((below_dw (((Below.refl _ _).alloc (Nat.le_refl _) _).alloc (by simp) _))).setCell (by simp<;>omega) _).setCell (by simp<;>omega) _).setCell (by simp<;>omega) _).setCell (by simp<;>omega) _
 by_cases c3:¬txtB (numB head 16) (numB head 20) (numB head 24)=head.extract 16 40
 ·have HT:Hid (toldA head 16 0 size=cm0):=HE.trans (by rw[if_neg (by omega),if_pos c3]);clear HE;go_enter Tryz.func84,Tryz.ntmps84;go_wp2_with fail
  refine(cslotAt 0 _ (by omega) (by omega)).mono ?_;rintro e w2⟨rfl,rfl⟩;go_wp2_with fail
  refine(cnumber head 16 _ HA.out HH.out).mono ?_;rintro e w2⟨rfl,rfl⟩;go_wp2_with fail
  refine(cnumber head 20 _ HB.out HH.out).mono ?_;rintro e w2⟨rfl,rfl⟩;go_wp2_with fail
  refine(cnumber head 24 _ HC.out HH.out).mono ?_;rintro e w2⟨rfl,rfl⟩;generalize numB head 16=a at *;generalize numB head 20=f at *;generalize numB head 24=p at *;have hwr:IntKind.i64.wrap 40=40:=by decide
  have hsl:∀X,(Instr.slice 9 (.string head) (some (.int .i64 16)) (some (.int .i64 40)) none).run Tryz.prog X=.ok (.string (head.extract 16 40)) X:=fun X=>slice_lit head 16 40 (by omega) (by omega) X
  have j1:decide ((a:Int)<1)=false:=decide_eq_false (by omega);have j2:decide ((3:Int)<(a:Int))=false:=decide_eq_false (by omega);have n3:=ne_lists c3;have m3:((txtB a f p).toList == (head.extract 16 40).toList)=false:=by simpa using n3
  clear h1 h2 HA HB HC HH hh
  go_upto_region 5 with fail
  go_region_held3 (fun w'=>Below w.heap.size w w'∧w.heap.size+1<w'.heap.size∧w'.cell? ⟨w.heap.size,0,none⟩=some (.int .i64 (0))∧w'.cell? ⟨w.heap.size,1,none⟩=some (.int .i64 (0))∧w'.cell? ⟨w.heap.size,2,none⟩=some (.int .i64 (0))∧w'.cell? ⟨w.heap.size,3,none⟩=some (.int .i64 (0))∧w'.cell? ⟨w.heap.size+1,0,none⟩=some (.int .i64 (0))∧w'.cell? ⟨w.heap.size+1,1,none⟩=some (.int .i64 ((a:Int)))∧w'.cell? ⟨w.heap.size+1,2,none⟩=some (.int .i64 ((f:Int)))∧w'.cell? ⟨w.heap.size+1,3,none⟩=some (.int .i64 ((p:Int)))) (first | (refine⟨(((Below.refl _ _).alloc (Nat.le_refl _) _).alloc (by simp) _).drew,?_⟩;go_keep) | (go_split_ands;and_intros<;>assumption) | (go_split_ands;exact⟨keepBelow (by assumption) hb,keepSize hb (by assumption),keepCell hb (Nat.lt_of_succ_lt (by assumption)) (by assumption),keepCell hb (Nat.lt_of_succ_lt (by assumption)) (by assumption),keepCell hb (Nat.lt_of_succ_lt (by assumption)) (by assumption),keepCell hb (Nat.lt_of_succ_lt (by assumption)) (by assumption),keepCell hb (by assumption) (by assumption),keepCell hb (by assumption) (by assumption),keepCell hb (by assumption) (by assumption),keepCell hb (by assumption) (by assumption)⟩))
   (first | (go_at_call 90;refine(ctext 0 a f p _).mono ?_;rintro e w'⟨rfl,hb⟩))
  go_split_ands
  obtain⟨hc1,hf1⟩:=bcell hb;have HB9:Hid (Below w.heap.size w w'):=by show Below w.heap.size w w';assumption
  clear hb;go_wp2;refine bodyPost_ret (v:=(.agg #[.int .i64 (0),.int .i64 (0),.int .i64 (0),.int .i64 (0)])) (by simp[results,Tryz.results84,go_sem, *]) rfl ⟨by rw[HT.out];rfl,?_⟩;exact((((HB9.out).setCell (by simp<;>omega) _).setCell (by simp<;>omega) _).setCell (by simp<;>omega) _).setCell (by simp<;>omega) _
 have c3:=Classical.not_not.1 c3;by_cases c4:0<numB head 20
 ·by_cases c5:size<64+1028*numB head 20
  ·have HT:Hid (toldA head 16 0 size=cm0):=HE.trans (by rw[if_neg (by omega),if_neg (fun h=>h c3),if_pos ⟨c4,c5⟩]);clear HE;go_enter Tryz.func84,Tryz.ntmps84;go_wp2_with fail
   refine(cslotAt 0 _ (by omega) (by omega)).mono ?_;rintro e w2⟨rfl,rfl⟩;go_wp2_with fail
   refine(cnumber head 16 _ HA.out HH.out).mono ?_;rintro e w2⟨rfl,rfl⟩;go_wp2_with fail
   refine(cnumber head 20 _ HB.out HH.out).mono ?_;rintro e w2⟨rfl,rfl⟩;go_wp2_with fail
   refine(cnumber head 24 _ HC.out HH.out).mono ?_;rintro e w2⟨rfl,rfl⟩;generalize numB head 16=a at *;generalize numB head 20=f at *;generalize numB head 24=p at *;have hwr:IntKind.i64.wrap 40=40:=by decide
   have hsl:∀X,(Instr.slice 9 (.string head) (some (.int .i64 16)) (some (.int .i64 40)) none).run Tryz.prog X=.ok (.string (head.extract 16 40)) X:=fun X=>slice_lit head 16 40 (by omega) (by omega) X
   have j1:decide ((a:Int)<1)=false:=decide_eq_false (by omega);have j2:decide ((3:Int)<(a:Int))=false:=decide_eq_false (by omega);have i4:(0:Int)<(f:Int):=by omega
   have i5:(size:Int)<64+1028*(f:Int):=by omega
   clear h1 h2 HA HB HC HH hh
   go_upto_region 5 with fail
   go_region_held3 (fun w'=>Below w.heap.size w w'∧w.heap.size+1<w'.heap.size∧w'.cell? ⟨w.heap.size,0,none⟩=some (.int .i64 (0))∧w'.cell? ⟨w.heap.size,1,none⟩=some (.int .i64 (0))∧w'.cell? ⟨w.heap.size,2,none⟩=some (.int .i64 (0))∧w'.cell? ⟨w.heap.size,3,none⟩=some (.int .i64 (0))∧w'.cell? ⟨w.heap.size+1,0,none⟩=some (.int .i64 (0))∧w'.cell? ⟨w.heap.size+1,1,none⟩=some (.int .i64 ((a:Int)))∧w'.cell? ⟨w.heap.size+1,2,none⟩=some (.int .i64 ((f:Int)))∧w'.cell? ⟨w.heap.size+1,3,none⟩=some (.int .i64 ((p:Int)))) (first | (refine⟨(((Below.refl _ _).alloc (Nat.le_refl _) _).alloc (by simp) _).drew,?_⟩;go_keep) | (go_split_ands;and_intros<;>assumption) | (go_split_ands;exact⟨keepBelow (by assumption) hb,keepSize hb (by assumption),keepCell hb (Nat.lt_of_succ_lt (by assumption)) (by assumption),keepCell hb (Nat.lt_of_succ_lt (by assumption)) (by assumption),keepCell hb (Nat.lt_of_succ_lt (by assumption)) (by assumption),keepCell hb (Nat.lt_of_succ_lt (by assumption)) (by assumption),keepCell hb (by assumption) (by assumption),keepCell hb (by assumption) (by assumption),keepCell hb (by assumption) (by assumption),keepCell hb (by assumption) (by assumption)⟩))
    (first | (go_at_call 90;refine(ctext 0 a f p _).mono ?_;rintro e w'⟨rfl,hb⟩))
   go_split_ands
   obtain⟨hc1,hf1⟩:=bcell hb;have HB9:Hid (Below w.heap.size w w'):=by show Below w.heap.size w w';assumption
   clear hb;go_wp2_with fail
   refine(cframeAt f _ (by omega) (by omega)).mono ?_;rintro e w3⟨rfl,rfl⟩;go_wp2;refine bodyPost_ret (v:=(.agg #[.int .i64 (0),.int .i64 (0),.int .i64 (0),.int .i64 (0)])) (by simp[results,Tryz.results84,go_sem, *]) rfl ⟨by rw[HT.out];rfl,?_⟩;exact((((HB9.out).setCell (by simp<;>omega) _).setCell (by simp<;>omega) _).setCell (by simp<;>omega) _).setCell (by simp<;>omega) _
  ·have HT:Hid (toldA head 16 0 size=(⟨0,numB head 16,numB head 20,numB head 24⟩:Cm)):=HE.trans (by rw[if_neg (by omega),if_neg (fun h=>h c3),if_neg (fun h=>c5 h.2)]);clear HE;go_enter Tryz.func84,Tryz.ntmps84;go_wp2_with fail
   refine(cslotAt 0 _ (by omega) (by omega)).mono ?_;rintro e w2⟨rfl,rfl⟩;go_wp2_with fail
   refine(cnumber head 16 _ HA.out HH.out).mono ?_;rintro e w2⟨rfl,rfl⟩;go_wp2_with fail
   refine(cnumber head 20 _ HB.out HH.out).mono ?_;rintro e w2⟨rfl,rfl⟩;go_wp2_with fail
   refine(cnumber head 24 _ HC.out HH.out).mono ?_;rintro e w2⟨rfl,rfl⟩;generalize numB head 16=a at *;generalize numB head 20=f at *;generalize numB head 24=p at *;have hwr:IntKind.i64.wrap 40=40:=by decide
   have hsl:∀X,(Instr.slice 9 (.string head) (some (.int .i64 16)) (some (.int .i64 40)) none).run Tryz.prog X=.ok (.string (head.extract 16 40)) X:=fun X=>slice_lit head 16 40 (by omega) (by omega) X
   have j1:decide ((a:Int)<1)=false:=decide_eq_false (by omega);have j2:decide ((3:Int)<(a:Int))=false:=decide_eq_false (by omega);have i4:(0:Int)<(f:Int):=by omega
   have i5:¬(size:Int)<64+1028*(f:Int):=by omega
   clear h1 h2 HA HB HC HH hh
   go_upto_region 5 with fail
   go_region_held3 (fun w'=>Below w.heap.size w w'∧w.heap.size+1<w'.heap.size∧w'.cell? ⟨w.heap.size,0,none⟩=some (.int .i64 (0))∧w'.cell? ⟨w.heap.size,1,none⟩=some (.int .i64 (0))∧w'.cell? ⟨w.heap.size,2,none⟩=some (.int .i64 (0))∧w'.cell? ⟨w.heap.size,3,none⟩=some (.int .i64 (0))∧w'.cell? ⟨w.heap.size+1,0,none⟩=some (.int .i64 (0))∧w'.cell? ⟨w.heap.size+1,1,none⟩=some (.int .i64 ((a:Int)))∧w'.cell? ⟨w.heap.size+1,2,none⟩=some (.int .i64 ((f:Int)))∧w'.cell? ⟨w.heap.size+1,3,none⟩=some (.int .i64 ((p:Int)))) (first | (refine⟨(((Below.refl _ _).alloc (Nat.le_refl _) _).alloc (by simp) _).drew,?_⟩;go_keep) | (go_split_ands;and_intros<;>assumption) | (go_split_ands;exact⟨keepBelow (by assumption) hb,keepSize hb (by assumption),keepCell hb (Nat.lt_of_succ_lt (by assumption)) (by assumption),keepCell hb (Nat.lt_of_succ_lt (by assumption)) (by assumption),keepCell hb (Nat.lt_of_succ_lt (by assumption)) (by assumption),keepCell hb (Nat.lt_of_succ_lt (by assumption)) (by assumption),keepCell hb (by assumption) (by assumption),keepCell hb (by assumption) (by assumption),keepCell hb (by assumption) (by assumption),keepCell hb (by assumption) (by assumption)⟩))
    (first | (go_at_call 90;refine(ctext 0 a f p _).mono ?_;rintro e w'⟨rfl,hb⟩))
   go_split_ands
   obtain⟨hc1,hf1⟩:=bcell hb;have HB9:Hid (Below w.heap.size w w'):=by show Below w.heap.size w w';assumption
   clear hb;go_wp2_with fail
   refine(cframeAt f _ (by omega) (by omega)).mono ?_;rintro e w3⟨rfl,rfl⟩;go_wp2;refine bodyPost_ret (v:=(.agg #[.int .i64 (0),.int .i64 ((a:Int)),.int .i64 ((f:Int)),.int .i64 ((p:Int))])) (by simp[results,Tryz.results84,go_sem, *]) rfl ⟨by rw[HT.out];rfl,?_⟩;exact((((HB9.out).setCell (by simp<;>omega) _).setCell (by simp<;>omega) _).setCell (by simp<;>omega) _).setCell (by simp<;>omega) _
 ·have HT:Hid (toldA head 16 0 size=(⟨0,numB head 16,numB head 20,numB head 24⟩:Cm)):=HE.trans (by rw[if_neg (by omega),if_neg (fun h=>h c3),if_neg (fun h=>c4 h.1)]);clear HE;go_enter Tryz.func84,Tryz.ntmps84;go_wp2_with fail
  refine(cslotAt 0 _ (by omega) (by omega)).mono ?_;rintro e w2⟨rfl,rfl⟩;go_wp2_with fail
  refine(cnumber head 16 _ HA.out HH.out).mono ?_;rintro e w2⟨rfl,rfl⟩;go_wp2_with fail
  refine(cnumber head 20 _ HB.out HH.out).mono ?_;rintro e w2⟨rfl,rfl⟩;go_wp2_with fail
  refine(cnumber head 24 _ HC.out HH.out).mono ?_;rintro e w2⟨rfl,rfl⟩;generalize numB head 16=a at *;generalize numB head 20=f at *;generalize numB head 24=p at *;have hwr:IntKind.i64.wrap 40=40:=by decide
  have hsl:∀X,(Instr.slice 9 (.string head) (some (.int .i64 16)) (some (.int .i64 40)) none).run Tryz.prog X=.ok (.string (head.extract 16 40)) X:=fun X=>slice_lit head 16 40 (by omega) (by omega) X
  have j1:decide ((a:Int)<1)=false:=decide_eq_false (by omega);have j2:decide ((3:Int)<(a:Int))=false:=decide_eq_false (by omega);have i4:¬(0:Int)<(f:Int):=by omega
  clear h1 h2 HA HB HC HH hh
  go_upto_region 5 with fail
  go_region_held3 (fun w'=>Below w.heap.size w w'∧w.heap.size+1<w'.heap.size∧w'.cell? ⟨w.heap.size,0,none⟩=some (.int .i64 (0))∧w'.cell? ⟨w.heap.size,1,none⟩=some (.int .i64 (0))∧w'.cell? ⟨w.heap.size,2,none⟩=some (.int .i64 (0))∧w'.cell? ⟨w.heap.size,3,none⟩=some (.int .i64 (0))∧w'.cell? ⟨w.heap.size+1,0,none⟩=some (.int .i64 (0))∧w'.cell? ⟨w.heap.size+1,1,none⟩=some (.int .i64 ((a:Int)))∧w'.cell? ⟨w.heap.size+1,2,none⟩=some (.int .i64 ((f:Int)))∧w'.cell? ⟨w.heap.size+1,3,none⟩=some (.int .i64 ((p:Int)))) (first | (refine⟨(((Below.refl _ _).alloc (Nat.le_refl _) _).alloc (by simp) _).drew,?_⟩;go_keep) | (go_split_ands;and_intros<;>assumption) | (go_split_ands;exact⟨keepBelow (by assumption) hb,keepSize hb (by assumption),keepCell hb (Nat.lt_of_succ_lt (by assumption)) (by assumption),keepCell hb (Nat.lt_of_succ_lt (by assumption)) (by assumption),keepCell hb (Nat.lt_of_succ_lt (by assumption)) (by assumption),keepCell hb (Nat.lt_of_succ_lt (by assumption)) (by assumption),keepCell hb (by assumption) (by assumption),keepCell hb (by assumption) (by assumption),keepCell hb (by assumption) (by assumption),keepCell hb (by assumption) (by assumption)⟩))
   (first | (go_at_call 90;refine(ctext 0 a f p _).mono ?_;rintro e w'⟨rfl,hb⟩))
  go_split_ands
  obtain⟨hc1,hf1⟩:=bcell hb;have HB9:Hid (Below w.heap.size w w'):=by show Below w.heap.size w w';assumption
  clear hb;go_wp2;refine bodyPost_ret (v:=(.agg #[.int .i64 (0),.int .i64 ((a:Int)),.int .i64 ((f:Int)),.int .i64 ((p:Int))])) (by simp[results,Tryz.results84,go_sem, *]) rfl ⟨by rw[HT.out];rfl,?_⟩;exact((((HB9.out).setCell (by simp<;>omega) _).setCell (by simp<;>omega) _).setCell (by simp<;>omega) _).setCell (by simp<;>omega) _
theorem ctold1 (head:ByteArray)(size:Nat)(w:World)(hh:head.size≤1000000):Calls Tryz.prog 84 #[.string head,.int .i64 1,.int .i64 size] w fun e w'=>e=.returned (cmV (toldA head 40 1 size))∧Below w.heap.size w w':=by
 by_cases h1:head.size<64
 ·have HT:Hid (toldA head 40 1 size=cm0):=if_pos h1;go_enter Tryz.func84,Tryz.ntmps84;go_wp2_with fail
  refine(cslotAt 1 _ (by omega) (by omega)).mono ?_;rintro e w2⟨rfl,rfl⟩;have h2:(head.size:Int)<64:=by omega
  go_wp2;refine bodyPost_ret (v:=(.agg #[.int .i64 (0),.int .i64 (0),.int .i64 (0),.int .i64 (0)])) (by simp[results,Tryz.results84,go_sem, *]) rfl ⟨by rw[HT.out];rfl,?_⟩;exact((Below.refl _ _).alloc (Nat.le_refl _) _)
 have h2:¬(head.size:Int)<64:=by omega
 have HA:Hid (40+4≤head.size):=(by omega:40+4≤head.size);have HB:Hid (44+4≤head.size):=(by omega:44+4≤head.size);have HC:Hid (48+4≤head.size):=(by omega:48+4≤head.size);have HH:Hid (head.size≤1099511627776):=(by omega:head.size≤1099511627776);have HE:toldA head 40 1 size=if ¬(1≤numB head 40∧numB head 40≤3) then cm0 else if ¬txtB (numB head 40) (numB head 44) (numB head 48)=head.extract 40 64 then cm0 else if 0<numB head 44∧size<64+1028*numB head 44 then cm0 else⟨1,numB head 40,numB head 44,numB head 48⟩:=if_neg h1;have ba:=numB_lt head 40;have bf:=numB_lt head 44;have bp:=numB_lt head 48;by_cases c1:numB head 40<1
 ·have HT:Hid (toldA head 40 1 size=cm0):=HE.trans (if_pos (by omega));clear HE;go_enter Tryz.func84,Tryz.ntmps84;go_wp2_with fail
  refine(cslotAt 1 _ (by omega) (by omega)).mono ?_;rintro e w2⟨rfl,rfl⟩;go_wp2_with fail
  refine(cnumber head 40 _ HA.out HH.out).mono ?_;rintro e w2⟨rfl,rfl⟩;go_wp2_with fail
  refine(cnumber head 44 _ HB.out HH.out).mono ?_;rintro e w2⟨rfl,rfl⟩;go_wp2_with fail
  refine(cnumber head 48 _ HC.out HH.out).mono ?_;rintro e w2⟨rfl,rfl⟩;generalize numB head 40=a at *;generalize numB head 44=f at *;generalize numB head 48=p at *;have i1:(a:Int)<1:=by omega
  go_upto_region 5 with fail
  go_quiet (fail)
  go_wp2;refine bodyPost_ret (v:=(.agg #[.int .i64 (0),.int .i64 (0),.int .i64 (0),.int .i64 (0)])) (by simp[results,Tryz.results84,go_sem, *]) rfl ⟨by rw[HT.out];rfl,?_⟩;exact(((((below_dw (((Below.refl _ _).alloc (Nat.le_refl _) _).alloc (by simp) _))).setCell (by simp<;>omega) _).setCell (by simp<;>omega) _).setCell (by simp<;>omega) _).setCell (by simp<;>omega) _
 by_cases c2:3<numB head 40
 ·have HT:Hid (toldA head 40 1 size=cm0):=HE.trans (if_pos (by omega));clear HE;go_enter Tryz.func84,Tryz.ntmps84;go_wp2_with fail
  refine(cslotAt 1 _ (by omega) (by omega)).mono ?_;rintro e w2⟨rfl,rfl⟩;go_wp2_with fail
  refine(cnumber head 40 _ HA.out HH.out).mono ?_;rintro e w2⟨rfl,rfl⟩;go_wp2_with fail
  refine(cnumber head 44 _ HB.out HH.out).mono ?_;rintro e w2⟨rfl,rfl⟩;go_wp2_with fail
  refine(cnumber head 48 _ HC.out HH.out).mono ?_;rintro e w2⟨rfl,rfl⟩;generalize numB head 40=a at *;generalize numB head 44=f at *;generalize numB head 48=p at *;have j1:decide ((a:Int)<1)=false:=decide_eq_false (by omega);have j2:decide ((3:Int)<(a:Int))=true:=decide_eq_true (by omega)
  go_upto_region 5 with fail
  go_quiet (fail)
  go_wp2;refine bodyPost_ret (v:=(.agg #[.int .i64 (0),.int .i64 (0),.int .i64 (0),.int .i64 (0)])) (by simp[results,Tryz.results84,go_sem, *]) rfl ⟨by rw[HT.out];rfl,?_⟩;exact(((((below_dw (((Below.refl _ _).alloc (Nat.le_refl _) _).alloc (by simp) _))).setCell (by simp<;>omega) _).setCell (by simp<;>omega) _).setCell (by simp<;>omega) _).setCell (by simp<;>omega) _
 by_cases c3:¬txtB (numB head 40) (numB head 44) (numB head 48)=head.extract 40 64
 ·have HT:Hid (toldA head 40 1 size=cm0):=HE.trans (by rw[if_neg (by omega),if_pos c3]);clear HE;go_enter Tryz.func84,Tryz.ntmps84;go_wp2_with fail
  refine(cslotAt 1 _ (by omega) (by omega)).mono ?_;rintro e w2⟨rfl,rfl⟩;go_wp2_with fail
  refine(cnumber head 40 _ HA.out HH.out).mono ?_;rintro e w2⟨rfl,rfl⟩;go_wp2_with fail
  refine(cnumber head 44 _ HB.out HH.out).mono ?_;rintro e w2⟨rfl,rfl⟩;go_wp2_with fail
  refine(cnumber head 48 _ HC.out HH.out).mono ?_;rintro e w2⟨rfl,rfl⟩;generalize numB head 40=a at *;generalize numB head 44=f at *;generalize numB head 48=p at *;have hwr:IntKind.i64.wrap 64=64:=by decide
  have hsl:∀X,(Instr.slice 9 (.string head) (some (.int .i64 40)) (some (.int .i64 64)) none).run Tryz.prog X=.ok (.string (head.extract 40 64)) X:=fun X=>slice_lit head 40 64 (by omega) (by omega) X
  have j1:decide ((a:Int)<1)=false:=decide_eq_false (by omega);have j2:decide ((3:Int)<(a:Int))=false:=decide_eq_false (by omega);have n3:=ne_lists c3;have m3:((txtB a f p).toList == (head.extract 40 64).toList)=false:=by simpa using n3
  clear h1 h2 HA HB HC HH hh
  go_upto_region 5 with fail
  go_region_held3 (fun w'=>Below w.heap.size w w'∧w.heap.size+1<w'.heap.size∧w'.cell? ⟨w.heap.size,0,none⟩=some (.int .i64 (0))∧w'.cell? ⟨w.heap.size,1,none⟩=some (.int .i64 (0))∧w'.cell? ⟨w.heap.size,2,none⟩=some (.int .i64 (0))∧w'.cell? ⟨w.heap.size,3,none⟩=some (.int .i64 (0))∧w'.cell? ⟨w.heap.size+1,0,none⟩=some (.int .i64 (1))∧w'.cell? ⟨w.heap.size+1,1,none⟩=some (.int .i64 ((a:Int)))∧w'.cell? ⟨w.heap.size+1,2,none⟩=some (.int .i64 ((f:Int)))∧w'.cell? ⟨w.heap.size+1,3,none⟩=some (.int .i64 ((p:Int)))) (first | (refine⟨(((Below.refl _ _).alloc (Nat.le_refl _) _).alloc (by simp) _).drew,?_⟩;go_keep) | (go_split_ands;and_intros<;>assumption) | (go_split_ands;exact⟨keepBelow (by assumption) hb,keepSize hb (by assumption),keepCell hb (Nat.lt_of_succ_lt (by assumption)) (by assumption),keepCell hb (Nat.lt_of_succ_lt (by assumption)) (by assumption),keepCell hb (Nat.lt_of_succ_lt (by assumption)) (by assumption),keepCell hb (Nat.lt_of_succ_lt (by assumption)) (by assumption),keepCell hb (by assumption) (by assumption),keepCell hb (by assumption) (by assumption),keepCell hb (by assumption) (by assumption),keepCell hb (by assumption) (by assumption)⟩))
   (first | (go_at_call 90;refine(ctext 1 a f p _).mono ?_;rintro e w'⟨rfl,hb⟩))
  go_split_ands
  obtain⟨hc1,hf1⟩:=bcell hb;have HB9:Hid (Below w.heap.size w w'):=by show Below w.heap.size w w';assumption
  clear hb;go_wp2;refine bodyPost_ret (v:=(.agg #[.int .i64 (0),.int .i64 (0),.int .i64 (0),.int .i64 (0)])) (by simp[results,Tryz.results84,go_sem, *]) rfl ⟨by rw[HT.out];rfl,?_⟩;exact((((HB9.out).setCell (by simp<;>omega) _).setCell (by simp<;>omega) _).setCell (by simp<;>omega) _).setCell (by simp<;>omega) _
 have c3:=Classical.not_not.1 c3;by_cases c4:0<numB head 44
 ·by_cases c5:size<64+1028*numB head 44
  ·have HT:Hid (toldA head 40 1 size=cm0):=HE.trans (by rw[if_neg (by omega),if_neg (fun h=>h c3),if_pos ⟨c4,c5⟩]);clear HE;go_enter Tryz.func84,Tryz.ntmps84;go_wp2_with fail
   refine(cslotAt 1 _ (by omega) (by omega)).mono ?_;rintro e w2⟨rfl,rfl⟩;go_wp2_with fail
   refine(cnumber head 40 _ HA.out HH.out).mono ?_;rintro e w2⟨rfl,rfl⟩;go_wp2_with fail
   refine(cnumber head 44 _ HB.out HH.out).mono ?_;rintro e w2⟨rfl,rfl⟩;go_wp2_with fail
   refine(cnumber head 48 _ HC.out HH.out).mono ?_;rintro e w2⟨rfl,rfl⟩;generalize numB head 40=a at *;generalize numB head 44=f at *;generalize numB head 48=p at *;have hwr:IntKind.i64.wrap 64=64:=by decide
   have hsl:∀X,(Instr.slice 9 (.string head) (some (.int .i64 40)) (some (.int .i64 64)) none).run Tryz.prog X=.ok (.string (head.extract 40 64)) X:=fun X=>slice_lit head 40 64 (by omega) (by omega) X
   have j1:decide ((a:Int)<1)=false:=decide_eq_false (by omega);have j2:decide ((3:Int)<(a:Int))=false:=decide_eq_false (by omega);have i4:(0:Int)<(f:Int):=by omega
   have i5:(size:Int)<64+1028*(f:Int):=by omega
   clear h1 h2 HA HB HC HH hh
   go_upto_region 5 with fail
   go_region_held3 (fun w'=>Below w.heap.size w w'∧w.heap.size+1<w'.heap.size∧w'.cell? ⟨w.heap.size,0,none⟩=some (.int .i64 (0))∧w'.cell? ⟨w.heap.size,1,none⟩=some (.int .i64 (0))∧w'.cell? ⟨w.heap.size,2,none⟩=some (.int .i64 (0))∧w'.cell? ⟨w.heap.size,3,none⟩=some (.int .i64 (0))∧w'.cell? ⟨w.heap.size+1,0,none⟩=some (.int .i64 (1))∧w'.cell? ⟨w.heap.size+1,1,none⟩=some (.int .i64 ((a:Int)))∧w'.cell? ⟨w.heap.size+1,2,none⟩=some (.int .i64 ((f:Int)))∧w'.cell? ⟨w.heap.size+1,3,none⟩=some (.int .i64 ((p:Int)))) (first | (refine⟨(((Below.refl _ _).alloc (Nat.le_refl _) _).alloc (by simp) _).drew,?_⟩;go_keep) | (go_split_ands;and_intros<;>assumption) | (go_split_ands;exact⟨keepBelow (by assumption) hb,keepSize hb (by assumption),keepCell hb (Nat.lt_of_succ_lt (by assumption)) (by assumption),keepCell hb (Nat.lt_of_succ_lt (by assumption)) (by assumption),keepCell hb (Nat.lt_of_succ_lt (by assumption)) (by assumption),keepCell hb (Nat.lt_of_succ_lt (by assumption)) (by assumption),keepCell hb (by assumption) (by assumption),keepCell hb (by assumption) (by assumption),keepCell hb (by assumption) (by assumption),keepCell hb (by assumption) (by assumption)⟩))
    (first | (go_at_call 90;refine(ctext 1 a f p _).mono ?_;rintro e w'⟨rfl,hb⟩))
   go_split_ands
   obtain⟨hc1,hf1⟩:=bcell hb;have HB9:Hid (Below w.heap.size w w'):=by show Below w.heap.size w w';assumption
   clear hb;go_wp2_with fail
   refine(cframeAt f _ (by omega) (by omega)).mono ?_;rintro e w3⟨rfl,rfl⟩;go_wp2;refine bodyPost_ret (v:=(.agg #[.int .i64 (0),.int .i64 (0),.int .i64 (0),.int .i64 (0)])) (by simp[results,Tryz.results84,go_sem, *]) rfl ⟨by rw[HT.out];rfl,?_⟩;exact((((HB9.out).setCell (by simp<;>omega) _).setCell (by simp<;>omega) _).setCell (by simp<;>omega) _).setCell (by simp<;>omega) _
  ·have HT:Hid (toldA head 40 1 size=(⟨1,numB head 40,numB head 44,numB head 48⟩:Cm)):=HE.trans (by rw[if_neg (by omega),if_neg (fun h=>h c3),if_neg (fun h=>c5 h.2)]);clear HE;go_enter Tryz.func84,Tryz.ntmps84;go_wp2_with fail
   refine(cslotAt 1 _ (by omega) (by omega)).mono ?_;rintro e w2⟨rfl,rfl⟩;go_wp2_with fail
   refine(cnumber head 40 _ HA.out HH.out).mono ?_;rintro e w2⟨rfl,rfl⟩;go_wp2_with fail
   refine(cnumber head 44 _ HB.out HH.out).mono ?_;rintro e w2⟨rfl,rfl⟩;go_wp2_with fail
   refine(cnumber head 48 _ HC.out HH.out).mono ?_;rintro e w2⟨rfl,rfl⟩;generalize numB head 40=a at *;generalize numB head 44=f at *;generalize numB head 48=p at *;have hwr:IntKind.i64.wrap 64=64:=by decide
   have hsl:∀X,(Instr.slice 9 (.string head) (some (.int .i64 40)) (some (.int .i64 64)) none).run Tryz.prog X=.ok (.string (head.extract 40 64)) X:=fun X=>slice_lit head 40 64 (by omega) (by omega) X
   have j1:decide ((a:Int)<1)=false:=decide_eq_false (by omega);have j2:decide ((3:Int)<(a:Int))=false:=decide_eq_false (by omega);have i4:(0:Int)<(f:Int):=by omega
   have i5:¬(size:Int)<64+1028*(f:Int):=by omega
   clear h1 h2 HA HB HC HH hh
   go_upto_region 5 with fail
   go_region_held3 (fun w'=>Below w.heap.size w w'∧w.heap.size+1<w'.heap.size∧w'.cell? ⟨w.heap.size,0,none⟩=some (.int .i64 (0))∧w'.cell? ⟨w.heap.size,1,none⟩=some (.int .i64 (0))∧w'.cell? ⟨w.heap.size,2,none⟩=some (.int .i64 (0))∧w'.cell? ⟨w.heap.size,3,none⟩=some (.int .i64 (0))∧w'.cell? ⟨w.heap.size+1,0,none⟩=some (.int .i64 (1))∧w'.cell? ⟨w.heap.size+1,1,none⟩=some (.int .i64 ((a:Int)))∧w'.cell? ⟨w.heap.size+1,2,none⟩=some (.int .i64 ((f:Int)))∧w'.cell? ⟨w.heap.size+1,3,none⟩=some (.int .i64 ((p:Int)))) (first | (refine⟨(((Below.refl _ _).alloc (Nat.le_refl _) _).alloc (by simp) _).drew,?_⟩;go_keep) | (go_split_ands;and_intros<;>assumption) | (go_split_ands;exact⟨keepBelow (by assumption) hb,keepSize hb (by assumption),keepCell hb (Nat.lt_of_succ_lt (by assumption)) (by assumption),keepCell hb (Nat.lt_of_succ_lt (by assumption)) (by assumption),keepCell hb (Nat.lt_of_succ_lt (by assumption)) (by assumption),keepCell hb (Nat.lt_of_succ_lt (by assumption)) (by assumption),keepCell hb (by assumption) (by assumption),keepCell hb (by assumption) (by assumption),keepCell hb (by assumption) (by assumption),keepCell hb (by assumption) (by assumption)⟩))
    (first | (go_at_call 90;refine(ctext 1 a f p _).mono ?_;rintro e w'⟨rfl,hb⟩))
   go_split_ands
   obtain⟨hc1,hf1⟩:=bcell hb;have HB9:Hid (Below w.heap.size w w'):=by show Below w.heap.size w w';assumption
   clear hb;go_wp2_with fail
   refine(cframeAt f _ (by omega) (by omega)).mono ?_;rintro e w3⟨rfl,rfl⟩;go_wp2;refine bodyPost_ret (v:=(.agg #[.int .i64 (1),.int .i64 ((a:Int)),.int .i64 ((f:Int)),.int .i64 ((p:Int))])) (by simp[results,Tryz.results84,go_sem, *]) rfl ⟨by rw[HT.out];rfl,?_⟩;exact((((HB9.out).setCell (by simp<;>omega) _).setCell (by simp<;>omega) _).setCell (by simp<;>omega) _).setCell (by simp<;>omega) _
 ·have HT:Hid (toldA head 40 1 size=(⟨1,numB head 40,numB head 44,numB head 48⟩:Cm)):=HE.trans (by rw[if_neg (by omega),if_neg (fun h=>h c3),if_neg (fun h=>c4 h.1)]);clear HE;go_enter Tryz.func84,Tryz.ntmps84;go_wp2_with fail
  refine(cslotAt 1 _ (by omega) (by omega)).mono ?_;rintro e w2⟨rfl,rfl⟩;go_wp2_with fail
  refine(cnumber head 40 _ HA.out HH.out).mono ?_;rintro e w2⟨rfl,rfl⟩;go_wp2_with fail
  refine(cnumber head 44 _ HB.out HH.out).mono ?_;rintro e w2⟨rfl,rfl⟩;go_wp2_with fail
  refine(cnumber head 48 _ HC.out HH.out).mono ?_;rintro e w2⟨rfl,rfl⟩;generalize numB head 40=a at *;generalize numB head 44=f at *;generalize numB head 48=p at *;have hwr:IntKind.i64.wrap 64=64:=by decide
  have hsl:∀X,(Instr.slice 9 (.string head) (some (.int .i64 40)) (some (.int .i64 64)) none).run Tryz.prog X=.ok (.string (head.extract 40 64)) X:=fun X=>slice_lit head 40 64 (by omega) (by omega) X
  have j1:decide ((a:Int)<1)=false:=decide_eq_false (by omega);have j2:decide ((3:Int)<(a:Int))=false:=decide_eq_false (by omega);have i4:¬(0:Int)<(f:Int):=by omega
  clear h1 h2 HA HB HC HH hh
  go_upto_region 5 with fail
  go_region_held3 (fun w'=>Below w.heap.size w w'∧w.heap.size+1<w'.heap.size∧w'.cell? ⟨w.heap.size,0,none⟩=some (.int .i64 (0))∧w'.cell? ⟨w.heap.size,1,none⟩=some (.int .i64 (0))∧w'.cell? ⟨w.heap.size,2,none⟩=some (.int .i64 (0))∧w'.cell? ⟨w.heap.size,3,none⟩=some (.int .i64 (0))∧w'.cell? ⟨w.heap.size+1,0,none⟩=some (.int .i64 (1))∧w'.cell? ⟨w.heap.size+1,1,none⟩=some (.int .i64 ((a:Int)))∧w'.cell? ⟨w.heap.size+1,2,none⟩=some (.int .i64 ((f:Int)))∧w'.cell? ⟨w.heap.size+1,3,none⟩=some (.int .i64 ((p:Int)))) (first | (refine⟨(((Below.refl _ _).alloc (Nat.le_refl _) _).alloc (by simp) _).drew,?_⟩;go_keep) | (go_split_ands;and_intros<;>assumption) | (go_split_ands;exact⟨keepBelow (by assumption) hb,keepSize hb (by assumption),keepCell hb (Nat.lt_of_succ_lt (by assumption)) (by assumption),keepCell hb (Nat.lt_of_succ_lt (by assumption)) (by assumption),keepCell hb (Nat.lt_of_succ_lt (by assumption)) (by assumption),keepCell hb (Nat.lt_of_succ_lt (by assumption)) (by assumption),keepCell hb (by assumption) (by assumption),keepCell hb (by assumption) (by assumption),keepCell hb (by assumption) (by assumption),keepCell hb (by assumption) (by assumption)⟩))
   (first | (go_at_call 90;refine(ctext 1 a f p _).mono ?_;rintro e w'⟨rfl,hb⟩))
  go_split_ands
  obtain⟨hc1,hf1⟩:=bcell hb;have HB9:Hid (Below w.heap.size w w'):=by show Below w.heap.size w w';assumption
  clear hb;go_wp2;refine bodyPost_ret (v:=(.agg #[.int .i64 (1),.int .i64 ((a:Int)),.int .i64 ((f:Int)),.int .i64 ((p:Int))])) (by simp[results,Tryz.results84,go_sem, *]) rfl ⟨by rw[HT.out];rfl,?_⟩;exact((((HB9.out).setCell (by simp<;>omega) _).setCell (by simp<;>omega) _).setCell (by simp<;>omega) _).setCell (by simp<;>omega) _
def markB:ByteArray:=⟨#[114,101,108,115,116,111,114,101,32,108,111,103,32,48,48,49]⟩
def isMark (s:ByteArray):Bool:=decide (16≤s.size∧s.extract 0 16=markB)
theorem cprefix0 (s:ByteArray)(w:World):Calls Tryz.prog 118 #[.string s,.string (⟨#[114,101,108,115,116,111,114,101,32,108,111,103,32,48,48,49]⟩:ByteArray)] w fun e w'=>e=.returned (.bool (isMark s))∧Below w.heap.size w w':=by
 by_cases h1:16≤s.size
 ·have hsl:∀X,(Instr.slice 9 (.string s) none (some (.int .i64 16)) none).run Tryz.prog X=.ok (.string (s.extract 0 16)) X:=fun X=>by
   have:=run_slice_string_h X 9 s Tryz.underlying9 .i64 16 (by decide) (by omega);exact this
  have i1:(16:Int)≤(s.size:Int):=by omega
  by_cases h2:s.extract 0 16=markB
  ·have HT:Hid (isMark s=true):=decide_eq_true ⟨h1,h2⟩;have h2':s.extract 0 16=(⟨#[114,101,108,115,116,111,114,101,32,108,111,103,32,48,48,49]⟩:ByteArray):=h2;clear h1 h2;go_enter Tryz.func118,Tryz.ntmps118;go_wp2;go_ret;exact⟨by rw[HT.out];rfl,by first | exact Below.refl _ _ | exact below_dw (Below.refl _ _)⟩
  ·have HT:Hid (isMark s=false):=decide_eq_false (fun h=>h2 h.2);have n2:=ne_lists h2;have n3:¬(s.extract 0 16).toList=[114,101,108,115,116,111,114,101,32,108,111,103,32,48,48,49]:=fun h=>n2 (h.trans (by decide +kernel))
   have m3:((s.extract 0 16).toList == [114,101,108,115,116,111,114,101,32,108,111,103,32,48,48,49])=false:=by simpa using n3
   clear h1 h2 n2;go_enter Tryz.func118,Tryz.ntmps118;go_wp2;go_ret;exact⟨by rw[HT.out];rfl,by first | exact Below.refl _ _ | exact below_dw (Below.refl _ _)⟩
 ·have HT:Hid (isMark s=false):=decide_eq_false (fun h=>h1 h.1);have i1:(s.size:Int)<16:=by omega
  clear h1;go_enter Tryz.func118,Tryz.ntmps118;go_wp2;go_ret;exact⟨by rw[HT.out];rfl,by first | exact Below.refl _ _ | exact below_dw (Below.refl _ _)⟩
theorem cprefix (s:ByteArray)(w:World):Calls Tryz.prog 83 #[.string s,.string (⟨#[114,101,108,115,116,111,114,101,32,108,111,103,32,48,48,49]⟩:ByteArray)] w fun e w'=>e=.returned (.bool (isMark s))∧Below w.heap.size w w':=by
 go_enter Tryz.func83,Tryz.ntmps83;go_wp2_with fail
 refine(cprefix0 s _).mono ?_;rintro e w2⟨rfl,hb⟩;go_wp2;go_ret;exact⟨rfl,hb⟩
theorem wcell4 {W:World}{b:Nat}{v0 v1 v2 v3:Value}{t:TypeId}(h:W.heap[b]?=some (.cells #[v0,v1,v2,v3] t (0,0))):(W.cell? ⟨b,0,none⟩=some v0∧W.cell? ⟨b,1,none⟩=some v1∧W.cell? ⟨b,2,none⟩=some v2∧W.cell? ⟨b,3,none⟩=some v3)∧(W.frozen? ⟨b,0,none⟩=false∧W.frozen? ⟨b,1,none⟩=false∧W.frozen? ⟨b,2,none⟩=false∧W.frozen? ⟨b,3,none⟩=false)∧b<W.heap.size:=by
 refine⟨⟨?_,?_,?_,?_⟩,⟨?_,?_,?_,?_⟩,(Array.getElem?_eq_some_iff.1 h).1⟩<;>simp[World.cell?,World.frozen?,h]
def headB (log:List UInt8):ByteArray:=⟨(log.take 64).toArray⟩
def pickC (a b:Cm):Cm:=if a.number=0∨b.number=nxN a.number then b else a
def lastC (log:List UInt8):Cm:=if isMark (headB log) then pickC (toldA (headB log) 16 0 log.length) (toldA (headB log) 40 1 log.length) else cm0
structure okCm (c:Cm):Prop where
 slot:c.slot≤1
 number:c.number≤3
 frames:c.frames<4294967296
 pages:c.pages<4294967296
theorem okCm0:okCm cm0:=⟨by decide,by decide,by decide,by decide⟩
theorem told_ok (head:ByteArray)(p slot size:Nat)(hs:slot≤1):okCm (toldA head p slot size):=by
 unfold toldA;split
 ·exact okCm0
 ·split
  ·exact okCm0
  ·rename_i h
   split
   ·exact okCm0
   ·split
    ·exact okCm0
    ·exact⟨hs,by show numB head p≤3;omega,numB_lt _ _,numB_lt _ _⟩
theorem pick_ok {a b:Cm}(ha:okCm a)(hb:okCm b):okCm (pickC a b):=by
 unfold pickC;split
 ·exact hb
 ·exact ha
theorem last_ok (log:List UInt8):okCm (lastC log):=by
 unfold lastC;split
 ·exact pick_ok (told_ok _ _ _ _ (by decide)) (told_ok _ _ _ _ (by decide))
 ·exact okCm0
theorem headB_size (log:List UInt8):(headB log).size=min 64 log.length:=by
 show(log.take 64).toArray.size=_;simp
theorem readHead (S:DS)(hd:S.down=false)(n:Int)(hn:(n=((S.lb 2).length:Int)∧(S.lb 2).length≤64)∨(n=64∧64≤(S.lb 2).length)):rdE 1 0 n S.lb S.down=0∧rdS 1 0 n S.lb S.down=headB (S.lb 2):=by
 have h0:0≤n∧n≤64∧n≤((S.lb 2).length:Int):=by omega
 have ha:askE 1 0 n S.down=0:=by
  unfold askE fitsD;rw[hd,if_pos (by simp;omega)];rfl
 have he:rdE 1 0 n S.lb S.down=0:=by
  unfold rdE;rw[if_pos ha];exact if_neg (by show ¬((S.lb 2).length:Int)<0+n;omega)
 refine⟨he,?_⟩;unfold rdS;rw[if_pos he];show(⟨(((S.lb 2).drop 0).take n.toNat).toArray⟩:ByteArray)=⟨((S.lb 2).take 64).toArray⟩;rw[List.drop_zero]
 congr 2
 rcases hn with⟨rfl,h⟩|⟨rfl,h⟩
 ·rw[Int.toNat_natCast,List.take_of_length_le (Nat.le_refl _),List.take_of_length_le h]
 ·rfl
theorem clastCA (X:World)(B D:Nat)(S:DS)(h:PDs X B D S)(hd:S.down=false)(hz:(S.lb 2).length≤67108864)(hm:(S.lb 2).length≤64):Calls Tryz.prog 45 #[(.pointer (some ⟨D,0,none⟩))] X fun e w'=>e=.returned (.tuple #[cmV (lastC (S.lb 2)),.int .i64 0])∧Below X.heap.size X w':=by
 have ea:askE 1 0 0 S.down=0:=by rw[hd];rfl
 have es:sizV 1 S.lb S.down=((S.lb 2).length:Int):=by unfold sizV;rw[if_pos ea];rfl
 have EA:Hid _:=ea;have ES:Hid _:=es;have R:Hid _:=readHead S hd ((S.lb 2).length:Int) (by omega);have HP:Hid (PDs X B D S):=h;have hsz:=headB_size (S.lb 2);have hh:(headB (S.lb 2)).size≤1000000:=by omega
 have HH:Hid ((headB (S.lb 2)).size≤1000000):=hh;have i1:((S.lb 2).length:Int)≤64:=by omega
 have HL:Hid (lastC (S.lb 2)=if isMark (headB (S.lb 2)) then pickC (toldA (headB (S.lb 2)) 16 0 (S.lb 2).length) (toldA (headB (S.lb 2)) 40 1 (S.lb 2).length) else cm0):=rfl;clear ea es h hd hz hm hsz hh;cases hM:isMark (headB (S.lb 2)) with
 | false =>
  have HT:Hid (lastC (S.lb 2)=cm0):=HL.out.trans (by rw[hM];rfl);have HM:Hid _:=hM;clear HL hM;go_enter Tryz.func45,Tryz.ntmps45;go_wp2_with fail
  refine(csizeD 1 _ B D S (HP.out.below ((Below.refl _ _).alloc (Nat.le_refl _) _))).mono ?_;rintro e w1⟨rfl,rfl⟩;rw[EA.out,ES.out];go_wp2_with fail
  refine(creadD 1 0 ((S.lb 2).length:Int) _ B D S (HP.out.below ((Below.refl _ _).alloc (Nat.le_refl _) _))).mono ?_;rintro e w1⟨rfl,rfl⟩;rw[R.out.1,R.out.2];generalize (S.lb 2).length=z at *;generalize headB (S.lb 2)=hd at *;go_wp2_with fail
  refine(cprefix hd _).mono ?_;rintro e w1⟨rfl,hb1⟩;rw[HM.out];obtain⟨hc1,hf1⟩:=bcell hb1;have za1:X.heap.size<w1.heap.size:=(by have:=hb1.size;(try simp at this);omega);have HB1:Hid (Below X.heap.size X w1):=keepBelow ((Below.refl _ _).alloc (Nat.le_refl _) _) hb1;clear hb1;go_wp2_with fail
  refine bodyPost_ret (v:=.tuple #[(.agg #[.int .i64 (0),.int .i64 (0),.int .i64 (0),.int .i64 (0)]),.int .i64 0]) (by simp[results,Tryz.results45,go_sem, *]) rfl ⟨by rw[HT.out];rfl,?_⟩;exact((((HB1.out).setCell (by simp<;>omega) _).setCell (by simp<;>omega) _).setCell (by simp<;>omega) _).setCell (by simp<;>omega) _
 | true =>
  have HT:Hid (lastC (S.lb 2)=pickC (toldA (headB (S.lb 2)) 16 0 (S.lb 2).length) (toldA (headB (S.lb 2)) 40 1 (S.lb 2).length)):=HL.out.trans (by rw[hM];rfl);have HM:Hid _:=hM;have OA:Hid _:=told_ok (headB (S.lb 2)) 16 0 (S.lb 2).length (by decide);have OB:Hid _:=told_ok (headB (S.lb 2)) 40 1 (S.lb 2).length (by decide);clear HL hM;go_enter Tryz.func45,Tryz.ntmps45;go_wp2_with fail
  refine(csizeD 1 _ B D S (HP.out.below ((Below.refl _ _).alloc (Nat.le_refl _) _))).mono ?_;rintro e w1⟨rfl,rfl⟩;rw[EA.out,ES.out];go_wp2_with fail
  refine(creadD 1 0 ((S.lb 2).length:Int) _ B D S (HP.out.below ((Below.refl _ _).alloc (Nat.le_refl _) _))).mono ?_;rintro e w1⟨rfl,rfl⟩;rw[R.out.1,R.out.2];have TA:Hid (∀W,Calls Tryz.prog 84 #[.string (headB (S.lb 2)),.int .i64 0,.int .i64 (S.lb 2).length] W fun e w'=>e=.returned (cmV (toldA (headB (S.lb 2)) 16 0 (S.lb 2).length))∧Below W.heap.size W w'):=fun W=>ctold0 _ _ W HH.out
  have TB:Hid (∀W,Calls Tryz.prog 84 #[.string (headB (S.lb 2)),.int .i64 1,.int .i64 (S.lb 2).length] W fun e w'=>e=.returned (cmV (toldA (headB (S.lb 2)) 40 1 (S.lb 2).length))∧Below W.heap.size W w'):=fun W=>ctold1 _ _ W HH.out
  generalize toldA (headB (S.lb 2)) 16 0 (S.lb 2).length=ca at *;generalize toldA (headB (S.lb 2)) 40 1 (S.lb 2).length=cb at *;generalize (S.lb 2).length=z at *;generalize headB (S.lb 2)=hd at *;obtain⟨sa,na,fa,pa⟩:=ca;obtain⟨sb,nb,fb,pb⟩:=cb;go_wp2_with fail
  refine(cprefix hd _).mono ?_;rintro e w1⟨rfl,hb1⟩;rw[HM.out];have HO1:Hid (w1.heap[X.heap.size]?=some (.cells #[.int .i64 0,.int .i64 0,.int .i64 0,.int .i64 0] 91 (0,0))):=(hb1.block _ (by simp)).trans (heap_alloc_new X _);have HB1:Hid (Below X.heap.size X w1):=keepBelow ((Below.refl _ _).alloc (Nat.le_refl _) _) hb1;clear hb1;go_wp2_with fail
  refine(TA.out _).mono ?_;rintro e w2⟨rfl,hb2⟩;have HO2:Hid (w2.heap[X.heap.size]?=some (.cells #[.int .i64 0,.int .i64 0,.int .i64 0,.int .i64 0] 91 (0,0))):=(hb2.block _ (Array.getElem?_eq_some_iff.1 HO1.out).1).trans HO1.out;have HB2:Hid (Below X.heap.size X w2):=keepBelow HB1.out hb2;clear hb2;go_wp2_with fail
  refine(TB.out _).mono ?_;rintro e w3⟨rfl,hb3⟩;have HO3:Hid (w3.heap[X.heap.size]?=some (.cells #[.int .i64 0,.int .i64 0,.int .i64 0,.int .i64 0] 91 (0,0))):=(hb3.block _ (Array.getElem?_eq_some_iff.1 HO2.out).1).trans HO2.out;have HB3:Hid (Below X.heap.size X w3):=keepBelow HB2.out hb3;clear hb3;have NA:Hid (na≤4294967296):=Nat.le_trans OA.out.number (by decide);simp only[cmV];by_cases c1:na=0
  ·have HQ:Hid (pickC ⟨sa,na,fa,pa⟩ ⟨sb,nb,fb,pb⟩=⟨sb,nb,fb,pb⟩):=if_pos (Or.inl c1);subst c1;go_wp2_with fail
   go_quiet (fail)
   have HB9:Hid (Below X.heap.size X (((w3.alloc (.cells #[.int .i64 sa,.int .i64 0,.int .i64 fa,.int .i64 pa] 91)).alloc (.cells #[.int .i64 sb,.int .i64 nb,.int .i64 fb,.int .i64 pb] 91)).drewN nq)):=below_dw ((HB3.out.alloc (Nat.le_of_lt (Array.getElem?_eq_some_iff.1 HO3.out).1) _).alloc (by simp;have:=(Array.getElem?_eq_some_iff.1 HO3.out).1;omega) _);have hO:(((w3.alloc (.cells #[.int .i64 sa,.int .i64 0,.int .i64 fa,.int .i64 pa] 91)).alloc (.cells #[.int .i64 sb,.int .i64 nb,.int .i64 fb,.int .i64 pb] 91)).drewN nq).heap[X.heap.size]?=some (.cells #[.int .i64 0,.int .i64 0,.int .i64 0,.int .i64 0] 91 (0,0)):=(heap_alloc_old _ _ (by simp;have:=(Array.getElem?_eq_some_iff.1 HO3.out).1;omega)).trans ((heap_alloc_old _ _ (Array.getElem?_eq_some_iff.1 HO3.out).1).trans HO3.out);have hA:(((w3.alloc (.cells #[.int .i64 sa,.int .i64 0,.int .i64 fa,.int .i64 pa] 91)).alloc (.cells #[.int .i64 sb,.int .i64 nb,.int .i64 fb,.int .i64 pb] 91)).drewN nq).heap[w3.heap.size]?=some (.cells #[.int .i64 sa,.int .i64 0,.int .i64 fa,.int .i64 pa] 91 (0,0)):=(heap_alloc_old _ _ (by simp)).trans (heap_alloc_new w3 _);have hBB:(((w3.alloc (.cells #[.int .i64 sa,.int .i64 0,.int .i64 fa,.int .i64 pa] 91)).alloc (.cells #[.int .i64 sb,.int .i64 nb,.int .i64 fb,.int .i64 pb] 91)).drewN nq).heap[w3.heap.size+1]?=some (.cells #[.int .i64 sb,.int .i64 nb,.int .i64 fb,.int .i64 pb] 91 (0,0)):=by
    have:=heap_alloc_new (w3.alloc (.cells #[.int .i64 sa,.int .i64 0,.int .i64 fa,.int .i64 pa] 91)) (.cells #[.int .i64 sb,.int .i64 nb,.int .i64 fb,.int .i64 pb] 91);rw[show(w3.alloc (.cells #[.int .i64 sa,.int .i64 0,.int .i64 fa,.int .i64 pa] 91)).heap.size=w3.heap.size+1 by simp] at this;exact this
   obtain⟨⟨o0,o1,o2,o3⟩,⟨g0,g1,g2,g3⟩,lo⟩:=wcell4 hO;obtain⟨⟨a0,a1,a2,a3⟩,-,la⟩:=wcell4 hA;obtain⟨⟨b0,b1,b2,b3⟩,-,lb⟩:=wcell4 hBB;clear hO hA hBB;generalize ((w3.alloc (.cells #[.int .i64 sa,.int .i64 0,.int .i64 fa,.int .i64 pa] 91)).alloc (.cells #[.int .i64 sb,.int .i64 nb,.int .i64 fb,.int .i64 pb] 91)).drewN nq=W9 at *;go_wp2;refine bodyPost_ret (v:=.tuple #[(.agg #[.int .i64 ((sb:Int)),.int .i64 ((nb:Int)),.int .i64 ((fb:Int)),.int .i64 ((pb:Int))]),.int .i64 0]) (by simp[results,Tryz.results45,go_sem, *]) rfl ⟨by rw[HT.out,HQ.out];rfl,?_⟩;exact((((HB9.out).setCell (by simp<;>omega) _).setCell (by simp<;>omega) _).setCell (by simp<;>omega) _).setCell (by simp<;>omega) _
  by_cases c2:nb=nxN na
  ·have HQ:Hid (pickC ⟨sa,na,fa,pa⟩ ⟨sb,nb,fb,pb⟩=⟨sb,nb,fb,pb⟩):=if_pos (Or.inr c2);have i2:((na:Int) == 0)=false:=by simpa using c1
   have i3:(nb:Int)=(nxN na:Nat):=by omega
   have i4:((nb:Int) == (nxN na:Nat))=true:=by simpa using i3
   clear c1 c2 i3;go_wp2_with fail
   go_region_held3 (fun w'=>Below w3.heap.size w3 w'∧w3.heap.size+1<w'.heap.size∧w'.cell? ⟨w3.heap.size,0,none⟩=some (.int .i64 ((sa:Int)))∧w'.cell? ⟨w3.heap.size,1,none⟩=some (.int .i64 ((na:Int)))∧w'.cell? ⟨w3.heap.size,2,none⟩=some (.int .i64 ((fa:Int)))∧w'.cell? ⟨w3.heap.size,3,none⟩=some (.int .i64 ((pa:Int)))∧w'.cell? ⟨w3.heap.size+1,0,none⟩=some (.int .i64 ((sb:Int)))∧w'.cell? ⟨w3.heap.size+1,1,none⟩=some (.int .i64 ((nb:Int)))∧w'.cell? ⟨w3.heap.size+1,2,none⟩=some (.int .i64 ((fb:Int)))∧w'.cell? ⟨w3.heap.size+1,3,none⟩=some (.int .i64 ((pb:Int)))) (first | (refine⟨(((Below.refl _ _).alloc (Nat.le_refl _) _).alloc (by simp) _).drew,?_⟩;go_keep) | (go_split_ands;and_intros<;>assumption) | (go_split_ands;exact⟨keepBelow (by assumption) hb,keepSize hb (by assumption),keepCell hb (Nat.lt_of_succ_lt (by assumption)) (by assumption),keepCell hb (Nat.lt_of_succ_lt (by assumption)) (by assumption),keepCell hb (Nat.lt_of_succ_lt (by assumption)) (by assumption),keepCell hb (Nat.lt_of_succ_lt (by assumption)) (by assumption),keepCell hb (by assumption) (by assumption),keepCell hb (by assumption) (by assumption),keepCell hb (by assumption) (by assumption),keepCell hb (by assumption) (by assumption)⟩))
    (first | (go_at_call 85;refine(cnext na _ NA.out).mono ?_;rintro e w'⟨rfl,rfl⟩))
   have HB9:Hid (Below X.heap.size X (((w3.alloc (.cells #[.int .i64 sa,.int .i64 na,.int .i64 fa,.int .i64 pa] 91)).alloc (.cells #[.int .i64 sb,.int .i64 nb,.int .i64 fb,.int .i64 pb] 91)).drew)):=Below.drew ((HB3.out.alloc (Nat.le_of_lt (Array.getElem?_eq_some_iff.1 HO3.out).1) _).alloc (by simp;have:=(Array.getElem?_eq_some_iff.1 HO3.out).1;omega) _);have hO:(((w3.alloc (.cells #[.int .i64 sa,.int .i64 na,.int .i64 fa,.int .i64 pa] 91)).alloc (.cells #[.int .i64 sb,.int .i64 nb,.int .i64 fb,.int .i64 pb] 91)).drew).heap[X.heap.size]?=some (.cells #[.int .i64 0,.int .i64 0,.int .i64 0,.int .i64 0] 91 (0,0)):=(heap_alloc_old _ _ (by simp;have:=(Array.getElem?_eq_some_iff.1 HO3.out).1;omega)).trans ((heap_alloc_old _ _ (Array.getElem?_eq_some_iff.1 HO3.out).1).trans HO3.out);have hA:(((w3.alloc (.cells #[.int .i64 sa,.int .i64 na,.int .i64 fa,.int .i64 pa] 91)).alloc (.cells #[.int .i64 sb,.int .i64 nb,.int .i64 fb,.int .i64 pb] 91)).drew).heap[w3.heap.size]?=some (.cells #[.int .i64 sa,.int .i64 na,.int .i64 fa,.int .i64 pa] 91 (0,0)):=(heap_alloc_old _ _ (by simp)).trans (heap_alloc_new w3 _);have hBB:(((w3.alloc (.cells #[.int .i64 sa,.int .i64 na,.int .i64 fa,.int .i64 pa] 91)).alloc (.cells #[.int .i64 sb,.int .i64 nb,.int .i64 fb,.int .i64 pb] 91)).drew).heap[w3.heap.size+1]?=some (.cells #[.int .i64 sb,.int .i64 nb,.int .i64 fb,.int .i64 pb] 91 (0,0)):=by
    have:=heap_alloc_new (w3.alloc (.cells #[.int .i64 sa,.int .i64 na,.int .i64 fa,.int .i64 pa] 91)) (.cells #[.int .i64 sb,.int .i64 nb,.int .i64 fb,.int .i64 pb] 91);rw[show(w3.alloc (.cells #[.int .i64 sa,.int .i64 na,.int .i64 fa,.int .i64 pa] 91)).heap.size=w3.heap.size+1 by simp] at this;exact this
   obtain⟨⟨o0,o1,o2,o3⟩,⟨g0,g1,g2,g3⟩,lo⟩:=wcell4 hO;obtain⟨⟨a0,a1,a2,a3⟩,-,la⟩:=wcell4 hA;obtain⟨⟨b0,b1,b2,b3⟩,-,lb⟩:=wcell4 hBB;clear hO hA hBB;generalize ((w3.alloc (.cells #[.int .i64 sa,.int .i64 na,.int .i64 fa,.int .i64 pa] 91)).alloc (.cells #[.int .i64 sb,.int .i64 nb,.int .i64 fb,.int .i64 pb] 91)).drew=W9 at *;go_wp2;refine bodyPost_ret (v:=.tuple #[(.agg #[.int .i64 ((sb:Int)),.int .i64 ((nb:Int)),.int .i64 ((fb:Int)),.int .i64 ((pb:Int))]),.int .i64 0]) (by simp[results,Tryz.results45,go_sem, *]) rfl ⟨by rw[HT.out,HQ.out];rfl,?_⟩;exact((((HB9.out).setCell (by simp<;>omega) _).setCell (by simp<;>omega) _).setCell (by simp<;>omega) _).setCell (by simp<;>omega) _
  have HQ:Hid (pickC ⟨sa,na,fa,pa⟩ ⟨sb,nb,fb,pb⟩=⟨sa,na,fa,pa⟩):=if_neg (by rintro(h | h);exact c1 h;exact c2 h);have i2:((na:Int) == 0)=false:=by simpa using c1
  have i4:((nb:Int) == (nxN na:Nat))=false:=by
   have:¬(nb:Int)=(nxN na:Nat):=by omega
   simpa using this
  clear c1 c2;go_wp2_with fail
  go_region_held3 (fun w'=>Below w3.heap.size w3 w'∧w3.heap.size+1<w'.heap.size∧w'.cell? ⟨w3.heap.size,0,none⟩=some (.int .i64 ((sa:Int)))∧w'.cell? ⟨w3.heap.size,1,none⟩=some (.int .i64 ((na:Int)))∧w'.cell? ⟨w3.heap.size,2,none⟩=some (.int .i64 ((fa:Int)))∧w'.cell? ⟨w3.heap.size,3,none⟩=some (.int .i64 ((pa:Int)))∧w'.cell? ⟨w3.heap.size+1,0,none⟩=some (.int .i64 ((sb:Int)))∧w'.cell? ⟨w3.heap.size+1,1,none⟩=some (.int .i64 ((nb:Int)))∧w'.cell? ⟨w3.heap.size+1,2,none⟩=some (.int .i64 ((fb:Int)))∧w'.cell? ⟨w3.heap.size+1,3,none⟩=some (.int .i64 ((pb:Int)))) (first | (refine⟨(((Below.refl _ _).alloc (Nat.le_refl _) _).alloc (by simp) _).drew,?_⟩;go_keep) | (go_split_ands;and_intros<;>assumption) | (go_split_ands;exact⟨keepBelow (by assumption) hb,keepSize hb (by assumption),keepCell hb (Nat.lt_of_succ_lt (by assumption)) (by assumption),keepCell hb (Nat.lt_of_succ_lt (by assumption)) (by assumption),keepCell hb (Nat.lt_of_succ_lt (by assumption)) (by assumption),keepCell hb (Nat.lt_of_succ_lt (by assumption)) (by assumption),keepCell hb (by assumption) (by assumption),keepCell hb (by assumption) (by assumption),keepCell hb (by assumption) (by assumption),keepCell hb (by assumption) (by assumption)⟩))
   (first | (go_at_call 85;refine(cnext na _ NA.out).mono ?_;rintro e w'⟨rfl,rfl⟩))
  have HB9:Hid (Below X.heap.size X (((w3.alloc (.cells #[.int .i64 sa,.int .i64 na,.int .i64 fa,.int .i64 pa] 91)).alloc (.cells #[.int .i64 sb,.int .i64 nb,.int .i64 fb,.int .i64 pb] 91)).drew)):=Below.drew ((HB3.out.alloc (Nat.le_of_lt (Array.getElem?_eq_some_iff.1 HO3.out).1) _).alloc (by simp;have:=(Array.getElem?_eq_some_iff.1 HO3.out).1;omega) _);have hO:(((w3.alloc (.cells #[.int .i64 sa,.int .i64 na,.int .i64 fa,.int .i64 pa] 91)).alloc (.cells #[.int .i64 sb,.int .i64 nb,.int .i64 fb,.int .i64 pb] 91)).drew).heap[X.heap.size]?=some (.cells #[.int .i64 0,.int .i64 0,.int .i64 0,.int .i64 0] 91 (0,0)):=(heap_alloc_old _ _ (by simp;have:=(Array.getElem?_eq_some_iff.1 HO3.out).1;omega)).trans ((heap_alloc_old _ _ (Array.getElem?_eq_some_iff.1 HO3.out).1).trans HO3.out);have hA:(((w3.alloc (.cells #[.int .i64 sa,.int .i64 na,.int .i64 fa,.int .i64 pa] 91)).alloc (.cells #[.int .i64 sb,.int .i64 nb,.int .i64 fb,.int .i64 pb] 91)).drew).heap[w3.heap.size]?=some (.cells #[.int .i64 sa,.int .i64 na,.int .i64 fa,.int .i64 pa] 91 (0,0)):=(heap_alloc_old _ _ (by simp)).trans (heap_alloc_new w3 _);have hBB:(((w3.alloc (.cells #[.int .i64 sa,.int .i64 na,.int .i64 fa,.int .i64 pa] 91)).alloc (.cells #[.int .i64 sb,.int .i64 nb,.int .i64 fb,.int .i64 pb] 91)).drew).heap[w3.heap.size+1]?=some (.cells #[.int .i64 sb,.int .i64 nb,.int .i64 fb,.int .i64 pb] 91 (0,0)):=by
   have:=heap_alloc_new (w3.alloc (.cells #[.int .i64 sa,.int .i64 na,.int .i64 fa,.int .i64 pa] 91)) (.cells #[.int .i64 sb,.int .i64 nb,.int .i64 fb,.int .i64 pb] 91);rw[show(w3.alloc (.cells #[.int .i64 sa,.int .i64 na,.int .i64 fa,.int .i64 pa] 91)).heap.size=w3.heap.size+1 by simp] at this;exact this
  obtain⟨⟨o0,o1,o2,o3⟩,⟨g0,g1,g2,g3⟩,lo⟩:=wcell4 hO;obtain⟨⟨a0,a1,a2,a3⟩,-,la⟩:=wcell4 hA;obtain⟨⟨b0,b1,b2,b3⟩,-,lb⟩:=wcell4 hBB;clear hO hA hBB;generalize ((w3.alloc (.cells #[.int .i64 sa,.int .i64 na,.int .i64 fa,.int .i64 pa] 91)).alloc (.cells #[.int .i64 sb,.int .i64 nb,.int .i64 fb,.int .i64 pb] 91)).drew=W9 at *;go_wp2;refine bodyPost_ret (v:=.tuple #[(.agg #[.int .i64 ((sa:Int)),.int .i64 ((na:Int)),.int .i64 ((fa:Int)),.int .i64 ((pa:Int))]),.int .i64 0]) (by simp[results,Tryz.results45,go_sem, *]) rfl ⟨by rw[HT.out,HQ.out];rfl,?_⟩;exact((((HB9.out).setCell (by simp<;>omega) _).setCell (by simp<;>omega) _).setCell (by simp<;>omega) _).setCell (by simp<;>omega) _
theorem clastCB (X:World)(B D:Nat)(S:DS)(h:PDs X B D S)(hd:S.down=false)(hz:(S.lb 2).length≤67108864)(hm:64<(S.lb 2).length):Calls Tryz.prog 45 #[(.pointer (some ⟨D,0,none⟩))] X fun e w'=>e=.returned (.tuple #[cmV (lastC (S.lb 2)),.int .i64 0])∧Below X.heap.size X w':=by
 have ea:askE 1 0 0 S.down=0:=by rw[hd];rfl
 have es:sizV 1 S.lb S.down=((S.lb 2).length:Int):=by unfold sizV;rw[if_pos ea];rfl
 have EA:Hid _:=ea;have ES:Hid _:=es;have R:Hid _:=readHead S hd 64 (by omega);have HP:Hid (PDs X B D S):=h;have hsz:=headB_size (S.lb 2);have hh:(headB (S.lb 2)).size≤1000000:=by omega
 have HH:Hid ((headB (S.lb 2)).size≤1000000):=hh;have i1:(64:Int)<((S.lb 2).length:Int):=by omega
 have HL:Hid (lastC (S.lb 2)=if isMark (headB (S.lb 2)) then pickC (toldA (headB (S.lb 2)) 16 0 (S.lb 2).length) (toldA (headB (S.lb 2)) 40 1 (S.lb 2).length) else cm0):=rfl;clear ea es h hd hz hm hsz hh;cases hM:isMark (headB (S.lb 2)) with
 | false =>
  have HT:Hid (lastC (S.lb 2)=cm0):=HL.out.trans (by rw[hM];rfl);have HM:Hid _:=hM;clear HL hM;go_enter Tryz.func45,Tryz.ntmps45;go_wp2_with fail
  refine(csizeD 1 _ B D S (HP.out.below ((Below.refl _ _).alloc (Nat.le_refl _) _))).mono ?_;rintro e w1⟨rfl,rfl⟩;rw[EA.out,ES.out];go_wp2_with fail
  refine(creadD 1 0 64 _ B D S (HP.out.below ((Below.refl _ _).alloc (Nat.le_refl _) _))).mono ?_;rintro e w1⟨rfl,rfl⟩;rw[R.out.1,R.out.2];generalize (S.lb 2).length=z at *;generalize headB (S.lb 2)=hd at *;go_wp2_with fail
  refine(cprefix hd _).mono ?_;rintro e w1⟨rfl,hb1⟩;rw[HM.out];obtain⟨hc1,hf1⟩:=bcell hb1;have za1:X.heap.size<w1.heap.size:=(by have:=hb1.size;(try simp at this);omega);have HB1:Hid (Below X.heap.size X w1):=keepBelow ((Below.refl _ _).alloc (Nat.le_refl _) _) hb1;clear hb1;go_wp2_with fail
  refine bodyPost_ret (v:=.tuple #[(.agg #[.int .i64 (0),.int .i64 (0),.int .i64 (0),.int .i64 (0)]),.int .i64 0]) (by simp[results,Tryz.results45,go_sem, *]) rfl ⟨by rw[HT.out];rfl,?_⟩;exact((((HB1.out).setCell (by simp<;>omega) _).setCell (by simp<;>omega) _).setCell (by simp<;>omega) _).setCell (by simp<;>omega) _
 | true =>
  have HT:Hid (lastC (S.lb 2)=pickC (toldA (headB (S.lb 2)) 16 0 (S.lb 2).length) (toldA (headB (S.lb 2)) 40 1 (S.lb 2).length)):=HL.out.trans (by rw[hM];rfl);have HM:Hid _:=hM;have OA:Hid _:=told_ok (headB (S.lb 2)) 16 0 (S.lb 2).length (by decide);have OB:Hid _:=told_ok (headB (S.lb 2)) 40 1 (S.lb 2).length (by decide);clear HL hM;go_enter Tryz.func45,Tryz.ntmps45;go_wp2_with fail
  refine(csizeD 1 _ B D S (HP.out.below ((Below.refl _ _).alloc (Nat.le_refl _) _))).mono ?_;rintro e w1⟨rfl,rfl⟩;rw[EA.out,ES.out];go_wp2_with fail
  refine(creadD 1 0 64 _ B D S (HP.out.below ((Below.refl _ _).alloc (Nat.le_refl _) _))).mono ?_;rintro e w1⟨rfl,rfl⟩;rw[R.out.1,R.out.2];have TA:Hid (∀W,Calls Tryz.prog 84 #[.string (headB (S.lb 2)),.int .i64 0,.int .i64 (S.lb 2).length] W fun e w'=>e=.returned (cmV (toldA (headB (S.lb 2)) 16 0 (S.lb 2).length))∧Below W.heap.size W w'):=fun W=>ctold0 _ _ W HH.out
  have TB:Hid (∀W,Calls Tryz.prog 84 #[.string (headB (S.lb 2)),.int .i64 1,.int .i64 (S.lb 2).length] W fun e w'=>e=.returned (cmV (toldA (headB (S.lb 2)) 40 1 (S.lb 2).length))∧Below W.heap.size W w'):=fun W=>ctold1 _ _ W HH.out
  generalize toldA (headB (S.lb 2)) 16 0 (S.lb 2).length=ca at *;generalize toldA (headB (S.lb 2)) 40 1 (S.lb 2).length=cb at *;generalize (S.lb 2).length=z at *;generalize headB (S.lb 2)=hd at *;obtain⟨sa,na,fa,pa⟩:=ca;obtain⟨sb,nb,fb,pb⟩:=cb;go_wp2_with fail
  refine(cprefix hd _).mono ?_;rintro e w1⟨rfl,hb1⟩;rw[HM.out];have HO1:Hid (w1.heap[X.heap.size]?=some (.cells #[.int .i64 0,.int .i64 0,.int .i64 0,.int .i64 0] 91 (0,0))):=(hb1.block _ (by simp)).trans (heap_alloc_new X _);have HB1:Hid (Below X.heap.size X w1):=keepBelow ((Below.refl _ _).alloc (Nat.le_refl _) _) hb1;clear hb1;go_wp2_with fail
  refine(TA.out _).mono ?_;rintro e w2⟨rfl,hb2⟩;have HO2:Hid (w2.heap[X.heap.size]?=some (.cells #[.int .i64 0,.int .i64 0,.int .i64 0,.int .i64 0] 91 (0,0))):=(hb2.block _ (Array.getElem?_eq_some_iff.1 HO1.out).1).trans HO1.out;have HB2:Hid (Below X.heap.size X w2):=keepBelow HB1.out hb2;clear hb2;go_wp2_with fail
  refine(TB.out _).mono ?_;rintro e w3⟨rfl,hb3⟩;have HO3:Hid (w3.heap[X.heap.size]?=some (.cells #[.int .i64 0,.int .i64 0,.int .i64 0,.int .i64 0] 91 (0,0))):=(hb3.block _ (Array.getElem?_eq_some_iff.1 HO2.out).1).trans HO2.out;have HB3:Hid (Below X.heap.size X w3):=keepBelow HB2.out hb3;clear hb3;have NA:Hid (na≤4294967296):=Nat.le_trans OA.out.number (by decide);simp only[cmV];by_cases c1:na=0
  ·have HQ:Hid (pickC ⟨sa,na,fa,pa⟩ ⟨sb,nb,fb,pb⟩=⟨sb,nb,fb,pb⟩):=if_pos (Or.inl c1);subst c1;go_wp2_with fail
   go_quiet (fail)
   have HB9:Hid (Below X.heap.size X (((w3.alloc (.cells #[.int .i64 sa,.int .i64 0,.int .i64 fa,.int .i64 pa] 91)).alloc (.cells #[.int .i64 sb,.int .i64 nb,.int .i64 fb,.int .i64 pb] 91)).drewN nq)):=below_dw ((HB3.out.alloc (Nat.le_of_lt (Array.getElem?_eq_some_iff.1 HO3.out).1) _).alloc (by simp;have:=(Array.getElem?_eq_some_iff.1 HO3.out).1;omega) _);have hO:(((w3.alloc (.cells #[.int .i64 sa,.int .i64 0,.int .i64 fa,.int .i64 pa] 91)).alloc (.cells #[.int .i64 sb,.int .i64 nb,.int .i64 fb,.int .i64 pb] 91)).drewN nq).heap[X.heap.size]?=some (.cells #[.int .i64 0,.int .i64 0,.int .i64 0,.int .i64 0] 91 (0,0)):=(heap_alloc_old _ _ (by simp;have:=(Array.getElem?_eq_some_iff.1 HO3.out).1;omega)).trans ((heap_alloc_old _ _ (Array.getElem?_eq_some_iff.1 HO3.out).1).trans HO3.out);have hA:(((w3.alloc (.cells #[.int .i64 sa,.int .i64 0,.int .i64 fa,.int .i64 pa] 91)).alloc (.cells #[.int .i64 sb,.int .i64 nb,.int .i64 fb,.int .i64 pb] 91)).drewN nq).heap[w3.heap.size]?=some (.cells #[.int .i64 sa,.int .i64 0,.int .i64 fa,.int .i64 pa] 91 (0,0)):=(heap_alloc_old _ _ (by simp)).trans (heap_alloc_new w3 _);have hBB:(((w3.alloc (.cells #[.int .i64 sa,.int .i64 0,.int .i64 fa,.int .i64 pa] 91)).alloc (.cells #[.int .i64 sb,.int .i64 nb,.int .i64 fb,.int .i64 pb] 91)).drewN nq).heap[w3.heap.size+1]?=some (.cells #[.int .i64 sb,.int .i64 nb,.int .i64 fb,.int .i64 pb] 91 (0,0)):=by
    have:=heap_alloc_new (w3.alloc (.cells #[.int .i64 sa,.int .i64 0,.int .i64 fa,.int .i64 pa] 91)) (.cells #[.int .i64 sb,.int .i64 nb,.int .i64 fb,.int .i64 pb] 91);rw[show(w3.alloc (.cells #[.int .i64 sa,.int .i64 0,.int .i64 fa,.int .i64 pa] 91)).heap.size=w3.heap.size+1 by simp] at this;exact this
   obtain⟨⟨o0,o1,o2,o3⟩,⟨g0,g1,g2,g3⟩,lo⟩:=wcell4 hO;obtain⟨⟨a0,a1,a2,a3⟩,-,la⟩:=wcell4 hA;obtain⟨⟨b0,b1,b2,b3⟩,-,lb⟩:=wcell4 hBB;clear hO hA hBB;generalize ((w3.alloc (.cells #[.int .i64 sa,.int .i64 0,.int .i64 fa,.int .i64 pa] 91)).alloc (.cells #[.int .i64 sb,.int .i64 nb,.int .i64 fb,.int .i64 pb] 91)).drewN nq=W9 at *;go_wp2;refine bodyPost_ret (v:=.tuple #[(.agg #[.int .i64 ((sb:Int)),.int .i64 ((nb:Int)),.int .i64 ((fb:Int)),.int .i64 ((pb:Int))]),.int .i64 0]) (by simp[results,Tryz.results45,go_sem, *]) rfl ⟨by rw[HT.out,HQ.out];rfl,?_⟩;exact((((HB9.out).setCell (by simp<;>omega) _).setCell (by simp<;>omega) _).setCell (by simp<;>omega) _).setCell (by simp<;>omega) _
  by_cases c2:nb=nxN na
  ·have HQ:Hid (pickC ⟨sa,na,fa,pa⟩ ⟨sb,nb,fb,pb⟩=⟨sb,nb,fb,pb⟩):=if_pos (Or.inr c2);have i2:((na:Int) == 0)=false:=by simpa using c1
   have i3:(nb:Int)=(nxN na:Nat):=by omega
   have i4:((nb:Int) == (nxN na:Nat))=true:=by simpa using i3
   clear c1 c2 i3;go_wp2_with fail
   go_region_held3 (fun w'=>Below w3.heap.size w3 w'∧w3.heap.size+1<w'.heap.size∧w'.cell? ⟨w3.heap.size,0,none⟩=some (.int .i64 ((sa:Int)))∧w'.cell? ⟨w3.heap.size,1,none⟩=some (.int .i64 ((na:Int)))∧w'.cell? ⟨w3.heap.size,2,none⟩=some (.int .i64 ((fa:Int)))∧w'.cell? ⟨w3.heap.size,3,none⟩=some (.int .i64 ((pa:Int)))∧w'.cell? ⟨w3.heap.size+1,0,none⟩=some (.int .i64 ((sb:Int)))∧w'.cell? ⟨w3.heap.size+1,1,none⟩=some (.int .i64 ((nb:Int)))∧w'.cell? ⟨w3.heap.size+1,2,none⟩=some (.int .i64 ((fb:Int)))∧w'.cell? ⟨w3.heap.size+1,3,none⟩=some (.int .i64 ((pb:Int)))) (first | (refine⟨(((Below.refl _ _).alloc (Nat.le_refl _) _).alloc (by simp) _).drew,?_⟩;go_keep) | (go_split_ands;and_intros<;>assumption) | (go_split_ands;exact⟨keepBelow (by assumption) hb,keepSize hb (by assumption),keepCell hb (Nat.lt_of_succ_lt (by assumption)) (by assumption),keepCell hb (Nat.lt_of_succ_lt (by assumption)) (by assumption),keepCell hb (Nat.lt_of_succ_lt (by assumption)) (by assumption),keepCell hb (Nat.lt_of_succ_lt (by assumption)) (by assumption),keepCell hb (by assumption) (by assumption),keepCell hb (by assumption) (by assumption),keepCell hb (by assumption) (by assumption),keepCell hb (by assumption) (by assumption)⟩))
    (first | (go_at_call 85;refine(cnext na _ NA.out).mono ?_;rintro e w'⟨rfl,rfl⟩))
   have HB9:Hid (Below X.heap.size X (((w3.alloc (.cells #[.int .i64 sa,.int .i64 na,.int .i64 fa,.int .i64 pa] 91)).alloc (.cells #[.int .i64 sb,.int .i64 nb,.int .i64 fb,.int .i64 pb] 91)).drew)):=Below.drew ((HB3.out.alloc (Nat.le_of_lt (Array.getElem?_eq_some_iff.1 HO3.out).1) _).alloc (by simp;have:=(Array.getElem?_eq_some_iff.1 HO3.out).1;omega) _);have hO:(((w3.alloc (.cells #[.int .i64 sa,.int .i64 na,.int .i64 fa,.int .i64 pa] 91)).alloc (.cells #[.int .i64 sb,.int .i64 nb,.int .i64 fb,.int .i64 pb] 91)).drew).heap[X.heap.size]?=some (.cells #[.int .i64 0,.int .i64 0,.int .i64 0,.int .i64 0] 91 (0,0)):=(heap_alloc_old _ _ (by simp;have:=(Array.getElem?_eq_some_iff.1 HO3.out).1;omega)).trans ((heap_alloc_old _ _ (Array.getElem?_eq_some_iff.1 HO3.out).1).trans HO3.out);have hA:(((w3.alloc (.cells #[.int .i64 sa,.int .i64 na,.int .i64 fa,.int .i64 pa] 91)).alloc (.cells #[.int .i64 sb,.int .i64 nb,.int .i64 fb,.int .i64 pb] 91)).drew).heap[w3.heap.size]?=some (.cells #[.int .i64 sa,.int .i64 na,.int .i64 fa,.int .i64 pa] 91 (0,0)):=(heap_alloc_old _ _ (by simp)).trans (heap_alloc_new w3 _);have hBB:(((w3.alloc (.cells #[.int .i64 sa,.int .i64 na,.int .i64 fa,.int .i64 pa] 91)).alloc (.cells #[.int .i64 sb,.int .i64 nb,.int .i64 fb,.int .i64 pb] 91)).drew).heap[w3.heap.size+1]?=some (.cells #[.int .i64 sb,.int .i64 nb,.int .i64 fb,.int .i64 pb] 91 (0,0)):=by
    have:=heap_alloc_new (w3.alloc (.cells #[.int .i64 sa,.int .i64 na,.int .i64 fa,.int .i64 pa] 91)) (.cells #[.int .i64 sb,.int .i64 nb,.int .i64 fb,.int .i64 pb] 91);rw[show(w3.alloc (.cells #[.int .i64 sa,.int .i64 na,.int .i64 fa,.int .i64 pa] 91)).heap.size=w3.heap.size+1 by simp] at this;exact this
   obtain⟨⟨o0,o1,o2,o3⟩,⟨g0,g1,g2,g3⟩,lo⟩:=wcell4 hO;obtain⟨⟨a0,a1,a2,a3⟩,-,la⟩:=wcell4 hA;obtain⟨⟨b0,b1,b2,b3⟩,-,lb⟩:=wcell4 hBB;clear hO hA hBB;generalize ((w3.alloc (.cells #[.int .i64 sa,.int .i64 na,.int .i64 fa,.int .i64 pa] 91)).alloc (.cells #[.int .i64 sb,.int .i64 nb,.int .i64 fb,.int .i64 pb] 91)).drew=W9 at *;go_wp2;refine bodyPost_ret (v:=.tuple #[(.agg #[.int .i64 ((sb:Int)),.int .i64 ((nb:Int)),.int .i64 ((fb:Int)),.int .i64 ((pb:Int))]),.int .i64 0]) (by simp[results,Tryz.results45,go_sem, *]) rfl ⟨by rw[HT.out,HQ.out];rfl,?_⟩;exact((((HB9.out).setCell (by simp<;>omega) _).setCell (by simp<;>omega) _).setCell (by simp<;>omega) _).setCell (by simp<;>omega) _
  have HQ:Hid (pickC ⟨sa,na,fa,pa⟩ ⟨sb,nb,fb,pb⟩=⟨sa,na,fa,pa⟩):=if_neg (by rintro(h | h);exact c1 h;exact c2 h);have i2:((na:Int) == 0)=false:=by simpa using c1
  have i4:((nb:Int) == (nxN na:Nat))=false:=by
   have:¬(nb:Int)=(nxN na:Nat):=by omega
   simpa using this
  clear c1 c2;go_wp2_with fail
  go_region_held3 (fun w'=>Below w3.heap.size w3 w'∧w3.heap.size+1<w'.heap.size∧w'.cell? ⟨w3.heap.size,0,none⟩=some (.int .i64 ((sa:Int)))∧w'.cell? ⟨w3.heap.size,1,none⟩=some (.int .i64 ((na:Int)))∧w'.cell? ⟨w3.heap.size,2,none⟩=some (.int .i64 ((fa:Int)))∧w'.cell? ⟨w3.heap.size,3,none⟩=some (.int .i64 ((pa:Int)))∧w'.cell? ⟨w3.heap.size+1,0,none⟩=some (.int .i64 ((sb:Int)))∧w'.cell? ⟨w3.heap.size+1,1,none⟩=some (.int .i64 ((nb:Int)))∧w'.cell? ⟨w3.heap.size+1,2,none⟩=some (.int .i64 ((fb:Int)))∧w'.cell? ⟨w3.heap.size+1,3,none⟩=some (.int .i64 ((pb:Int)))) (first | (refine⟨(((Below.refl _ _).alloc (Nat.le_refl _) _).alloc (by simp) _).drew,?_⟩;go_keep) | (go_split_ands;and_intros<;>assumption) | (go_split_ands;exact⟨keepBelow (by assumption) hb,keepSize hb (by assumption),keepCell hb (Nat.lt_of_succ_lt (by assumption)) (by assumption),keepCell hb (Nat.lt_of_succ_lt (by assumption)) (by assumption),keepCell hb (Nat.lt_of_succ_lt (by assumption)) (by assumption),keepCell hb (Nat.lt_of_succ_lt (by assumption)) (by assumption),keepCell hb (by assumption) (by assumption),keepCell hb (by assumption) (by assumption),keepCell hb (by assumption) (by assumption),keepCell hb (by assumption) (by assumption)⟩))
   (first | (go_at_call 85;refine(cnext na _ NA.out).mono ?_;rintro e w'⟨rfl,rfl⟩))
  have HB9:Hid (Below X.heap.size X (((w3.alloc (.cells #[.int .i64 sa,.int .i64 na,.int .i64 fa,.int .i64 pa] 91)).alloc (.cells #[.int .i64 sb,.int .i64 nb,.int .i64 fb,.int .i64 pb] 91)).drew)):=Below.drew ((HB3.out.alloc (Nat.le_of_lt (Array.getElem?_eq_some_iff.1 HO3.out).1) _).alloc (by simp;have:=(Array.getElem?_eq_some_iff.1 HO3.out).1;omega) _);have hO:(((w3.alloc (.cells #[.int .i64 sa,.int .i64 na,.int .i64 fa,.int .i64 pa] 91)).alloc (.cells #[.int .i64 sb,.int .i64 nb,.int .i64 fb,.int .i64 pb] 91)).drew).heap[X.heap.size]?=some (.cells #[.int .i64 0,.int .i64 0,.int .i64 0,.int .i64 0] 91 (0,0)):=(heap_alloc_old _ _ (by simp;have:=(Array.getElem?_eq_some_iff.1 HO3.out).1;omega)).trans ((heap_alloc_old _ _ (Array.getElem?_eq_some_iff.1 HO3.out).1).trans HO3.out);have hA:(((w3.alloc (.cells #[.int .i64 sa,.int .i64 na,.int .i64 fa,.int .i64 pa] 91)).alloc (.cells #[.int .i64 sb,.int .i64 nb,.int .i64 fb,.int .i64 pb] 91)).drew).heap[w3.heap.size]?=some (.cells #[.int .i64 sa,.int .i64 na,.int .i64 fa,.int .i64 pa] 91 (0,0)):=(heap_alloc_old _ _ (by simp)).trans (heap_alloc_new w3 _);have hBB:(((w3.alloc (.cells #[.int .i64 sa,.int .i64 na,.int .i64 fa,.int .i64 pa] 91)).alloc (.cells #[.int .i64 sb,.int .i64 nb,.int .i64 fb,.int .i64 pb] 91)).drew).heap[w3.heap.size+1]?=some (.cells #[.int .i64 sb,.int .i64 nb,.int .i64 fb,.int .i64 pb] 91 (0,0)):=by
   have:=heap_alloc_new (w3.alloc (.cells #[.int .i64 sa,.int .i64 na,.int .i64 fa,.int .i64 pa] 91)) (.cells #[.int .i64 sb,.int .i64 nb,.int .i64 fb,.int .i64 pb] 91);rw[show(w3.alloc (.cells #[.int .i64 sa,.int .i64 na,.int .i64 fa,.int .i64 pa] 91)).heap.size=w3.heap.size+1 by simp] at this;exact this
  obtain⟨⟨o0,o1,o2,o3⟩,⟨g0,g1,g2,g3⟩,lo⟩:=wcell4 hO;obtain⟨⟨a0,a1,a2,a3⟩,-,la⟩:=wcell4 hA;obtain⟨⟨b0,b1,b2,b3⟩,-,lb⟩:=wcell4 hBB;clear hO hA hBB;generalize ((w3.alloc (.cells #[.int .i64 sa,.int .i64 na,.int .i64 fa,.int .i64 pa] 91)).alloc (.cells #[.int .i64 sb,.int .i64 nb,.int .i64 fb,.int .i64 pb] 91)).drew=W9 at *;go_wp2;refine bodyPost_ret (v:=.tuple #[(.agg #[.int .i64 ((sa:Int)),.int .i64 ((na:Int)),.int .i64 ((fa:Int)),.int .i64 ((pa:Int))]),.int .i64 0]) (by simp[results,Tryz.results45,go_sem, *]) rfl ⟨by rw[HT.out,HQ.out];rfl,?_⟩;exact((((HB9.out).setCell (by simp<;>omega) _).setCell (by simp<;>omega) _).setCell (by simp<;>omega) _).setCell (by simp<;>omega) _
theorem clastC (X:World)(B D:Nat)(S:DS)(h:PDs X B D S)(hd:S.down=false)(hz:(S.lb 2).length≤67108864):Calls Tryz.prog 45 #[(.pointer (some ⟨D,0,none⟩))] X fun e w'=>e=.returned (.tuple #[cmV (lastC (S.lb 2)),.int .i64 0])∧Below X.heap.size X w':=by
 rcases Nat.lt_or_ge 64 (S.lb 2).length with hm|hm
 ·exact clastCB X B D S h hd hz hm
 ·exact clastCA X B D S h hd hz hm
end Go.Proofs.YtfjkockcgddgbaaGreat
