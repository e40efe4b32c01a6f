/- package pool: Open -/
import Derived.Test.YtmgjdjjfeapcdaaGreatMgAK
namespace Go.Proofs.YtmgjdjjfeapcdaaGreat
open Go.RowKit Go.Lib Go.Maps Go.Sort Go.Shelf
attribute [local go_sem ↓] Go.wp_at_zero Go.wp_at_succ
def newP (most pages free:Nat):PS:=⟨most,pages,free,fun _=>none,[],fun _=>false,0,0,0⟩
theorem PP.fresh {W Y:World} {B D G bp bf Gp bF bC most pages free:Nat} {L:LS} {S:DS} (h:PL W B D G bp bf 60000 L S) (hB:B≤W.heap.size) (hY:Below W.heap.size W Y) (h1:W.heap.size≤Gp) (h2:W.heap.size≤bF) (h3:W.heap.size≤bC) (hne:¬ bF=bC) (m1:Y.heap[bF]? = some (.map #[] 0)) (m2:Y.heap[bC]? = some (.map #[] 0)) (hb:Y.heap[Gp]? = some (.cells (poolC ⟨G,bp,bf,bF,bC,.slice none 0 0⟩ (newP most pages free)) 90 (0,0))) :
    PP Y B D Gp ⟨G,bp,bf,bF,bC,.slice none 0 0⟩ (newP most pages free) L S:=by
  have a1:=h.mp.lt
  have a2:=h.mf.lt
  refine ⟨hb,h.below hY,?_,?_,(fun n f hf=>by cases hf),(fun n n' f f' hf=>by cases hf),World.ownsRow_nil _ _ _ _,⟨by omega,by show B≤bF;omega,by show B≤bC;omega⟩,⟨hne,by show ¬ bF=bp;omega,by show ¬ bF=bf;omega,by show ¬ bC=bp;omega,by show ¬ bC=bf;omega⟩⟩
  · exact ⟨.map [],⟨#[],0,m1,⟨by simp,MapKept.stamped_empty 0,by simp⟩,Nat.zero_le _,rfl⟩,fun _ _=>⟨rfl,fun v h=>by cases h⟩⟩
  · exact ⟨.map [],⟨#[],0,m2,⟨by simp,MapKept.stamped_empty 0,by simp⟩,Nat.zero_le _,rfl⟩,fun _ _=>rfl⟩
set_option maxRecDepth 20000 in
theorem open_pack {w:World} {B D G bp bf bF bC:Nat} {L:LS} {S:DS} (h:PL w B D G bp bf 60000 L S) (hB:B≤w.heap.size) (o:Obj) (most pages free:Nat) (hbb:(bF=w.heap.size+1∧bC=w.heap.size+1+1)∨(bF=w.heap.size+1+1∧bC=w.heap.size+1)) :
    PP ((((w.alloc o).alloc (.map #[] 0)).alloc (.map #[] 0)).alloc (.cells #[(.pointer (some ⟨G,0,none⟩)),.int .i64 (most:Int),.int .i64 (pages:Int),.int .i64 (free:Int),.map (some bF),.slice none 0 0,.map (some bC),.int .i64 0,.int .i64 0,.int .i64 0] 90)).drew B D (w.heap.size+1+1+1) ⟨G,bp,bf,bF,bC,.slice none 0 0⟩ (newP most pages free) L S ∧
    Below w.heap.size w ((((w.alloc o).alloc (.map #[] 0)).alloc (.map #[] 0)).alloc (.cells #[(.pointer (some ⟨G,0,none⟩)),.int .i64 (most:Int),.int .i64 (pages:Int),.int .i64 (free:Int),.map (some bF),.slice none 0 0,.map (some bC),.int .i64 0,.int .i64 0,.int .i64 0] 90)).drew:=by
  generalize hpc:(Obj.cells #[(.pointer (some ⟨G,0,none⟩)),.int .i64 (most:Int),.int .i64 (pages:Int),.int .i64 (free:Int),.map (some bF),.slice none 0 0,.map (some bC),.int .i64 0,.int .i64 0,.int .i64 0] 90)=pc
  have s1:(w.alloc o).heap.size=w.heap.size+1:=by simp
  have s2:((w.alloc o).alloc (.map #[] 0)).heap.size=w.heap.size+1+1:=by simp
  have s3:(((w.alloc o).alloc (.map #[] 0)).alloc (.map #[] 0)).heap.size=w.heap.size+1+1+1:=by simp
  have hb:Below w.heap.size w ((((w.alloc o).alloc (.map #[] 0)).alloc (.map #[] 0)).alloc pc).drew:=(((((Below.refl _ _).alloc (Nat.le_refl _) _).alloc (by omega) _).alloc (by omega) _).alloc (by omega) _).drew
  have e1:((((w.alloc o).alloc (.map #[] 0)).alloc (.map #[] 0)).alloc pc).drew.heap[w.heap.size+1]? = some (.map #[] 0):=by
    show ((((w.alloc o).alloc (.map #[] 0)).alloc (.map #[] 0)).alloc pc).heap[w.heap.size+1]? = _
    rw [heap_alloc_old _ _ (by omega),heap_alloc_old _ _ (by omega),← s1]
    exact heap_alloc_new _ _
  have e2:((((w.alloc o).alloc (.map #[] 0)).alloc (.map #[] 0)).alloc pc).drew.heap[w.heap.size+1+1]? = some (.map #[] 0):=by
    show ((((w.alloc o).alloc (.map #[] 0)).alloc (.map #[] 0)).alloc pc).heap[w.heap.size+1+1]? = _
    rw [heap_alloc_old _ _ (by omega),← s2]
    exact heap_alloc_new _ _
  have e3:((((w.alloc o).alloc (.map #[] 0)).alloc (.map #[] 0)).alloc pc).drew.heap[w.heap.size+1+1+1]? = some pc:=by
    show ((((w.alloc o).alloc (.map #[] 0)).alloc (.map #[] 0)).alloc pc).heap[w.heap.size+1+1+1]? = _
    rw [← s3]
    exact heap_alloc_new _ _
  refine ⟨PP.fresh h hB hb (by omega) (by omega) (by omega) (by omega) ?_ ?_ (by rw [e3,← hpc];rfl),hb⟩
  · rcases hbb with ⟨rfl,rfl⟩ | ⟨rfl,rfl⟩
    · exact e1
    · exact e2
  · rcases hbb with ⟨rfl,rfl⟩ | ⟨rfl,rfl⟩
    · exact e2
    · exact e1
theorem PI.fresh {L:LS} {S:DS} {F:Pgs} {most free j k m:Nat} (hI:Inv L S F F j) (hj:j≤m) (hk:okS S k) (hk':k≤4 * m+20) (hmo:8≤most∧most≤64) (hpg:1≤L.last.pages∧L.last.pages≤59000) (hkd:∀ n:Int,0≤n→n<L.last.pages→∃ t,F n=some t∧t.size=1024) :
    PI (newP most L.last.pages free) L S F F F L.last.pages m:=by
  have hd:dct (newP most L.last.pages free)=0:=rfl
  refine ⟨⟨j,k,hI,by rw [hd];omega,hk,by rw [hd];omega⟩,List.nodup_nil,fun n=>?_,(fun n hn=>by cases hn),⟨Nat.zero_le _,hmo.1,hmo.2⟩,⟨hpg.1,Nat.le_refl _,hpg.2⟩,rfl,fun n n0 n1=>?_,(fun n f hf=>by cases hf),fun n _ n0 n1=>⟨n1,rfl,(fun f hf=>by cases hf)⟩,(fun n hn=>by cases hn),hkd⟩
  · constructor
    · intro k;cases k
    · intro k;cases k
  · obtain ⟨t,h1,h2⟩:=hkd n n0 n1
    exact ⟨t,h1,h2,(fun f hf=>by cases hf),fun _=>h1⟩
set_option maxRecDepth 20000 in
set_option maxHeartbeats 4000000 in
theorem copenP {X:World} {B D Z:Nat} {L0 L:LS} {S0 S:DS} {F:Pgs} {j k m fr:Nat} (most:Nat) (hmo:8≤most∧most≤64)
    (hO:Calls Tryz.prog 25 #[(.pointer (some ⟨D,0,none⟩))] X fun e w'=>∃ G bp bf,e=.returned (.tuple #[(.pointer (some ⟨G,0,none⟩)),.int .i64 0])∧PL w' B D G bp bf 60000 L0 S0∧Below Z X w')
    (hG:∀ G bp bf W,PL W B D G bp bf 60000 L0 S0→B≤W.heap.size→Calls Tryz.prog 26 #[(.pointer (some ⟨G,0,none⟩))] W fun e w'=>e=.returned (.int .i64 0)∧PL w' B D G bp bf 60000 L S∧Below B W w'∧Below (min Z W.heap.size) W w')
    (hB:B≤X.heap.size) (hZ:Z≤X.heap.size) (hI:Inv L S F F j) (hj:j≤m) (hm:m≤60000) (hk:okS S k) (hk':k≤4 * m+20) (hpg:1≤L.last.pages∧L.last.pages≤59000) (hkd:∀ n:Int,0≤n→n<L.last.pages→∃ t,F n=some t∧t.size=1024) (hf:fr≤2147483647) (hF:F 0=some (pgB 4 fr)) (hd:S.down=false) :
    Calls Tryz.prog 6 #[(.pointer (some ⟨D,0,none⟩)),.int .i64 (most:Int)] X fun e w'=>∃ Gp V,e=.returned (.tuple #[(.pointer (some ⟨Gp,0,none⟩)),.int .i64 0])∧PO w' B D Gp V F F L.last.pages m∧V.S=S∧V.P.pages=L.last.pages∧V.P.free=fr∧Below Z X w':=by
  have HO:=hide (hO)
  have HG:=hide (hG)
  have HB:=hide (hB)
  have HZ:=hide (hZ)
  have HI:=hide (hI)
  have HPI:=hide (PI.fresh (most:=most) (free:=fr) hI hj hk hk' hmo hpg hkd)
  have HD:=hide (hd)
  have HF:=hide (hF)
  have m1:¬ (most:Int)<8:=by omega
  have m2:¬ (64:Int)<(most:Int):=by omega
  have hmm:=@run_makeMap Tryz.prog
  clear hO hG hB hZ hI hk hkd hd hF
  go_enter Tryz.func6,Tryz.ntmps6
  go_wp2_with fail
  refine HO.out.mono ?_
  rintro e w1 ⟨G,bp,bf,rfl,p1,b1⟩
  have HB1:=hide (b1)
  have hB1:B≤w1.heap.size:=Nat.le_trans HB.out b1.size
  have HBG:=hide (HG.out G bp bf w1 p1 hB1)
  clear p1 b1 HO HG
  go_wp2_with fail
  refine HBG.out.mono ?_
  rintro e w2 ⟨rfl,p2,b2,b3⟩
  have HB2:=hide (show Below Z X w2 from HB1.out.trans (b3.mono (by have:=HB1.out.size;have:=HZ.out;omega)))
  have hB2:=hide (show B≤w2.heap.size from Nat.le_trans hB1 b2.size)
  have hrd:=rd_out HI.out (by omega) (by omega:0<60000) HF.out (p2.dsk.len 0 (by decide)) (p2.dsk.len 2 (by decide))
  have hrd:rdL L S 0=(pgB 4 fr,0):=hrd.resolve_right (fun k=>by rw [HD.out] at k;cases k.1)
  have HRD:=hide (creadL 0 w2 B D G bp bf 60000 L S p2 (HI.out.okp (by omega)) (HI.out.okf (by omega)))
  rw [hrd] at HRD
  have HP2:=hide (p2)
  clear p2 b2 b3 hrd HBG HB1 hB1
  go_wp2_with fail
  refine HRD.out.mono ?_
  rintro e w3 ⟨rfl,b3⟩
  have HP3:=hide (HP2.out.below b3)
  have HB3:=hide (HB2.out.trans (b3.mono (Nat.le_trans HZ.out (Nat.le_trans (Nat.le_refl _) (by have:=HB2.out.size;exact this)))))
  have hB3:=hide (show B≤w3.heap.size from Nat.le_trans hB2.out b3.size)
  clear b3 HRD HP2
  go_wp2_with fail
  refine (copenB (K:=4) (Lk:=fr) ⟨by decide,by decide⟩ hf _).mono ?_
  rintro e w4 ⟨⟨a,c,rfl⟩,b4⟩
  have HP4:=hide (HP3.out.below b4)
  have HB4:=hide (HB3.out.trans (b4.mono (Nat.le_trans HZ.out (by have:=HB3.out.size;exact this))))
  have hB4:=hide (show B≤w4.heap.size from Nat.le_trans hB3.out b4.size)
  have HPG:=hide (fun (W:World) (hW:Below w4.heap.size w4 W)=>cpages W B D G bp bf 60000 L S (HP4.out.below hW))
  clear b4 HP3
  go_wp2_with fail
  go_region_with (go_at_call 29;refine (HPG.out _ ?hb).mono ?_;(case hb=>first | exact (((Below.refl _ _).alloc (Nat.le_refl _) _)).drew | exact ((((Below.refl _ _).alloc (Nat.le_refl _) _).alloc (by simp) _)).drew | exact (((((Below.refl _ _).alloc (Nat.le_refl _) _).alloc (by simp) _).alloc (by simp;omega) _)).drew | exact ((Below.refl _ _).alloc (Nat.le_refl _) _) | exact (((Below.refl _ _).alloc (Nat.le_refl _) _).alloc (by simp) _) | exact ((((Below.refl _ _).alloc (Nat.le_refl _) _).alloc (by simp) _).alloc (by simp;omega) _));rintro e w9 ⟨rfl,hw⟩;rw [hw];clear hw)
  all_goals
    go_wp2
    go_ret2
    first
    | exact ⟨_,⟨⟨G,bp,bf,_,_,.slice none 0 0⟩,newP most L.last.pages fr,L,S,F⟩,rfl,⟨(open_pack HP4.out hB4.out _ most L.last.pages fr (.inl ⟨rfl,rfl⟩)).1,HPI.out,Nat.le_trans hB4.out (open_pack HP4.out hB4.out _ most L.last.pages fr (.inl ⟨rfl,rfl⟩)).2.size⟩,rfl,rfl,rfl,HB4.out.trans ((open_pack HP4.out hB4.out _ most L.last.pages fr (.inl ⟨rfl,rfl⟩)).2.mono (Nat.le_trans HZ.out HB4.out.size))⟩
    | exact ⟨_,⟨⟨G,bp,bf,_,_,.slice none 0 0⟩,newP most L.last.pages fr,L,S,F⟩,rfl,⟨(open_pack HP4.out hB4.out _ most L.last.pages fr (.inr ⟨rfl,rfl⟩)).1,HPI.out,Nat.le_trans hB4.out (open_pack HP4.out hB4.out _ most L.last.pages fr (.inr ⟨rfl,rfl⟩)).2.size⟩,rfl,rfl,rfl,HB4.out.trans ((open_pack HP4.out hB4.out _ most L.last.pages fr (.inr ⟨rfl,rfl⟩)).2.mono (Nat.le_trans HZ.out HB4.out.size))⟩
end Go.Proofs.YtmgjdjjfeapcdaaGreat
