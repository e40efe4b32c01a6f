/- package tree: a long value is stored in pages -/
import Derived.Test.YtmgjdjjfeapcdaaGreatMgAN
namespace Go.Proofs.YtmgjdjjfeapcdaaGreat
open Go.RowKit Go.Lib Go.Maps Go.Sort
attribute [local go_sem ↓] Go.wp_at_zero Go.wp_at_succ
theorem cuts_len (v:ByteArray):∀ n a,(cuts v a n).length=n
  | 0,_=>rfl
  | n+1,a=>by show (cuts v (a+1008) n).length+1=_;rw [cuts_len v n]
theorem cuts_drop (v:ByteArray):∀ n a i,i<n→(cuts v a n).drop i=v.extract (a+1008 * i) (min (a+1008 * i+1008) v.size) :: (cuts v a n).drop (i+1)
  | n+1,a,0,_=>by simp [cuts]
  | n + 1, a, i + 1, h => by
    show (cuts v (a+1008) n).drop i=_ :: (cuts v (a+1008) n).drop (i+1)
    rw [cuts_drop v n (a+1008) i (by omega)]
    have:a+1008+1008 * i=a+1008 * (i+1):=by omega
    rw [this]
def cutsN (v:ByteArray):Nat:=(v.size+1007) / 1008
theorem piece_drop (v:ByteArray) {i:Nat} (h:i<cutsN v):(piecesV v).drop i=v.extract (1008 * i) (min (1008 * i+1008) v.size) :: (piecesV v).drop (i+1):=by
  have:=cuts_drop v (cutsN v) 0 i h
  rw [Nat.zero_add] at this
  exact this
theorem piece_len (v:ByteArray):(piecesV v).length=cutsN v:=cuts_len v _ _
theorem valN_fst:∀ (ps:List Nat) (cs:List ByteArray),ps.length=cs.length→(valN ps cs).map (·.1)=ps
  | [],[],_=>rfl
  | p :: ps,c :: cs,h=>by show p :: (valN ps cs).map (·.1)=_;rw [valN_fst ps cs (by simpa using h)]
section
variable {w w':World} {B D Gp:Nat} {V V':PV} {K:Pgs} {pk m:Nat} {A:Nat→PgV} {fl:List Nat} {pages tb root:Nat}
/- what is held of the pages besides the free ones -/
def Hold (fl:List Nat) (pages:Nat) (X:List Nat):Prop:=(0 :: (fl ++ X)).Perm (List.range pages)
theorem Hold.nd {fl:List Nat} {pages:Nat} {X:List Nat} (h:Hold fl pages X):(0 :: (fl ++ X)).Nodup:=h.nodup_iff.2 List.nodup_range
theorem Hold.mem {fl:List Nat} {pages:Nat} {X:List Nat} (h:Hold fl pages X) {n:Nat} (hn:n ∈ X):0<n∧n<pages∧¬ n ∈ fl:=by
  have hd:=h.nd
  rw [List.nodup_cons,List.nodup_append] at hd
  refine ⟨?_,List.mem_range.1 (h.mem_iff.1 (by simp [hn])),fun hf=>hd.2.2.2 n hf n hn rfl⟩
  have:¬ n=0:=fun e=>hd.1 (by rw [← e];simp [hn])
  omega
theorem Hold.cons {fl:List Nat} {pages n:Nat} {X:List Nat} (h:Hold fl pages (n :: X)):¬ n ∈ X:=by
  have hd:=h.nd
  rw [List.nodup_cons,List.nodup_append,List.nodup_cons] at hd
  exact hd.2.2.1.1
structure StoR (A:Nat→PgV) (ps:List Nat) (cs:List ByteArray) (A':Nat→PgV):Prop where
  same:∀ x,¬ x=0→¬ x ∈ ps→A' x=A x
  rep:∀ p ∈ valN ps cs,A' p.1=p.2
  len:ps.length=cs.length
def stoPost (w:World) (B D Gp:Nat) (V:PV) (K:Pgs) (pk m:Nat) (A:Nat→PgV) (pages:Nat) (v:ByteArray) (X:List Nat) (n:Nat) (w':World):Prop:=∃ (V':PV) (ps:List Nat) (A':Nat→PgV) (fl':List Nat) (pages':Nat),ps.headD 0=n∧TS w' B D Gp V' K pk (m+9) A' fl' pages'∧St2 w w' B V V'∧StoR A ps (piecesV v) A'∧Hold fl' pages' (ps ++ X)∧pages'≤pages+3
set_option maxRecDepth 20000 in
set_option maxHeartbeats 4000000 in
theorem cstore (h:TS w B D Gp V K pk m A fl pages) (hm:m≤39000) (hp:pages≤57000) (ht:TB w tb Gp root) (v:ByteArray) (hv0:0<v.size) (hv:v.size≤3000) {X:List Nat} (hX:Hold fl pages X) :
    Calls Tryz.prog 155 #[(.pointer (some ⟨tb,0,none⟩)),.string v] w fun e w'=>∃ n:Nat,e=.returned (.int .i64 (n:Int))∧stoPost w B D Gp V K pk m A pages v X n w':=by
  have HTB:=hide (ht)
  have H:=hide (h)
  have HX:=hide (hX)
  obtain ⟨c,hc⟩:∃ c,cutsN v=c:=⟨_,rfl⟩
  have hc3:1≤c∧c≤3:=by unfold cutsN at hc;omega
  have hcv:1008 * c<v.size+1008∧v.size≤1008 * c:=by unfold cutsN at hc;omega
  have hat:(((v.size:Int) - 1).tdiv 1008) * 1008=((c:Int) - 1 - 0) * 1008:=by
    have e1:((v.size:Int) - 1).tdiv 1008=((v.size - 1:Nat):Int).tdiv ((1008:Nat):Int):=by congr 1;omega
    rw [e1,← Int.ofNat_tdiv]
    omega
  have HC:=hide (show cutsN v=c∧m≤39000∧pages≤57000 from ⟨hc,hm,hp⟩)
  clear h ht hX hc
  go_enter Tryz.func155,Tryz.ntmps155
  go_wp2_with fail
  go_loopw [5,6] (fun x5 x6 wr=>∃ (j:Nat) (Vi:PV) (ps:List Nat) (Ai:Nat→PgV) (fli:List Nat) (pgi:Nat),x5=.int .i64 (ps.headD 0:Int)∧x6=.int .i64 (((c:Int) - 1 - (j:Int)) * 1008)∧j≤c∧Hid (TS wr B D Gp Vi K pk (m+3 * j) Ai fli pgi)∧Hid (St2 w wr B V Vi)∧Hid (StoR A ps ((piecesV v).drop (c - j)) Ai∧Hold fli pgi (ps ++ X)∧pgi≤pages+j∧ps.length=j)) (fun _ x6 _=>((intOf x6)+1008).toNat)
  case atStart=>exact ⟨0,V,[],A,fl,pages,rfl,by simp,by omega,H,hide (St2.refl _ _ _),hide ⟨⟨fun _ _ _=>rfl,fun p hp=>by simp [valN] at hp,by rw [← HC.out.1,← piece_len];simp⟩,HX.out,by omega,rfl⟩⟩
  case round =>
    obtain ⟨j,Vi,ps,Ai,fli,pgi,rfl,rfl,hj,HTS,HST,HI⟩:=hrel
    by_cases hjc:j<c
    · obtain ⟨i,hi⟩:∃ i:Nat,c=i+j+1:=⟨c - j - 1,by omega⟩
      have hx6:((c:Int) - 1 - (j:Int)) * 1008=((1008 * i:Nat):Int):=by omega
      rw [hx6]
      obtain ⟨e,he⟩:∃ e:Nat,min (1008 * i+1008) v.size=e:=⟨_,rfl⟩
      have hee:1008 * i<e∧e≤v.size∧e≤1008 * i+1008:=by omega
      have hmin:min (((1008 * i:Nat):Int)+1008) (v.size:Int)=(e:Int):=by omega
      have h0:(0:Int)≤((1008 * i:Nat):Int):=by omega
      have hsl:=fun Y=>slice_lit v (1008 * i) e (by omega) hee.2.1 Y
      have hps:(v.extract (1008 * i) e).size≤1008∧0<(v.extract (1008 * i) e).size:=by rw [ByteArray.size_extract];omega
      have hpc:=piece_drop v (i:=i) (by rw [HC.out.1];omega)
      rw [he] at hpc
      have HPC:=hide (show (piecesV v).drop (c - (j+1))=v.extract (1008 * i) e :: (piecesV v).drop (c - j) from by
        rw [show c - (j+1)=i by omega,show c - j=i+1 by omega];exact hpc)
      have hpgi:=HI.out.2.2.1
      have hcc:=HC.out
      have HFR:=hide (cfresh HTS.out (by omega) (by omega) (H.out.stayTB HST.out HTB.out) 5)
      have HPS:=hide (hps)
      have HJ:=hide (show j<c∧c≤3∧c=i+j+1 from ⟨hjc,hc3.2,hi⟩)
      generalize hpe:v.extract (1008 * i) e=pc at *
      have HX6:=hide (hx6)
      clear hi hx6
      generalize hai:1008 * i=ai at *
      clear hpc hps hpe hpgi hcc hai
      go_wp2_with fail
      refine HFR.out.mono ?_
      rintro e' w1 ⟨V1,n,A1,fl1,pg1,p,rfl,k1,k2,k3,k4,k5⟩
      obtain ⟨nx,hnx⟩:∃ nx:Nat,ps.headD 0=nx:=⟨_,rfl⟩
      rw [hnx]
      have hold1:Hold fl1 pg1 (n :: (ps ++ X)):=k3.perm _ HI.out.2.1
      have hmem:=hold1.mem (n:=n) (by simp)
      have hbl:Below w1.heap.size w1 (w1.alloc (.cells #[.string pc] 9)):=((Below.refl _ _).alloc (Nat.le_refl _) _)
      obtain ⟨q1,r1⟩:=k1.below hbl
      obtain ⟨s0,nb0,ho0⟩:=k4
      have nb1:=k1.stayNB r1 nb0
      obtain ⟨sa,sc,rfl,-⟩:=StB.own (l:=[]) ho0
      obtain ⟨u0,u1,u2,u3,u4,u5,u6,u7,u8⟩:=nb0.cells
      have f1:=u7 1
      have f2:=u7 2
      have hg2:=set_grown (w1.alloc (.cells #[.string pc] 9)) p 1 (.int .i64 (nx:Int))
      have nb2:NB ((w1.alloc (.cells #[.string pc] 9)).setCell ⟨p,1,none⟩ (.int .i64 (nx:Int))) p ⟨5,nx,[],n,⟨#[]⟩,⟨#[]⟩,0⟩ (.slice sa 0 sc):=by unfold NB;rw [set_blk nb1];rfl
      have hg3:=set_grown ((w1.alloc (.cells #[.string pc] 9)).setCell ⟨p,1,none⟩ (.int .i64 (nx:Int))) p 2 (.slice (some ⟨w1.heap.size,0,none⟩) 1 1)
      have nb3:NB (((w1.alloc (.cells #[.string pc] 9)).setCell ⟨p,1,none⟩ (.int .i64 (nx:Int))).setCell ⟨p,2,none⟩ (.slice (some ⟨w1.heap.size,0,none⟩) 1 1)) p ⟨5,nx,[pc],n,⟨#[]⟩,⟨#[]⟩,0⟩ (.slice (some ⟨w1.heap.size,0,none⟩) 1 1):=by unfold NB;rw [set_blk nb2];rfl
      have q2:=q1.other hg2 ⟨_,nb1⟩ (by decide)
      have q3:=q2.other hg3 ⟨_,nb2⟩ (by decide)
      have hplt:p<w1.heap.size:=(Array.getElem?_eq_some_iff.1 nb0).1
      have hrow:(((w1.alloc (.cells #[.string pc] 9)).setCell ⟨p,1,none⟩ (.int .i64 (nx:Int))).setCell ⟨p,2,none⟩ (.slice (some ⟨w1.heap.size,0,none⟩) 1 1)).heap[w1.heap.size]? = some (.cells #[.string pc] 9 (0,0)):=by
        rw [hg3.block _ (by simp) (fun e=>by injection e with e;omega),hg2.block _ (by simp) (fun e=>by injection e with e;omega)]
        exact World.alloc_heap_new w1 _
      have hnr:NR (((w1.alloc (.cells #[.string pc] 9)).setCell ⟨p,1,none⟩ (.int .i64 (nx:Int))).setCell ⟨p,2,none⟩ (.slice (some ⟨w1.heap.size,0,none⟩) 1 1)) p ⟨5,nx,[pc],n,⟨#[]⟩,⟨#[]⟩,0⟩:=⟨_,1,nb3,.inr ⟨w1.heap.size,0,_,rfl,hrow,fun i' hi'=>by
        have hi0:i'=0:=by simp at hi';exact hi'
        subst hi0
        rfl⟩⟩
      have r3:St2 wr (((w1.alloc (.cells #[.string pc] 9)).setCell ⟨p,1,none⟩ (.int .i64 (nx:Int))).setCell ⟨p,2,none⟩ (.slice (some ⟨w1.heap.size,0,none⟩) 1 1)) B Vi V1:=((k2.trans r1).other hg2 k5 HTS.out.lo).other hg3 k5 HTS.out.lo
      have tb3:=HTS.out.stayTB r3 (H.out.stayTB HST.out HTB.out)
      have hnxs:nx≤2147483647:=by
        rw [← hnx]
        have hsm:=k1.flsmall.2
        cases ps with
        | nil=>exact Nat.zero_le _
        | cons a r =>
          have:=(hold1.mem (n:=a) (by simp)).2.1
          show a≤_
          omega
      have hok:okP (pgN ⟨5,nx,[pc],n,⟨#[]⟩,⟨#[]⟩,0⟩):=⟨⟨by show 1≤5;omega,by show 5≤5;omega⟩,hnxs,by
        show usedC [pc]≤1012
        have:=HPS.out.1
        simp [usedC]
        omega⟩
      have HWR:=hide (ctwrite q3 (by have:=HC.out;have:=HJ.out;omega) tb3 hnr hok hmem.1 hmem.2.1 hmem.2.2)
      have HK:=hide (show AllR Ai fli pgi n A1 fl1 pg1∧Hold fl1 pg1 (n :: (ps ++ X))∧ps.headD 0=nx from ⟨k3,hold1,hnx⟩)
      have HR3:=hide (r3)
      have HNB3:=hide (show NB (((w1.alloc (.cells #[.string pc] 9)).setCell ⟨p,1,none⟩ (.int .i64 (nx:Int))).setCell ⟨p,2,none⟩ (.slice (some ⟨w1.heap.size,0,none⟩) 1 1)) p ⟨5,nx,[pc],n,⟨#[]⟩,⟨#[]⟩,0⟩ (.slice (some ⟨w1.heap.size,0,none⟩) 1 1) from nb3)
      have HQ3:=hide (q3)
      have hcomm:((w1.alloc (.cells #[.string pc] 9)).setCell ⟨p,1,none⟩ (.int .i64 (nx:Int))).setCell ⟨p,2,none⟩ (.slice (some ⟨w1.heap.size,0,none⟩) 1 1)=((w1.setCell ⟨p,1,none⟩ (.int .i64 (nx:Int))).setCell ⟨p,2,none⟩ (.slice (some ⟨w1.heap.size,0,none⟩) 1 1)).alloc (.cells #[.string pc] 9):=by
        rw [World.setCell_alloc_past _ _ _ _ hplt,World.setCell_alloc_past _ _ _ _ (by simp;exact hplt)]
      rw [hcomm] at HWR HR3 HNB3 HQ3
      clear hcomm
      clear k1 k2 k3 k5 hold1 hmem hbl q1 r1 nb0 ho0 nb1 hg2 nb2 hg3 nb3 q2 q3 hrow hnr r3 tb3 hnxs hok HFR u0 u3 u4 u5 u6 u7 hnx
      go_wp2_with fail
      refine HWR.out.mono ?_
      rintro e' w4 ⟨rfl,V4,z1,z2⟩
      have nb4:=HQ3.out.stayNB z2 HNB3.out
      obtain ⟨v0,v1,v2,v3,v4,v5,v6,v7,v8⟩:=nb4.cells
      have HZ:=hide (show TS w4 B D Gp V4 K pk (m+3 * j+2+1) (updA A1 n ⟨5,nx,[pc]⟩) fl1 pg1∧St2 wr w4 B Vi V4 from ⟨z1,HR3.out.trans z2⟩)
      clear z1 z2 nb4 v0 v1 v2 v4 v5 v6 v7 HWR
      go_wp2_with fail
      go_roundw
      case rel =>
        obtain ⟨a1,a2,a3⟩:=HK.out
        obtain ⟨b1,b2,b3,b4⟩:=HI.out
        have hnps:¬ n ∈ ps:=fun hn=>a2.cons (List.mem_append_left _ hn)
        refine ⟨j+1,V4,n :: ps,updA A1 n ⟨5,nx,[pc]⟩,fl1,pg1,rfl,?_,by have:=HJ.out;omega,hide HZ.out.1,hide (HST.out.trans HZ.out.2),hide ⟨⟨fun x h0 hx=>?_,fun q hq=>?_,?_⟩,a2,by have:=a1.pgs.2;omega,by simp [b4]⟩⟩
        · have:=HX6.out
          congr 1
          omega
        · simp at hx
          rw [updA_ne _ _ hx.1,a1.same x h0 hx.1]
          exact b1.same x h0 hx.2
        · rw [HPC.out] at hq
          have hq:q ∈ (n,(⟨5,ps.headD 0,[pc]⟩:PgV)) :: valN ps ((piecesV v).drop (c - j)):=hq
          rcases List.mem_cons.1 hq with rfl | hq
          · rw [a3];exact updA_at _ _ _
          · have hq1:q.1 ∈ ps:=by
              have:=List.mem_map_of_mem (f:=(·.1)) hq
              rw [valN_fst _ _ b1.len] at this
              exact this
            have hne:¬ q.1=n:=fun e=>hnps (by rw [← e];exact hq1)
            have h0:¬ q.1=0:=by have:=(b2.mem (n:=q.1) (by simp [hq1])).1;omega
            rw [updA_ne _ _ hne,a1.same _ h0 hne]
            exact b1.rep q hq
        · rw [HPC.out,List.length_cons,List.length_cons,b1.len]
      case measure =>
        simp [intOf]
        omega
    · have hjc2:j=c:=by omega
      have hx6:¬ (0:Int)≤((c:Int) - 1 - (j:Int)) * 1008:=by omega
      have HJC:=hide (hjc2)
      clear hjc2
      generalize ((c:Int) - 1 - (j:Int)) * 1008=z6 at *
      obtain ⟨nx,hnx⟩:∃ nx:Nat,ps.headD 0=nx:=⟨_,rfl⟩
      rw [hnx]
      have HNX:=hide (hnx)
      clear hnx
      go_wp2_with fail
      go_ret
      obtain ⟨b1,b2,b3,b4⟩:=HI.out
      have hjc:=HJC.out
      rw [hjc,Nat.sub_self,List.drop_zero] at b1
      exact ⟨nx,rfl,Vi,ps,Ai,fli,pgi,HNX.out,HTS.out.mono (by omega),HST.out,b1,b2,by omega⟩
end
end Go.Proofs.YtmgjdjjfeapcdaaGreat
namespace Go.Proofs.YtmgjdjjfeapcdaaGreat
open Go.RowKit Go.Lib Go.Maps Go.Sort
attribute [local go_sem ↓] Go.wp_at_zero Go.wp_at_succ
theorem grow_below (w:World) (m:Nat) (os:Array Obj):Below w.heap.size w (grow (w.drewN m) os):=by
  refine ⟨rfl,rfl,rfl,by show _≤(w.heap ++ os).size;simp,fun i hi=>?_⟩
  show (w.heap ++ os)[i]? = w.heap[i]?
  rw [Array.getElem?_append_left hi]
theorem StB.below {w w':World} {a:Option Addr} {l:List ByteArray} (h:StB w a l) (hb:Below w.heap.size w w'):StB w' a l:=by
  rcases h with h | ⟨b,off,cur,e,hh,hc⟩
  · exact .inl h
  · exact .inr ⟨b,off,cur,e,(hb.block b (Array.getElem?_eq_some_iff.1 hh).1).trans hh,hc⟩
theorem StB.take {w:World} {a:Option Addr} {l:List ByteArray} (h:StB w a l) (n:Nat):StB w a (l.take n):=by
  rcases h with h | ⟨b,off,cur,e,hh,hc⟩
  · exact .inl (by rw [h];simp)
  · refine .inr ⟨b,off,cur,e,hh,fun i hi=>?_⟩
    have hi':i<n∧i<l.length:=by simp at hi;omega
    rw [hc i hi'.2,tx_get hi'.2,tx_get hi]
    simp
theorem cusedB {w:World} {a:Option Addr} {l:List ByteArray} (h:StB w a l) (cap:Nat) (hu:usedC l≤100000):Calls Tryz.prog 118 #[.slice a l.length cap] w fun e w'=>e=.returned (.int .i64 (usedC l:Int))∧w'=w:=by
  have:=cused a l.length cap (tx l) w h.sta (by rw [used_len];omega)
  rw [used_len] at this
  exact this
set_option maxRecDepth 20000 in
set_option maxHeartbeats 1000000 in
theorem cmid1 {X:World} {b1 b2 cap:Nat} {a:Option Addr} {l:List ByteArray} (h:StB X a l) (h1:X.heap[b1]? = some (.cells #[.slice a l.length cap] 43 (0,0))) (h2:X.heap[b2]? = some (.cells #[.int .i64 (usedC l:Int)] 3 (0,0))) (hc:l.length≤cap) (hu:usedC l≤10000) (i:Nat) (hi:i<l.length) (hl:l.length≤1000) :
    Calls Tryz.prog 221 #[.int .i64 (i:Int),(.pointer (some ⟨b1,0,none⟩)),(.pointer (some ⟨b2,0,none⟩))] X fun e w'=>e=.returned (.bool (decide (usedC l≤2 * usedC (l.take (i+1)))))∧∃ q,w'=X.drewN q:=by
  have c1:X.cell? ⟨b1,0,none⟩=some (.slice a l.length cap):=by simp [World.cell?,h1]
  have c2:X.cell? ⟨b2,0,none⟩=some (.int .i64 (usedC l:Int)):=by simp [World.cell?,h2]
  have l1:=(Array.getElem?_eq_some_iff.1 h1).1
  have l2:=(Array.getElem?_eq_some_iff.1 h2).1
  have hmono:=usedC_mono l (show i+1≤l.length by omega)
  rw [List.take_length] at hmono
  have hlen:(l.take (i+1)).length=i+1:=by simp;omega
  obtain ⟨b,off,cur,rfl,hh,hcur⟩:=h.resolve_left (fun e=>by rw [e] at hi;simp at hi)
  have HU:=hide (fun (q:Nat)=>cusedB (w:=X.drewN q) (l:=l.take (i+1)) ((StB.take (l:=l) (.inr ⟨b,off,cur,rfl,hh,hcur⟩) (i+1)).below (drawnB X q)) cap (by omega))
  rw [hlen] at HU
  have hb1:((i:Int)+1)≤(l.length:Int):=by omega
  have hb2:((i:Int)+1)≤(cap:Int):=by omega
  have hw:wrap64 ((i:Int)+1)=(i:Int)+1:=by unfold wrap64;omega
  have hw2:IntKind.i64.wrap ((i:Int)+1)=(i:Int)+1:=by rw [IntKind.wrap_i64];omega
  generalize usedC (l.take (i+1))=u1 at *
  generalize usedC l=u0 at *
  generalize l.length=L at *
  have hw3:IntKind.i64.wrap (2 * (u1:Int))=2 * (u1:Int):=by rw [IntKind.wrap_i64];omega
  have hdec:decide (u0≤2 * u1)=decide ((u0:Int)≤2 * (u1:Int)):=by congr 1;apply propext;omega
  rw [hdec]
  clear hh hcur h1 h2 hlen h hdec
  go_enter Tryz.func221,Tryz.ntmps221
  go_wp2_with fail
  go_region_with (go_at_call 118;refine (HU.out 1).mono ?_;rintro e w1 ⟨rfl,hw⟩;rw [hw];clear hw)
  all_goals
    go_wp2
    go_ret
    exact ⟨rfl,⟨1,rfl⟩⟩
set_option maxRecDepth 20000 in
set_option maxHeartbeats 1000000 in
theorem cmiddle {w:World} {a:Option Addr} {l:List ByteArray} (h:StB w a l) (cap:Nat) (hc:l.length≤cap) (hu:usedC l≤10000) (hl:l.length≤1000) :
    Calls Tryz.prog 209 #[.slice a l.length cap] w fun e w'=>e=.returned (.int .i64 (midC l:Int))∧Below w.heap.size w w':=by
  have hb1:Below w.heap.size w (w.alloc (.cells #[.slice a l.length cap] 43)):=((Below.refl _ _).alloc (Nat.le_refl _) _)
  have hb2:Below w.heap.size w ((w.alloc (.cells #[.slice a l.length cap] 43)).alloc (.cells #[.int .i64 (usedC l:Int)] 3)):=(((Below.refl _ _).alloc (Nat.le_refl _) _).alloc (by simp) _)
  have e1:((w.alloc (.cells #[.slice a l.length cap] 43)).alloc (.cells #[.int .i64 (usedC l:Int)] 3)).heap[w.heap.size]? = some (.cells #[.slice a l.length cap] 43 (0,0)):=by
    have hb:=(Below.refl (w.alloc (.cells #[.slice a l.length cap] 43)).heap.size (w.alloc (.cells #[.slice a l.length cap] 43))).alloc (Nat.le_refl _) (.cells #[.int .i64 (usedC l:Int)] 3)
    rw [hb.block w.heap.size (by simp)]
    exact World.alloc_heap_new w _
  have e2:((w.alloc (.cells #[.slice a l.length cap] 43)).alloc (.cells #[.int .i64 (usedC l:Int)] 3)).heap[w.heap.size+1]? = some (.cells #[.int .i64 (usedC l:Int)] 3 (0,0)):=by
    have:=World.alloc_heap_new (w.alloc (.cells #[.slice a l.length cap] 43)) (.cells #[.int .i64 (usedC l:Int)] 3)
    rw [World.size_alloc] at this
    exact this
  have HU:=hide (cusedB (h.below hb1) cap (by omega))
  have eg:∀ args w,(callFunc 221 args).run Tryz.prog w=.ok (.enter 221 args) w:=fun args w=>by go_simp
  have HS:=hide (Any.sort_Search Tryz.searchA 221 #[(.pointer (some ⟨w.heap.size,0,none⟩)),(.pointer (some ⟨w.heap.size+1,0,none⟩))] l.length (fun i=>decide (usedC l≤2 * usedC (l.take (i+1)))) ((w.alloc (.cells #[.slice a l.length cap] 43)).alloc (.cells #[.int .i64 (usedC l:Int)] 3)) eg (by omega) (fun m os i hi=>by
    have hbg:=grow_below ((w.alloc (.cells #[.slice a l.length cap] 43)).alloc (.cells #[.int .i64 (usedC l:Int)] 3)) m os
    refine (cmid1 (l:=l) (cap:=cap) (a:=a) ((h.below hb2).below hbg) ((hbg.block _ (Array.getElem?_eq_some_iff.1 e1).1).trans e1) ((hbg.block _ (Array.getElem?_eq_some_iff.1 e2).1).trans e2) hc hu i hi hl).mono ?_
    rintro e w' ⟨rfl,q,rfl⟩
    exact ⟨rfl,q,#[],by rw [grow_empty]⟩) (fun x y hxy hy hp=>by
    simp only [decide_eq_true_eq] at hp ⊢
    have:=usedC_mono l (show x+1≤y+1 by omega)
    omega))
  have hmid:(List.range l.length).countP (fun i=>!decide (usedC l≤2 * usedC (l.take (i+1))))=midC l:=rfl
  rw [hmid] at HS
  have HB2:=hide (hb2)
  generalize usedC l=u0 at *
  generalize midC l=mc at *
  generalize l.length=L at *
  clear e1 e2 eg hb1 hb2 h hmid
  go_enter Tryz.func209,Tryz.ntmps209
  go_wp2_with fail
  refine HU.out.mono ?_
  rintro e w1 ⟨rfl,hw⟩;rw [hw];clear hw
  go_wp2_with fail
  refine HS.out.mono ?_
  rintro e w2 ⟨rfl,q,os,rfl⟩
  go_wp2_with fail
  go_ret
  exact ⟨rfl,HB2.out.trans ((grow_below _ q os).mono (HB2.out.size))⟩
end Go.Proofs.YtmgjdjjfeapcdaaGreat
namespace Go.Proofs.YtmgjdjjfeapcdaaGreat
open Go.RowKit Go.Lib Go.Maps Go.Sort
attribute [local go_sem ↓] Go.wp_at_zero Go.wp_at_succ
/- what the tree's calls leave as it was: nodes below b, blocks of other types; the pool's own frame -/
structure TF (b B:Nat) (w w':World) (V V':PV):Prop where
  pm:∀ l b',b'≤b→PM w l b'→PM w' l b'
  blk:∀ (c:Nat) (cs:Array Value) (t:TypeId),w.heap[c]? = some (.cells cs t (0,0))→tyQ t=false→¬ t=9→¬ t=98→w'.heap[c]? = some (.cells cs t (0,0))
  st:∀ w0 V0,St2 w0 w B V0 V→w0.heap.size≤b→B≤w0.heap.size→St2 w0 w' B V0 V'
  size:w.heap.size≤w'.heap.size
theorem TF.refl (b B:Nat) (w:World) (V:PV):TF b B w w V V:=⟨fun _ _ _ h=>h,fun _ _ _ h _ _ _=>h,fun _ _ h _ _=>h,Nat.le_refl _⟩
theorem TF.trans {b B:Nat} {w w' w'':World} {V V' V'':PV} (h:TF b B w w' V V') (k:TF b B w' w'' V' V''):TF b B w w'' V V'':=
  ⟨fun l b' hb hl=>k.pm l b' hb (h.pm l b' hb hl),fun c cs t hc h1 h2 h3=>k.blk c cs t (h.blk c cs t hc h1 h2 h3) h1 h2 h3,fun w0 V0 hs hb hB=>k.st w0 V0 (h.st w0 V0 hs hb hB) hb hB,Nat.le_trans h.size k.size⟩
section
variable {w w':World} {B D Gp:Nat} {V V':PV} {K:Pgs} {pk m:Nat} {A:Nat→PgV} {fl:List Nat} {pages tb root:Nat}
theorem TS.tf (h:TS w B D Gp V K pk m A fl pages) (hs:St2 w w' B V V') (b:Nat):TF b B w w' V V':=
  ⟨fun _ _ _ hl=>h.stayPM hs hl,fun _ _ _ hc h1 _ _=>h.stay hs hc h1,fun _ _ h0 _ _=>h0.trans hs,hs.bel.size⟩
theorem NF.tf {b:Nat} (h:NF b w w') (ht:TS w B D Gp V K pk m A fl pages):TF b B w w' V V:=
  ⟨fun _ _ hb hl=>(h.mono hb).pm hl,fun _ _ _ hc _ h2 h3=>h.blk hc h2 h3,fun _ _ h0 hb hB=>h.st h0 ht hb hB,h.size⟩
theorem TF.stayTB {b:Nat} (h:TF b B w w' V V') (ht:TB w tb Gp root):TB w' tb Gp root:=h.blk _ _ _ ht (by decide) (by decide) (by decide)
theorem TF.mono {b b':Nat} (h:TF b B w w' V V') (hb:b'≤b):TF b' B w w' V V':=⟨fun l b2 h2=>h.pm l b2 (Nat.le_trans h2 hb),h.blk,fun w0 V0 h0 h1 h2=>h.st w0 V0 h0 (Nat.le_trans h1 hb) h2,h.size⟩
end
theorem StB.drop {w:World} {b off:Nat} {l:List ByteArray} (h:StB w (some ⟨b,off,none⟩) l) (n:Nat):StB w (some ⟨b,off+n,none⟩) (l.drop n):=by
  rcases h with h | ⟨b',off',cur,e,hh,hc⟩
  · exact .inl (by rw [h];simp)
  · injection e with e
    injection e with e1 e2 _
    subst e1 e2
    refine .inr ⟨b,off+n,cur,rfl,hh,fun i hi=>?_⟩
    have hi':n+i<l.length:=by simp at hi;omega
    rw [Nat.add_assoc,hc (n+i) hi',tx_get hi',tx_get hi]
    simp
/- both nodes have their cells in one row -/
theorem two_rows {w:World} {pl pr:Nat} {vl vr:NV} {sl sr:Value} {l l1 l2:List ByteArray} {s1 s2:Value} (hl:NB w pl vl sl) (hr:NB w pr vr sr) (hne:¬ pl=pr) {b:Nat} (hbl:b≤pl) (hbr:b≤pr) :
    NB (((w.setCell ⟨pl,2,none⟩ s1).setCell ⟨pr,2,none⟩ s2).drew) pl { vl with cells:=l1 } s1∧NB (((w.setCell ⟨pl,2,none⟩ s1).setCell ⟨pr,2,none⟩ s2).drew) pr { vr with cells:=l2 } s2∧NF b w (((w.setCell ⟨pl,2,none⟩ s1).setCell ⟨pr,2,none⟩ s2).drew)∧(∀ a,StB w a l→StB (((w.setCell ⟨pl,2,none⟩ s1).setCell ⟨pr,2,none⟩ s2).drew) a l):=by
  have g1:=set_grown w pl 2 s1
  have g2:=set_grown (w.setCell ⟨pl,2,none⟩ s1) pr 2 s2
  have b1:(w.setCell ⟨pl,2,none⟩ s1).heap[pl]? = some (.cells (ndC { vl with cells:=l1 } s1) 98 (0,0)):=by rw [set_blk hl];rfl
  have b2:NB (w.setCell ⟨pl,2,none⟩ s1) pr vr sr:=(g1.block pr (Array.getElem?_eq_some_iff.1 hr).1 (fun e=>by injection e with e;exact hne e.symm)).trans hr
  refine ⟨?_,?_,?_,fun a ha=>?_⟩
  · show ((w.setCell ⟨pl,2,none⟩ s1).setCell ⟨pr,2,none⟩ s2).heap[pl]? = _
    rw [g2.block pl (Array.getElem?_eq_some_iff.1 b1).1 (fun e=>by injection e with e;exact hne e)]
    exact b1
  · show ((w.setCell ⟨pl,2,none⟩ s1).setCell ⟨pr,2,none⟩ s2).heap[pr]? = _
    rw [set_blk b2]
    rfl
  · exact (((NF.refl w).set g1 hbl (.inr ⟨_,hl⟩)).set g2 hbr (.inr ⟨_,b2⟩)).bel (drawnB _ 1)
  · rcases ha with ha | ⟨b,off,cur,e,hh,hc⟩
    · exact .inl ha
    · refine .inr ⟨b,off,cur,e,?_,hc⟩
      show ((w.setCell ⟨pl,2,none⟩ s1).setCell ⟨pr,2,none⟩ s2).heap[b]? = _
      have h1:(w.setCell ⟨pl,2,none⟩ s1).heap[b]? = some (.cells cur 9 (0,0)):=(g1.block b (Array.getElem?_eq_some_iff.1 hh).1 (fun e=>by injection e with e;exact ne_CC ⟨_,hl⟩ ⟨_,hh⟩ (by decide) e)).trans hh
      rw [g2.block b (Array.getElem?_eq_some_iff.1 h1).1 (fun e=>by injection e with e;exact ne_CC ⟨_,b2⟩ ⟨_,h1⟩ (by decide) e)]
      exact h1
section
variable {w w':World} {B D Gp:Nat} {V V':PV} {K:Pgs} {pk m:Nat} {A:Nat→PgV} {fl:List Nat} {pages tb root:Nat}
set_option maxRecDepth 20000 in
set_option maxHeartbeats 4000000 in
theorem cshare1 (h:TS w B D Gp V K pk m A fl pages) (hm:m≤39000) (ht:TB w tb Gp root) {b pl pr:Nat} {vl vr:NV} {sl sr:Value} {g off cap:Nat} {l:List ByteArray}
    (hl:NB w pl vl sl) (hr:NB w pr vr sr) (hbl:b≤pl) (hbr:b≤pr) (hne:¬ pl=pr) (hst:StB w (some ⟨g,off,none⟩) l) (hcap:l.length≤cap) (hlen:l.length≤1000) (hu:usedC l≤1500)
    (hkl:vl.kind=1) (hkr:vr.kind=1) (hmid:midC l<l.length) (hsl:∃ x y z,sl=.slice x y z) (hsr:∃ x y z,sr=.slice x y z)
    (h1:okP ⟨1,vl.link,l.take (midC l)⟩) (h2:okP ⟨1,vr.link,l.drop (midC l)⟩) (hn1:0<vl.num∧vl.num<pages∧¬ vl.num ∈ fl) (hn2:0<vr.num∧vr.num<pages∧¬ vr.num ∈ fl)
    (hk:kS (tx l (midC l))≤(tx l (midC l)).size∧(tx l (midC l)).size≤240) :
    Calls Tryz.prog 184 #[(.pointer (some ⟨tb,0,none⟩)),(.pointer (some ⟨pl,0,none⟩)),(.pointer (some ⟨pr,0,none⟩)),.slice (some ⟨g,off,none⟩) l.length cap] w fun e w'=>e=.returned (.string (keyB (tx l (midC l))))∧∃ V',TS w' B D Gp V' K pk (m+2) (updA (updA A vl.num ⟨1,vl.link,l.take (midC l)⟩) vr.num ⟨1,vr.link,l.drop (midC l)⟩) fl pages∧TF b B w w' V V'∧NR w' pr { vr with cells:=l.drop (midC l) }:=by
  obtain ⟨x1,y1,z1,rfl⟩:=hsl
  obtain ⟨x2,y2,z2,rfl⟩:=hsr
  have HM:=hide (cmiddle hst cap hcap (by omega) hlen)
  have H:=hide (h)
  have HTB:=hide (ht)
  have HL:=hide (hl)
  have HR:=hide (hr)
  have HST:=hide (hst)
  obtain ⟨mc,hmc⟩:∃ mc,midC l=mc:=⟨_,rfl⟩
  rw [hmc] at HM hmid h1 h2 hk ⊢
  have HX:=hide (show (okP ⟨1,vl.link,l.take mc⟩∧okP ⟨1,vr.link,l.drop mc⟩)∧(0<vl.num∧vl.num<pages∧¬ vl.num ∈ fl)∧(0<vr.num∧vr.num<pages∧¬ vr.num ∈ fl)∧(kS (tx l mc)≤(tx l mc).size∧(tx l mc).size≤240)∧m≤39000∧mc<l.length∧vl.kind=1∧vr.kind=1∧b≤pl∧b≤pr from ⟨⟨h1,h2⟩,hn1,hn2,hk,hm,hmid,hkl,hkr,hbl,hbr⟩)
  have hlt1:(mc:Int)≤(l.length:Int):=by omega
  have hlt2:(mc:Int)≤(cap:Int):=by omega
  have hlt3:(mc:Int)<(l.length:Int):=by omega
  have hlc:(l.length:Int)≤(cap:Int):=by omega
  clear h ht hl hr hst h1 h2 hn1 hn2 hk hmc hm hkl hkr
  go_enter Tryz.func184,Tryz.ntmps184
  go_wp2_with fail
  refine HM.out.mono ?_
  rintro e w1 ⟨rfl,hb1⟩
  obtain ⟨q1,s1⟩:=H.out.below hb1
  have nl1:=H.out.stayNB s1 HL.out
  have nr1:=H.out.stayNB s1 HR.out
  obtain ⟨u0,u1,u2,u3,u4,u5,u6,u7,u8⟩:=nl1.cells
  obtain ⟨t0,t1,t2,t3,t4,t5,t6,t7,t8⟩:=nr1.cells
  have fl2:=u7 2
  have fr2:=t7 2
  have HB1:=hide (hb1)
  rw [HX.out.2.2.2.2.2.2.1] at u0
  clear u7 t7 HM hb1
  generalize hLL:l.length=LL at *
  go_wp2_with fail
  go_region
  all_goals
    have HLL:=hide (hLL)
    obtain ⟨n1,n2,n3,n4⟩:=two_rows (l:=l) (l1:=l.take mc) (l2:=l.drop mc) (s1:=.slice (some ⟨g,off,none⟩) mc cap) (s2:=.slice (some ⟨g,off+mc,none⟩) (LL - mc) (cap - mc)) nl1 nr1 hne hbl hbr
    have q2:=n3.ts q1
    have st2:=n4 _ (HST.out.below HB1.out)
    have e1:(l.take mc).length=mc:=by have:=HX.out.2.2.2.2.2.1;simp;omega
    have e2:(l.drop mc).length=LL - mc:=by simp [hLL]
    have r1:NR (((w1.setCell ⟨pl,2,none⟩ (.slice (some ⟨g,off,none⟩) mc cap)).setCell ⟨pr,2,none⟩ (.slice (some ⟨g,off+mc,none⟩) (LL - mc) (cap - mc))).drew) pl { vl with cells:=l.take mc }:=⟨_,cap,by rw [e1];exact n1,st2.take mc⟩
    have r2:NR (((w1.setCell ⟨pl,2,none⟩ (.slice (some ⟨g,off,none⟩) mc cap)).setCell ⟨pr,2,none⟩ (.slice (some ⟨g,off+mc,none⟩) (LL - mc) (cap - mc))).drew) pr { vr with cells:=l.drop mc }:=⟨_,cap - mc,by rw [e2];exact n2,st2.drop mc⟩
    have tf2:TF b B w (((w1.setCell ⟨pl,2,none⟩ (.slice (some ⟨g,off,none⟩) mc cap)).setCell ⟨pr,2,none⟩ (.slice (some ⟨g,off+mc,none⟩) (LL - mc) (cap - mc))).drew) V V:=(H.out.tf s1 b).trans (n3.tf q1)
    have tb2:=tf2.stayTB HTB.out
    obtain ⟨w0',w1',w2',w3',w4',w5',w6',w7',w8'⟩:=n1.cells
    have hx:=HX.out
    rw [show ({ vl with cells:=l.take mc }:NV).kind=vl.kind from rfl,hx.2.2.2.2.2.2.1] at w0'
    have hp1:pgN { vl with cells:=l.take mc }=⟨1,vl.link,l.take mc⟩:=by unfold pgN;rw [show ({ vl with cells:=l.take mc }:NV).kind=vl.kind from rfl,hx.2.2.2.2.2.2.1]
    have hp2:pgN { vr with cells:=l.drop mc }=⟨1,vr.link,l.drop mc⟩:=by unfold pgN;rw [show ({ vr with cells:=l.drop mc }:NV).kind=vr.kind from rfl,hx.2.2.2.2.2.2.2.1]
    have HW1:=hide (ctwrite q2 (by omega) tb2 r1 (by rw [hp1];exact hx.1.1) hx.2.1.1 hx.2.1.2.1 hx.2.1.2.2)
    have HR2:=hide (show _∧_∧_∧_∧_∧_ from ⟨q2,r2,tf2,tb2,hp1,hp2⟩)
    have HST2:=hide (st2)
    clear n1 n2 n3 n4 q2 st2 e1 e2 r1 r2 tf2 tb2 hp1 hp2 hx w1' w2' w3' w4' w5' w6' w7' nl1 nr1 q1 s1
    generalize hW2:((w1.setCell ⟨pl,2,none⟩ (.slice (some ⟨g,off,none⟩) mc cap)).setCell ⟨pr,2,none⟩ (.slice (some ⟨g,off+mc,none⟩) (LL - mc) (cap - mc))).drew=W2 at *
    clear hW2 u0 u1 u2 u3 u4 u5 u6 u8 t0 t1 t2 t3 t4 t5 t6 t8 fl2 fr2
    go_wp2_with fail
    refine HW1.out.mono ?_
    rintro e w3 ⟨rfl,V3,k1,k2⟩
    obtain ⟨q2,r2,tf2,tb2,hp1,hp2⟩:=HR2.out
    have hx:=HX.out
    have HW2:=hide (ctwrite k1 (by omega) (q2.stayTB k2 tb2) (q2.stayNR k2 r2) (by rw [hp2];exact hx.1.2) hx.2.2.1.1 hx.2.2.1.2.1 hx.2.2.1.2.2)
    rw [hp1,hp2] at HW2
    have HT3:=hide (show TS w3 B D Gp V3 K pk (m+1) (updA A vl.num ⟨1,vl.link,l.take mc⟩) fl pages∧TF b B w w3 V V3∧StB w3 (some ⟨g,off,none⟩) l∧NR w3 pr { vr with cells:=l.drop mc } from ⟨by rw [← hp1];exact k1,tf2.trans (q2.tf k2 b),q2.staySt k2 HST2.out,q2.stayNR k2 r2⟩)
    clear k1 k2 q2 r2 tf2 tb2 hp1 hp2 hx HW1 HR2 HST2
    go_wp2_with fail
    refine HW2.out.mono ?_
    rintro e w4 ⟨rfl,V4,k1,k2⟩
    have hs4:=HT3.out.1.staySt k2 HT3.out.2.2.1
    have hx:=HX.out
    obtain ⟨gb,goff,gcur,he,hgh,hgc⟩:=hs4.resolve_left (fun e=>by have h1:=hx.2.2.2.2.2.1;have h2:=HLL.out;rw [e] at h2;simp at h2;omega)
    injection he with he
    injection he with he1 he2 _
    have hcell:w4.cell? ⟨g,off+mc,none⟩=some (.string (tx l mc)):=by
      rw [he1,he2]
      simp only [World.cell?,hgh]
      exact hgc mc (by rw [HLL.out];exact hx.2.2.2.2.2.1)
    have HK:=hide (ckeyOf (tx l mc) w4 hx.2.2.2.1.1 (by have:=hx.2.2.2.1.2;omega))
    have HFIN:=hide (show TS w4 B D Gp V4 K pk (m+1+1) (updA (updA A vl.num ⟨1,vl.link,l.take mc⟩) vr.num ⟨1,vr.link,l.drop mc⟩) fl pages∧TF b B w w4 V V4∧NR w4 pr { vr with cells:=l.drop mc } from ⟨k1,HT3.out.2.1.trans (HT3.out.1.tf k2 b),HT3.out.1.stayNR k2 HT3.out.2.2.2⟩)
    obtain ⟨cm,hcm⟩:∃ cm,tx l mc=cm:=⟨_,rfl⟩
    rw [hcm] at HK hcell
    have HCM:=hide (hcm)
    clear hcm
    clear k1 k2 hs4 hx hgh hgc he1 he2 HT3 HW2
    go_wp2_with fail
    refine HK.out.mono ?_
    rintro e w5 ⟨rfl,hw⟩;rw [hw];clear hw
    go_wp2_with fail
    go_ret
    exact ⟨by rw [HCM.out];rfl,V4,HFIN.out⟩
end
end Go.Proofs.YtmgjdjjfeapcdaaGreat
