/- package tree: child, top -/
import Derived.Test.YtmgjdjjfeapcdaaGreatTrH
namespace Go.Proofs.YtmgjdjjfeapcdaaGreat
open Go.RowKit Go.Lib Go.Maps Go.Sort
attribute [local go_sem ↓] Go.wp_at_zero Go.wp_at_succ
theorem frm_cells {d num:Nat} (s1:List (ByteArray × T d)) (k:ByteArray) (x:T d) (s2:List (ByteArray × T d)):cellsT (d+1) (frm num s1 k x s2)=(s1 ++ (k,x) :: s2).tail.map fun p=>childB p.1 (numT d p.2):=rfl
theorem frm_at {d num:Nat} {s1 s2:List (ByteArray × T d)} {k:ByteArray} {x:T d} (h:0<s1.length):s1.length - 1<(cellsT (d+1) (frm num s1 k x s2)).length∧tx (cellsT (d+1) (frm num s1 k x s2)) (s1.length - 1)=childB k (numT d x):=by
  rw [frm_cells]
  cases s1 with
  | nil=>simp at h
  | cons p r =>
    have hl:r.length<((r ++ (k,x) :: s2).map fun p=>childB p.1 (numT d p.2)).length:=by simp
    refine ⟨by simp,?_⟩
    show tx ((r ++ (k,x) :: s2).map fun p=>childB p.1 (numT d p.2)) r.length=_
    rw [tx_get hl]
    simp
theorem frm_len {d num:Nat} {s1 s2:List (ByteArray × T d)} {k:ByteArray} {x:T d}:(cellsT (d+1) (frm num s1 k x s2)).length=s1.length+s2.length:=by
  rw [frm_cells]
  simp
theorem frm_next {d num:Nat} {s1 s2:List (ByteArray × T d)} {k k':ByteArray} {x y:T d}:tx (cellsT (d+1) (frm num s1 k x ((k',y) :: s2))) s1.length=childB k' (numT d y):=by
  have hl:s1.length<(cellsT (d+1) (frm num s1 k x ((k',y) :: s2))).length:=by rw [frm_len];simp
  rw [tx_get hl]
  simp only [frm_cells]
  cases s1 with
  | nil=>simp
  | cons p r=>simp
section
variable {w w':World} {B D Gp:Nat} {V V':PV} {K:Pgs} {pk m:Nat} {A:Nat→PgV} {fl:List Nat} {pages tb root:Nat}
theorem NR.at {p:Nat} {v:NV} (h:NR w p v):∃ a c,w.cell? ⟨p,1,none⟩=some (.int .i64 (v.link:Int))∧w.cell? ⟨p,2,none⟩=some (.slice a v.cells.length c)∧w.cell? ⟨p,4,none⟩=some (.string v.low)∧w.cell? ⟨p,5,none⟩=some (.string v.high)∧p<w.heap.size∧∀ i,i<v.cells.length→∃ b off,a=some ⟨b,off,none⟩∧b<w.heap.size∧w.cell? ⟨b,off+i,none⟩=some (.string (tx v.cells i)):=by
  obtain ⟨a,c,q1,q2⟩:=h
  obtain ⟨n0,n1,n2,n3,n4,n5,n6,n7,n8⟩:=q1.cells
  refine ⟨a,c,n1,n2,n4,n5,n8,fun i hi=>?_⟩
  rcases q2.sta with e | ⟨b,off,e,hb,hc⟩
  · omega
  · exact ⟨b,off,e,hb,hc i hi⟩
set_option maxRecDepth 20000 in
set_option maxHeartbeats 4000000 in
theorem cchildN (h:TS w B D Gp V K pk m A fl pages) (hm:m≤40000) (ht:TB w tb Gp root) {d num:Nat} {s1 s2:List (ByteArray × T d)} {k lo hi:ByteArray} {x:T d} {p tk:Nat} (hN:NR w p (nvT (d+1) (frm num s1 k x s2) lo hi tk)) (hB:Bnd (d+1) lo hi (frm num s1 k x s2)) (hl:(cellsT (d+1) (frm num s1 k x s2)).length≤1000) (hn:numT d x<pages) (hA:A (numT d x)=pgT d x) (hs:d=0∨¬ cellsT d x=[]) :
    Calls Tryz.prog 103 #[(.pointer (some ⟨tb,0,none⟩)),(.pointer (some ⟨p,0,none⟩)),.int .i64 (s1.length:Int)] w fun e w'=>∃ (V':PV) (q:Nat),e=.returned (.pointer (some ⟨q,0,none⟩))∧TS w' B D Gp V' K pk m A fl pages∧St2 w w' B V V'∧ND w' w.heap.size q (nvT d x k (nxt s2 hi) 0)∧w.heap.size≤q:=by
  have hbs:BS (Bnd d) (s1 ++ (k,x) :: s2) hi:=hB.2
  obtain ⟨⟨p0,r0,e0,hp0⟩,-⟩:=hB
  have e0:s1 ++ (k,x) :: s2=p0 :: r0:=e0
  rw [BS_app] at hbs
  obtain ⟨-,⟨-,hbx,hok2,-⟩,hok1⟩:=hbs
  have hbx:Bnd d k (nxt s2 hi) x:=hbx
  have hpg:=h.flsmall.2
  have HLD:=hide (fun (X:World) (hX:Below w.heap.size w X)=>cload (h.below hX).1 hm ((h.stayTB (h.below hX).2 ht)) hn hA hbx hs)
  have HKB:=hide (fun (X:World) (hX:Below w.heap.size w X)=>(h.below hX).2)
  obtain ⟨a,c,n1,n2,n4,n5,n8,hcell⟩:=hN.at
  replace n1:w.cell? ⟨p,1,none⟩=some (.int .i64 (linkT (d+1) (frm num s1 k x s2):Int)):=n1
  replace n2:w.cell? ⟨p,2,none⟩=some (.slice a (cellsT (d+1) (frm num s1 k x s2)).length c):=n2
  replace n4:w.cell? ⟨p,4,none⟩=some (.string lo):=n4
  replace n5:w.cell? ⟨p,5,none⟩=some (.string hi):=n5
  have hlen:=frm_len (num:=num) (s1:=s1) (s2:=s2) (k:=k) (x:=x)
  replace hcell:∀ i,i<(cellsT (d+1) (frm num s1 k x s2)).length→∃ b off,a=some ⟨b,off,none⟩∧b<w.heap.size∧w.cell? ⟨b,off+i,none⟩=some (.string (tx (cellsT (d+1) (frm num s1 k x s2)) i)):=hcell
  rw [hlen] at n2 hcell hl
  by_cases hz:s1=[]
  · cases s2 with
    | nil =>
      obtain rfl:s1=[]:=hz
      have hk:k=lo:=by simp at e0;rw [← hp0,← e0.1]
      have hlk:linkT (d+1) (frm num [] k x [])=numT d x:=rfl
      rw [hlk] at n1
      rw [hk] at HLD
      have HKE:=hide (hk)
      clear hlk hok1 e0 hp0
      simp only [List.length_nil,Nat.zero_add,Int.natCast_zero] at n2 hcell hl ⊢
      have hn2:nxt ([]:List (ByteArray × T d)) hi=hi:=rfl
      rw [hn2] at HLD
      clear hcell
      go_enter Tryz.func103,Tryz.ntmps103
      go_wp2_with fail
      go_quiet (fail)
      go_wp2_with fail
      refine (HLD.out _ (by first | exact drawnB w _ | exact (drawnB w _).drew)).mono ?_
      rintro e w9 ⟨V9,q9,rfl,z1,z2,z3,z4⟩
      have HK:=hide (show TS w9 B D Gp V9 K pk m A fl pages∧St2 w w9 B V V9∧ND w9 w.heap.size q9 (nvT d x lo hi 0)∧w.heap.size≤q9 from ⟨z1,(HKB.out _ (by first | exact drawnB w _ | exact (drawnB w _).drew)).trans z2,z3,z4⟩)
      clear z1 z2 z3 z4 HLD
      go_wp2_with fail
      go_ret
      exact ⟨V9,q9,rfl,by rw [HKE.out];exact HK.out⟩
    | cons qq s2 =>
      obtain ⟨k2,y2⟩:=qq
      obtain rfl:s1=[]:=hz
      have hk:k=lo:=by simp at e0;rw [← hp0,← e0.1]
      have hlk:linkT (d+1) (frm num [] k x ((k2,y2) :: s2))=numT d x:=rfl
      rw [hlk] at n1
      rw [hk] at HLD
      have HKE:=hide (hk)
      clear hlk hok1 e0 hp0
      simp only [List.length_nil,Nat.zero_add,Int.natCast_zero] at n2 hcell hl ⊢
      have hn2:nxt ((k2,y2) :: s2) hi=k2:=rfl
      rw [hn2] at HLD
      have hokk2:okK k2:=hok2 (k2,y2) (List.mem_cons_self ..)
      obtain ⟨u1,u2,u3,u4⟩:=childB_key hokk2 (numT d y2)
      have usz:=childB_sz k2 (numT d y2)
      have hkk2:=hokk2.2
      obtain ⟨b',off',hab',hbl',hx2⟩:=hcell 0 (by simp)
      rw [show tx (cellsT (d+1) (frm num [] k x ((k2,y2) :: s2))) 0=childB k2 (numT d y2) from frm_next] at hx2
      have HKO2:=hide (fun (X:World)=>ckeyOf (childB k2 (numT d y2)) X u2 (by omega))
      rw [u1] at HKO2
      generalize childB k2 (numT d y2)=cc2 at *
      clear u1 u2 u3 u4 usz hokk2
      subst hab'
      obtain ⟨L,hL⟩:∃ L,L=((k2,y2) :: s2).length:=⟨_,rfl⟩
      rw [← hL] at n2
      have hi2:(0:Int)<(L:Int):=by rw [hL];simp <;> omega
      rw [Nat.add_zero] at hx2
      clear hcell hL
      go_enter Tryz.func103,Tryz.ntmps103
      go_wp2_with fail
      go_quiet (fail)
      go_wp2_with fail
      refine (HKO2.out _).mono ?_
      rintro e w5 ⟨rfl,hw⟩;rw [hw];clear hw
      go_wp2_with fail
      refine (HLD.out _ (by first | exact drawnB w _ | exact (drawnB w _).drew)).mono ?_
      rintro e w9 ⟨V9,q9,rfl,z1,z2,z3,z4⟩
      have HK:=hide (show TS w9 B D Gp V9 K pk m A fl pages∧St2 w w9 B V V9∧ND w9 w.heap.size q9 (nvT d x lo k2 0)∧w.heap.size≤q9 from ⟨z1,(HKB.out _ (by first | exact drawnB w _ | exact (drawnB w _).drew)).trans z2,z3,z4⟩)
      clear z1 z2 z3 z4 HLD
      go_wp2_with fail
      go_ret
      exact ⟨V9,q9,rfl,by rw [HKE.out];exact HK.out⟩
  · cases s2 with
    | nil =>
      have hpos:0<s1.length:=List.length_pos_iff.2 hz
      obtain ⟨f1,f2⟩:=frm_at (num:=num) (s2:=[]) (k:=k) (x:=x) hpos
      obtain ⟨b,off,hab,hbl,hx1⟩:=hcell (s1.length - 1) (by simp;omega)
      rw [f2] at hx1
      have hokk:okK k:=(hok1.resolve_left hz) (k,x) (List.mem_cons_self ..)
      obtain ⟨c1,c2,c3,c4⟩:=childB_key hokk (numT d x)
      have csz:=childB_sz k (numT d x)
      have hk2:=hokk.2
      have HPO:=hide (fun (X:World)=>cpageOf (childB k (numT d x)) X (by omega) (by omega))
      rw [num_child k (by omega)] at HPO
      have HKO:=hide (fun (X:World)=>ckeyOf (childB k (numT d x)) X c2 (by omega))
      rw [c1] at HKO
      have HX:=hide (fun (b off:Nat) (hb:a=some ⟨b,off,none⟩) (e:Nat) (he:w.cell? ⟨b,off+(s1.length - 1),none⟩=w.cell? ⟨b,off+(s1.length - 1),none⟩)=>he)
      clear HX
      generalize childB k (numT d x)=cc at *
      clear c1 c2 c3 c4 csz hokk f1 f2 hok1 hz e0 hp0
      have hn2:nxt ([]:List (ByteArray × T d)) hi=hi:=rfl
      rw [hn2] at HLD
      subst hab
      obtain ⟨j1,hj1⟩:∃ j,s1.length=j+1:=⟨s1.length - 1,by omega⟩
      have hj2:s1.length - 1=j1:=by omega
      rw [hj2] at hx1
      have hw1:wrap64 (((j1+1:Nat):Int) - 1)=(j1:Int):=by unfold wrap64;omega
      have hw2:IntKind.i64.wrap (((j1+1:Nat):Int) - 1)=(j1:Int):=by rw [IntKind.wrap_i64];omega
      have hw3:IntKind.i64.wrap (j1:Int)=(j1:Int):=by rw [IntKind.wrap_i64];omega
      obtain ⟨L,hL⟩:∃ L,L=s1.length+(([]:List (ByteArray × T d))).length:=⟨_,rfl⟩
      rw [← hL] at n2
      have hlt1:(j1:Int)<(L:Int):=by omega
      have hi0:(0:Int)<(s1.length:Int):=by omega
      have hi2:¬ (s1.length:Int)<(L:Int):=by rw [hL];simp
      clear hcell hj2 hpos
      generalize s1.length=ii at *
      clear hL
      subst hj1
      go_enter Tryz.func103,Tryz.ntmps103
      go_wp2_with fail
      go_quiet (fail)
      go_wp2_with fail
      go_region_with (first | (go_at_call 161;refine (HPO.out _).mono ?_;rintro e w1 ⟨rfl,hw⟩;rw [hw];clear hw) | (go_at_call 149;refine (HKO.out _).mono ?_;rintro e w2 ⟨rfl,hw⟩;rw [hw];clear hw))
      all_goals
        go_wp2_with fail
        refine (HLD.out _ (by first | exact drawnB w _ | exact (drawnB w _).drew)).mono ?_
        rintro e w9 ⟨V9,q9,rfl,z1,z2,z3,z4⟩
        have HK:=hide (show TS w9 B D Gp V9 K pk m A fl pages∧St2 w w9 B V V9∧ND w9 w.heap.size q9 (nvT d x k hi 0)∧w.heap.size≤q9 from ⟨z1,(HKB.out _ (by first | exact drawnB w _ | exact (drawnB w _).drew)).trans z2,z3,z4⟩)
        clear z1 z2 z3 z4 HLD
        go_wp2_with fail
        go_ret
        exact ⟨V9,q9,rfl,HK.out⟩
    | cons qq s2 =>
      obtain ⟨k2,y2⟩:=qq
      have hpos:0<s1.length:=List.length_pos_iff.2 hz
      obtain ⟨f1,f2⟩:=frm_at (num:=num) (s2:=((k2,y2) :: s2)) (k:=k) (x:=x) hpos
      obtain ⟨b,off,hab,hbl,hx1⟩:=hcell (s1.length - 1) (by simp;omega)
      rw [f2] at hx1
      have hokk:okK k:=(hok1.resolve_left hz) (k,x) (List.mem_cons_self ..)
      obtain ⟨c1,c2,c3,c4⟩:=childB_key hokk (numT d x)
      have csz:=childB_sz k (numT d x)
      have hk2:=hokk.2
      have HPO:=hide (fun (X:World)=>cpageOf (childB k (numT d x)) X (by omega) (by omega))
      rw [num_child k (by omega)] at HPO
      have HKO:=hide (fun (X:World)=>ckeyOf (childB k (numT d x)) X c2 (by omega))
      rw [c1] at HKO
      have HX:=hide (fun (b off:Nat) (hb:a=some ⟨b,off,none⟩) (e:Nat) (he:w.cell? ⟨b,off+(s1.length - 1),none⟩=w.cell? ⟨b,off+(s1.length - 1),none⟩)=>he)
      clear HX
      generalize childB k (numT d x)=cc at *
      clear c1 c2 c3 c4 csz hokk f1 f2 hok1 hz e0 hp0
      have hn2:nxt ((k2,y2) :: s2) hi=k2:=rfl
      rw [hn2] at HLD
      have hokk2:okK k2:=hok2 (k2,y2) (List.mem_cons_self ..)
      obtain ⟨u1,u2,u3,u4⟩:=childB_key hokk2 (numT d y2)
      have usz:=childB_sz k2 (numT d y2)
      have hkk2:=hokk2.2
      obtain ⟨b',off',hab',hbl',hx2⟩:=hcell s1.length (by simp)
      rw [show tx (cellsT (d+1) (frm num s1 k x ((k2,y2) :: s2))) s1.length=childB k2 (numT d y2) from frm_next] at hx2
      have HKO2:=hide (fun (X:World)=>ckeyOf (childB k2 (numT d y2)) X u2 (by omega))
      rw [u1] at HKO2
      generalize childB k2 (numT d y2)=cc2 at *
      clear u1 u2 u3 u4 usz hokk2
      subst hab
      injection hab' with hab'
      injection hab' with e1 e2 _
      subst e1 e2
      clear hbl'
      obtain ⟨j1,hj1⟩:∃ j,s1.length=j+1:=⟨s1.length - 1,by omega⟩
      have hj2:s1.length - 1=j1:=by omega
      rw [hj2] at hx1
      have hw1:wrap64 (((j1+1:Nat):Int) - 1)=(j1:Int):=by unfold wrap64;omega
      have hw2:IntKind.i64.wrap (((j1+1:Nat):Int) - 1)=(j1:Int):=by rw [IntKind.wrap_i64];omega
      have hw3:IntKind.i64.wrap (j1:Int)=(j1:Int):=by rw [IntKind.wrap_i64];omega
      obtain ⟨L,hL⟩:∃ L,L=s1.length+((k2,y2) :: s2).length:=⟨_,rfl⟩
      rw [← hL] at n2
      have hlt1:(j1:Int)<(L:Int):=by omega
      have hi0:(0:Int)<(s1.length:Int):=by omega
      have hi2:(s1.length:Int)<(L:Int):=by rw [hL];simp;omega
      clear hcell hj2 hpos
      generalize s1.length=ii at *
      clear hL
      subst hj1
      go_enter Tryz.func103,Tryz.ntmps103
      go_wp2_with fail
      go_quiet (fail)
      go_wp2_with fail
      go_region_with (first | (go_at_call 161;refine (HPO.out _).mono ?_;rintro e w1 ⟨rfl,hw⟩;rw [hw];clear hw) | (go_at_call 149;refine (HKO.out _).mono ?_;rintro e w2 ⟨rfl,hw⟩;rw [hw];clear hw))
      all_goals
        go_wp2_with fail
        refine (HKO2.out _).mono ?_
        rintro e w5 ⟨rfl,hw⟩;rw [hw];clear hw
        go_wp2_with fail
        refine (HLD.out _ (by first | exact drawnB w _ | exact (drawnB w _).drew)).mono ?_
        rintro e w9 ⟨V9,q9,rfl,z1,z2,z3,z4⟩
        have HK:=hide (show TS w9 B D Gp V9 K pk m A fl pages∧St2 w w9 B V V9∧ND w9 w.heap.size q9 (nvT d x k k2 0)∧w.heap.size≤q9 from ⟨z1,(HKB.out _ (by first | exact drawnB w _ | exact (drawnB w _).drew)).trans z2,z3,z4⟩)
        clear z1 z2 z3 z4 HLD
        go_wp2_with fail
        go_ret
        exact ⟨V9,q9,rfl,HK.out⟩
set_option maxRecDepth 20000 in
theorem ctop (h:TS w B D Gp V K pk m A fl pages) (hm:m≤40000) {d:Nat} {x:T d} (ht:TB w tb Gp (numT d x)) (hn:numT d x<pages) (hA:A (numT d x)=pgT d x) (hb:Bnd d ⟨#[]⟩ ⟨#[]⟩ x) (hs:d=0∨¬ cellsT d x=[]) :
    Calls Tryz.prog 60 #[(.pointer (some ⟨tb,0,none⟩))] w fun e w'=>∃ (V':PV) (p:Nat),e=.returned (.pointer (some ⟨p,0,none⟩))∧TS w' B D Gp V' K pk m A fl pages∧St2 w w' B V V'∧ND w' w.heap.size p (nvT d x ⟨#[]⟩ ⟨#[]⟩ 0)∧w.heap.size≤p:=by
  obtain ⟨t0,t1,tlt⟩:=ht.cells
  have HL:=hide (cload h hm ht hn hA hb hs)
  clear h ht hA hb hs
  go_enter Tryz.func60,Tryz.ntmps60
  go_wp2_with fail
  refine HL.out.mono ?_
  rintro e w1 ⟨V1,p,rfl,k⟩
  have HK:=hide (k)
  clear k HL
  go_wp2_with fail
  go_ret
  exact ⟨V1,p,rfl,HK.out⟩
end
end Go.Proofs.YtmgjdjjfeapcdaaGreat
