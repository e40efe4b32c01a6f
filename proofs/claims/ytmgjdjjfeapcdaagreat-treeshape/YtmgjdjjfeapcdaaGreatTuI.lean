/- relstorekeep: (*shape).children -/
import Derived.Test.YtmgjdjjfeapcdaaGreatTuF
namespace Go.Proofs.YtmgjdjjfeapcdaaGreat
open Go.RowKit Go.Lib Go.Maps Go.Sort
attribute [local go_sem ↓] Go.wp_at_zero Go.wp_at_succ
/- node of depth d -/
def NodOk (B D Gp : Nat) (K : Pgs) (pk m : Nat) (A : Nat → PgV) (fl : List Nat) (pages sp : Nat) (d : Nat) : Prop := ∀ (w : World) (V : PV) (k : Nat) (va vb vc : Value) (lv ln : List Nat) (ks : List ByteArray) (x : T d) (lo hi : ByteArray), TS w B D Gp V K pk m A fl pages → Sp w sp V k va vb vc lv ln ks true → Bnd d lo hi x → FilN d x → (∀ q ∈ nodT d x, A q.1 = q.2) → (∀ n ∈ numsT d x, 0 < n ∧ n < pages) → k + (nodT d x).length ≤ pages → (lv.length + (lvsT d x).length ≤ 1000000 ∧ ln.length + (lvsT d x).length ≤ 1000000 ∧ ks.length + (entT d x).length ≤ 1000000) →
    Calls Tryz.prog 21 #[(.pointer (some ⟨sp,0,none⟩)),(.pointer (some ⟨Gp,0,none⟩)),.int .i64 (numT d x:Int),.string lo,.string hi,.bool false] w (nodP w sp B D Gp V K pk m A fl pages k vc lv ln ks (d+1) (nodT d x).length (lvsT d x) (entT d x))
theorem nodS_take {d:Nat} {l:List (ByteArray × T d)} {i:Nat} (h:i<l.length):nodS (l.take (i+1))=nodS (l.take i) ++ nodT d l[i].2∧lvsS (l.take (i+1))=lvsS (l.take i) ++ lvsT d l[i].2∧entS (l.take (i+1))=entS (l.take i) ++ entT d l[i].2:=by
  have a:∀ p:ByteArray × T d,nodS [p]=nodT d p.2∧lvsS [p]=lvsT d p.2∧entS [p]=entT d p.2:=fun p=>by simp [nodS,lvsS,entS]
  rw [take_snoc h,nodS_app,lvsS_app,entS_app,(a _).1,(a _).2.1,(a _).2.2]
  exact ⟨rfl,rfl,rfl⟩
theorem nodS_le {d:Nat} (l:List (ByteArray × T d)) (i:Nat):(nodS (l.take i)).length≤(nodS l).length∧(lvsS (l.take i)).length≤(lvsS l).length∧(entS (l.take i)).length≤(entS l).length:=by
  have a:=congrArg List.length (nodS_app (l.take i) (l.drop i))
  have b:=congrArg List.length (lvsS_app (l.take i) (l.drop i))
  have c:=congrArg List.length (entS_app (l.take i) (l.drop i))
  rw [List.take_append_drop,List.length_append] at a b c
  omega
/- between two children -/
structure ChS (w X:World) (sp B D Gp:Nat) (V Vi:PV) (K:Pgs) (pk m:Nat) (A:Nat→PgV) (fl:List Nat) (pages k:Nat) (va vb vc vci:Value) (lv ln:List Nat) (ks:List ByteArray) (g bx cap link n:Nat) (cur:Array Value):Prop where
  no:NoS w X sp B D Gp V Vi K pk m A fl pages k va vb vc vci lv ln ks
  row:X.heap[g]? = some (.cells cur 9 (0,0))
  far:¬ vci.ownBlock=some g
  bx:Bx3 X bx (.int .i64 2) (.int .i64 (link:Int)) (.slice (some ⟨g,0,none⟩) n cap)
section
variable {w w' X:World} {B D Gp:Nat} {V V' Vi:PV} {K:Pgs} {pk m:Nat} {A:Nat→PgV} {fl:List Nat} {pages sp k:Nat} {va vb vc vci:Value} {lv ln:List Nat} {ks:List ByteArray}
theorem ChS.step {g bx cap link n k':Nat} {cur:Array Value} {va' vb' vc':Value} {lv' ln':List Nat} {ks':List ByteArray} (h:ChS w X sp B D Gp V Vi K pk m A fl pages k va vb vc vci lv ln ks g bx cap link n cur) (hn:NoS X w' sp B D Gp Vi V' K pk m A fl pages k' va' vb' vci vc' lv' ln' ks'):ChS w w' sp B D Gp V V' K pk m A fl pages k' va' vb' vc vc' lv' ln' ks' g bx cap link n cur:=by
  obtain ⟨a,b⟩:=hn.hf.str g cur h.row h.far
  exact ⟨⟨hn.ts,hn.shp,h.no.hf.trans hn.hf⟩,a,b,hn.hf.bx h.bx⟩
theorem ChS.below {X':World} {g bx cap link n:Nat} {cur:Array Value} (h:ChS w X sp B D Gp V Vi K pk m A fl pages k va vb vc vci lv ln ks g bx cap link n cur) (hb:Below X.heap.size X X'):ChS w X' sp B D Gp V Vi K pk m A fl pages k va vb vc vci lv ln ks g bx cap link n cur:=
  ⟨h.no.below hb,(hb.block g (Array.getElem?_eq_some_iff.1 h.row).1).trans h.row,h.far,h.bx.below hb⟩
/- a child's cell -/
theorem child_cell {d:Nat} {kids:List (ByteArray × T d)} {num:Nat} {i:Nat} (h:i+1<kids.length) (hk:okK kids[i+1].1) (c:ByteArray) (hc:c=tx (cellsT (d+1) (⟨num,kids⟩:Inn (T d))) i) (b0:Nat) (hb0:bytS c 0=b0):0<c.size∧1+b0≤c.size∧c.size≤240∧c.extract 1 (1+b0)=kids[i+1].1∧c.extract (1+b0) c.size=fourB (numT d kids[i+1].2):=by
  have e:c=childB kids[i+1].1 (numT d kids[i+1].2):=by
    rw [hc]
    have hl:i<(cellsT (d+1) (⟨num,kids⟩:Inn (T d))).length:=by
      show i<(kids.tail.map _).length
      rw [List.length_map,List.length_tail]
      omega
    rw [tx_get hl]
    show (kids.tail.map fun p=>childB p.1 (numT d p.2))[i]=_
    simp
  obtain ⟨a1,a2,-,a4⟩:=childB_key hk (numT d kids[i+1].2)
  rw [← e] at a1 a2 a4
  have a5:kS c=1+b0:=by show 1+bytS c 0=_;rw [hb0]
  have a6:=childB_sz kids[i+1].1 (numT d kids[i+1].2)
  rw [← e] at a6
  rw [a5] at a2
  unfold keyB at a1
  unfold restB at a4
  rw [a5] at a1 a4
  exact ⟨by omega,a2,by have:=hk.2;omega,a1,a4⟩
set_option maxRecDepth 20000 in
set_option maxHeartbeats 8000000 in
theorem cchildrenS {d:Nat} (IH:NodOk B D Gp K pk m A fl pages sp d) {num:Nat} {kids:List (ByteArray × T d)} (h:TS w B D Gp V K pk m A fl pages) (hp:Sp w sp V k va vb vc lv ln ks true) {lo hi:ByteArray} (hb:Bnd (d+1) lo hi (⟨num,kids⟩:Inn (T d))) (hne:2≤kids.length) (hl4:kids.length≤400) (hd:d≤1000) (hf:∀ p ∈ kids,FilN d p.2) (hA:∀ q ∈ nodS kids,A q.1=q.2) (hs:∀ q ∈ nodS kids,0<q.1∧q.1<pages) (hk:k+(nodS kids).length≤pages) (hL:lv.length+(lvsS kids).length≤1000000∧ln.length+(lvsS kids).length≤1000000∧ks.length+(entS kids).length≤1000000) {cl:List ByteArray} (hcl:cellsT (d+1) (⟨num,kids⟩:Inn (T d))=cl) {base:Nat} {a:Option Addr} {cap:Nat} (hr:w.ownsRow base 9 1 (.slice a cl.length cap) cl.length (valsS cl)) (hvc:∀ g,(Value.slice a cl.length cap).ownBlock=some g→¬ vc.ownBlock=some g) :
    Calls Tryz.prog 57 #[(.pointer (some ⟨sp,0,none⟩)),(.pointer (some ⟨Gp,0,none⟩)),.agg #[.int .i64 2,.int .i64 (linkT (d+1) (⟨num,kids⟩:Inn (T d)):Int),.slice a cl.length cap],.string lo,.string hi] w (nodP w sp B D Gp V K pk m A fl pages k vc lv ln ks (d+2) (nodS kids).length (lvsS kids) (entS kids)):=by
  have hcn:cl.length+1=kids.length:=by
    rw [← hcl]
    show (kids.tail.map _).length+1=_
    rw [List.length_map,List.length_tail]
    omega
  have hpg:=h.flsmall.2
  obtain ⟨g,cap',cur,hva,hbg,hg,hc1,hc2,hc3,-,hc5⟩:=own_cur (l:=cl) (n:=cl.length) hr (by omega)
  injection hva with hva _ hca
  subst hva hca
  obtain ⟨link,hlink⟩:∃ link,linkT (d+1) (⟨num,kids⟩:Inn (T d))=link:=⟨_,rfl⟩
  have hlk:link=numT d (kids[0]'(by omega)).2:=by
    rw [← hlink]
    cases kids with
    | nil=>simp at hne
    | cons p r=>rfl
  have hlo:(kids[0]'(by omega)).1=lo:=by
    obtain ⟨p,r,e1,e2⟩:=hb.1
    have e1:kids=p :: r:=e1
    subst e1
    exact e2
  have hbs:BS (Bnd d) kids hi:=hb.2
  rw [hlink]
  have hb1:Below w.heap.size w (w.alloc (.cells #[.int .i64 2,.int .i64 (link:Int),.slice (some ⟨g,0,none⟩) cl.length cap] 82)):=((Below.refl _ _).alloc (Nat.le_refl _) _)
  obtain ⟨q1,s1⟩:=h.below hb1
  have H0:Hid (ChS w (w.alloc (.cells #[.int .i64 2,.int .i64 (link:Int),.slice (some ⟨g,0,none⟩) cl.length cap] 82)) sp B D Gp V V K pk m A fl pages k va vb vc vc lv ln ks g w.heap.size cap link cl.length cur):=⟨⟨q1,h.staySp s1 hp,h.hf s1 sp vc⟩,(hb1.block g (Array.getElem?_eq_some_iff.1 hg).1).trans hg,hvc g rfl,Bx3.new w _ _ _⟩
  have HC:=hide (fun (i:Nat) (hi':i<kids.length) (X:World) (Vi:PV) (va vb vci:Value) (hx:NoS w X sp B D Gp V Vi K pk m A fl pages (k+(nodS (kids.take i)).length) va vb vc vci (lv ++ (lvsS (kids.take i)).map (·.1)) (ln ++ (lvsS (kids.take i)).map (·.2)) (ks ++ (entS (kids.take i)).map (·.1))) =>
    (show Calls Tryz.prog 21 #[(.pointer (some ⟨sp,0,none⟩)),(.pointer (some ⟨Gp,0,none⟩)),.int .i64 (numT d kids[i].2:Int),.string kids[i].1,.string (nxt (kids.drop (i+1)) hi),.bool false] X (fun e w'=>e=.returned (.int .i64 ((d+1:Nat):Int))∧∃ (V':PV) (va' vb' vc':Value),NoS X w' sp B D Gp Vi V' K pk m A fl pages (k+(nodS (kids.take (i+1))).length) va' vb' vci vc' (lv ++ (lvsS (kids.take (i+1))).map (·.1)) (ln ++ (lvsS (kids.take (i+1))).map (·.2)) (ks ++ (entS (kids.take (i+1))).map (·.1))) from by
      obtain ⟨t1,t2,t3⟩:=nodS_take hi'
      have l1:=nodS_le kids (i+1)
      rw [t1,t2,t3] at l1 ⊢
      simp only [List.length_append] at l1
      have hin:∀ q ∈ nodT d kids[i].2,q ∈ nodS kids:=fun q hq=>List.mem_flatMap.2 ⟨kids[i],List.getElem_mem hi',hq⟩
      refine (IH X Vi _ va vb vci _ _ _ kids[i].2 kids[i].1 (nxt (kids.drop (i+1)) hi) hx.ts hx.shp (BS_at kids hi hbs i hi') (hf _ (List.getElem_mem hi')) (fun q hq=>hA q (hin q hq)) (fun n hn=>?_) (by omega) ?_).mono ?_
      · obtain ⟨q,hq,rfl⟩:=List.mem_map.1 hn
        exact hs q (hin q hq)
      · simp only [List.length_append,List.length_map]
        omega
      · rintro e w' ⟨rfl,V',va',vb',vc',hn⟩
        refine ⟨rfl,V',va',vb',vc',?_⟩
        simpa only [List.length_append,List.map_append,Nat.add_assoc,List.append_assoc] using hn))
  have HK:=hide (fun (i:Nat) (hi':i+1<kids.length)=>child_cell (num:=num) hi' (BS_ok hbs i hi'))
  rw [hcl] at HK
  have HNB:=hide (fun (i:Nat) (hi':i<kids.length)=>(show numT d kids[i].2<4294967296 from by
    have:=(hs (numT d kids[i].2,pgT d kids[i].2) (List.mem_flatMap.2 ⟨kids[i],List.getElem_mem hi',by rw [nodT_eq];simp⟩)).2
    have:numT d kids[i].2<pages:=this
    omega))
  have HD:=hide (And.intro hd (And.intro hl4 hne))
  have HLK:=hide (And.intro hlk hlo)
  have HCU:=hide hc5
  have hsp:=hp.cells.2.2.2.2.2.2
  clear IH h hp hb hf hA hs hk hL hcl hr hvc hlink hlk hlo hbs hb1 q1 s1 hg hc5 hbg hc1 hc2 hc3 hd hpg
  obtain ⟨W,hW⟩:∃ W,w.alloc (.cells #[.int .i64 2,.int .i64 (link:Int),.slice (some ⟨g,0,none⟩) cl.length cap] 82)=W:=⟨_,rfl⟩
  rw [hW] at H0
  obtain ⟨bx,hbx⟩:∃ bx,w.heap.size=bx:=⟨_,rfl⟩
  rw [hbx] at H0
  go_enter Tryz.func57,Tryz.ntmps57
  go_wp2_with fail
  try rw [hW]
  try rw [hbx]
  clear hW hbx
  go_loopw [11,12] (fun x11 x12 X=>∃ (i:Nat) (Vi:PV) (va vb vci:Value),i≤kids.length∧x11=.int .i64 ((if i=0 then 0 else d+1:Nat):Int)∧x12=.int .i64 (i:Int)∧Hid (ChS w X sp B D Gp V Vi K pk m A fl pages (k+(nodS (kids.take i)).length) va vb vc vci (lv ++ (lvsS (kids.take i)).map (·.1)) (ln ++ (lvsS (kids.take i)).map (·.2)) (ks ++ (entS (kids.take i)).map (·.1)) g bx cap link cl.length cur)) (fun _ x12 _=>kids.length - (intOf x12).toNat)
  case atStart=>exact ⟨0,V,va,vb,vc,Nat.zero_le _,rfl,rfl,by simpa [nodS,lvsS,entS] using H0⟩
  case round =>
    obtain ⟨i,Vi,va,vb,vci,hi',rfl,rfl,HX⟩:=hrel
    obtain ⟨c0,c1,c2,c3,c4,c5,c6⟩:=HX.out.no.shp.cells
    have f4:=c5 4
    have hsame:=HX.out.no.shp.same
    have x1:=HX.out.bx.c1
    have x2:=HX.out.bx.c2
    have hcell:∀ j,j<cl.length→wr.cell? ⟨g,j,none⟩=some (.string (tx cl j)):=fun j hj=>by
      have:=HCU.out j hj
      simp only [World.cell?,HX.out.row]
      rw [this,tx_get hj]
      simp [hj]
    clear c0 c1 c2 c3 c5
    by_cases hlt:i<kids.length
    · by_cases hi0:i=0
      · subst hi0
        obtain ⟨c,hc⟩:∃ c,tx cl 0=c:=⟨_,rfl⟩
        obtain ⟨bc,hbc⟩:∃ bc,bytS c 0=bc:=⟨_,rfl⟩
        obtain ⟨z1a,z2a,z3a,z4a,z5a⟩:=HK.out 0 (by omega) c hc.symm bc hbc
        have bka:=bytS_get z1a
        have bla:=bytS_lt c 0
        rw [hbc] at bka bla
        have cella:=hcell 0 (by omega)
        rw [hc] at cella
        have hcall:=HC.out 0 hlt wr Vi va vb vci HX.out.no
        rw [← HLK.out.1,HLK.out.2,nxt_at kids hi (0+1) (by omega),← z4a] at hcall
        have HCA:=hide hcall
        have e0:(0:Int)≤(cl.length:Int):=by omega
        have e1:(0:Int)<(cl.length:Int):=by omega
        clear hcall hcell z4a z5a hc hbc hi'
        go_wp2_with fail
        refine HCA.out.mono ?_
        rintro e w2 ⟨rfl,V',va',vb',vc',hn⟩
        have HX2:=hide (HX.out.step hn)
        clear hn HCA HX c4 f4 hsame x1 x2 c6
        obtain ⟨c0,c1,c2,c3,c4,c5,c6⟩:=HX2.out.no.shp.cells
        have f4:=c5 4
        have hsame:=HX2.out.no.shp.same
        have x1:=HX2.out.bx.c1
        have x2:=HX2.out.bx.c2
        clear c0 c1 c2 c3 c5
        go_wp2_with fail
        go_roundw
        case rel=>exact ⟨0+1,V',va',vb',vc',by omega,by simp,by go_num,HX2⟩
        case measure=>simp [intOf];omega
      · obtain ⟨j,rfl⟩:∃ j,i=j+1:=⟨i - 1,by omega⟩
        by_cases hjc:j+1<cl.length
        · have hlt':j+1<kids.length:=hlt
          obtain ⟨c,hc⟩:∃ c,tx cl j=c:=⟨_,rfl⟩
          obtain ⟨bc,hbc⟩:∃ bc,bytS c 0=bc:=⟨_,rfl⟩
          obtain ⟨z1a,z2a,z3a,z4a,z5a⟩:=HK.out j (by omega) c hc.symm bc hbc
          have bka:=bytS_get z1a
          have bla:=bytS_lt c 0
          rw [hbc] at bka bla
          have cella:=hcell j (by omega)
          rw [hc] at cella
          obtain ⟨e,he⟩:∃ e,tx cl (j+1)=e:=⟨_,rfl⟩
          obtain ⟨be,hbe⟩:∃ be,bytS e 0=be:=⟨_,rfl⟩
          obtain ⟨z1b,z2b,z3b,z4b,z5b⟩:=HK.out (j+1) (by omega) e he.symm be hbe
          have bkb:=bytS_get z1b
          have blb:=bytS_lt e 0
          rw [hbe] at bkb blb
          have cellb:=hcell (j+1) (by omega)
          rw [he] at cellb
          have hcall:=fun (X:World) (hx:NoS w X sp B D Gp V Vi K pk m A fl pages (k+(nodS (kids.take (j+1))).length) va vb vc vci (lv ++ (lvsS (kids.take (j+1))).map (·.1)) (ln ++ (lvsS (kids.take (j+1))).map (·.2)) (ks ++ (entS (kids.take (j+1))).map (·.1)))=>HC.out (j+1) hlt X Vi va vb vci hx
          rw [nxt_at kids hi (j+1+1) (by omega),← z4a,← z4b] at hcall
          obtain ⟨r,hr⟩:∃ r,c.extract (1+bc) c.size=r:=⟨_,rfl⟩
          have r4:r.size=4:=by rw [← hr,z5a];rfl
          have ho:=or4 (bytS r 0) (bytS r 1) (bytS r 2) (bytS r 3) (bytS_lt r 0) (bytS_lt r 1) (bytS_lt r 2) (bytS_lt r 3)
          have hrn:numB r 0=numT d kids[j+1].2:=by rw [← hr,z5a];exact num_four (HNB.out (j+1) hlt)
          have hrn2:((bytS r 0 * 256+bytS r 1) * 256+bytS r 2) * 256+bytS r 3=numT d kids[j+1].2:=by rw [← hrn];simp [numB,numK]
          rw [hrn2] at ho
          obtain ⟨nn,hnn⟩:∃ nn,numT d kids[j+1].2=nn:=⟨_,rfl⟩
          rw [hnn] at ho hcall
          have q0:0<r.size:=by rw [r4];decide
          have g0:=bytS_get q0
          have q1:1<r.size:=by rw [r4];decide
          have g1:=bytS_get q1
          have q2:2<r.size:=by rw [r4];decide
          have g2:=bytS_get q2
          have q3:3<r.size:=by rw [r4];decide
          have g3:=bytS_get q3
          have y0:=bytS_lt r 0
          have y1:=bytS_lt r 1
          have y2:=bytS_lt r 2
          have y3:=bytS_lt r 3
          generalize bytS r 0=n0 at *
          generalize bytS r 1=n1 at *
          generalize bytS r 2=n2 at *
          generalize bytS r 3=n3 at *
          have HCB:=hide hcall
          have HLE:=hide hlt
          have e0:((j+1:Nat):Int)≤(cl.length:Int):=by omega
          have e1:(0:Int)<((j+1:Nat):Int):=by omega
          have e2:((j+1:Nat):Int) - 1=(j:Int):=by omega
          have e3:((j+1:Nat):Int)<(cl.length:Int):=by omega
          have e4:¬ ((j+1:Nat):Int)=0:=by omega
          have e5:((j:Nat):Int)<(cl.length:Int):=by omega
          have e6:(0:Int)≤((j:Nat):Int):=by omega
          clear hcall z4a z5a hc hbc hi' hrn hrn2 hnn z4b z5b he hbe
          clear hcell
          generalize hij:j+1=i at *
          have HIJ:=hide hij
          clear hij hlt hlt' hjc hi0
          go_wp2_with fail
          go_quiet (fail)
          have HXd:=hide (HX.out.below (drawnB wr nq))
          have HCA:=hide (HCB.out _ HXd.out.no)
          have cellq:(wr.drewN nq).cell? ⟨g,i,none⟩=some (.string e):=((drawnB wr nq).cell (p:=⟨g,i,none⟩) (Array.getElem?_eq_some_iff.1 HX.out.row).1).trans cellb
          clear cellb
          clear HX HCB c4 f4 hsame x1 x2 c6 cella
          generalize wr.drewN nq=wd at *
          obtain ⟨c0,c1,c2,c3,c4,c5,c6⟩:=HXd.out.no.shp.cells
          have f4:=c5 4
          have hsame:=HXd.out.no.shp.same
          have x1:=HXd.out.bx.c1
          have x2:=HXd.out.bx.c2
          clear c0 c1 c2 c3 c5
          go_wp2_with fail
          refine HCA.out.mono ?_
          rintro e w2 ⟨rfl,V',va',vb',vc',hn⟩
          have HX2:=hide (HXd.out.step hn)
          clear hn HCA HXd c4 f4 hsame x1 x2 c6
          obtain ⟨c0,c1,c2,c3,c4,c5,c6⟩:=HX2.out.no.shp.cells
          have f4:=c5 4
          have hsame:=HX2.out.no.shp.same
          have x1:=HX2.out.bx.c1
          have x2:=HX2.out.bx.c2
          clear c0 c1 c2 c3 c5
          go_wp2_with fail
          go_roundw
          case rel=>exact ⟨i+1,V',va',vb',vc',by have:=HIJ.out;have:=HLE.out;omega,by simp,by go_num,HX2⟩
          case measure=>simp [intOf];have:=HLE.out;omega
        · have hlt':j+1<kids.length:=hlt
          obtain ⟨c,hc⟩:∃ c,tx cl j=c:=⟨_,rfl⟩
          obtain ⟨bc,hbc⟩:∃ bc,bytS c 0=bc:=⟨_,rfl⟩
          obtain ⟨z1a,z2a,z3a,z4a,z5a⟩:=HK.out j (by omega) c hc.symm bc hbc
          have bka:=bytS_get z1a
          have bla:=bytS_lt c 0
          rw [hbc] at bka bla
          have cella:=hcell j (by omega)
          rw [hc] at cella
          have hcall:=fun (X:World) (hx:NoS w X sp B D Gp V Vi K pk m A fl pages (k+(nodS (kids.take (j+1))).length) va vb vc vci (lv ++ (lvsS (kids.take (j+1))).map (·.1)) (ln ++ (lvsS (kids.take (j+1))).map (·.2)) (ks ++ (entS (kids.take (j+1))).map (·.1)))=>HC.out (j+1) hlt X Vi va vb vci hx
          rw [nxt_end kids hi (j+1+1) (by omega),← z4a] at hcall
          obtain ⟨r,hr⟩:∃ r,c.extract (1+bc) c.size=r:=⟨_,rfl⟩
          have r4:r.size=4:=by rw [← hr,z5a];rfl
          have ho:=or4 (bytS r 0) (bytS r 1) (bytS r 2) (bytS r 3) (bytS_lt r 0) (bytS_lt r 1) (bytS_lt r 2) (bytS_lt r 3)
          have hrn:numB r 0=numT d kids[j+1].2:=by rw [← hr,z5a];exact num_four (HNB.out (j+1) hlt)
          have hrn2:((bytS r 0 * 256+bytS r 1) * 256+bytS r 2) * 256+bytS r 3=numT d kids[j+1].2:=by rw [← hrn];simp [numB,numK]
          rw [hrn2] at ho
          obtain ⟨nn,hnn⟩:∃ nn,numT d kids[j+1].2=nn:=⟨_,rfl⟩
          rw [hnn] at ho hcall
          have q0:0<r.size:=by rw [r4];decide
          have g0:=bytS_get q0
          have q1:1<r.size:=by rw [r4];decide
          have g1:=bytS_get q1
          have q2:2<r.size:=by rw [r4];decide
          have g2:=bytS_get q2
          have q3:3<r.size:=by rw [r4];decide
          have g3:=bytS_get q3
          have y0:=bytS_lt r 0
          have y1:=bytS_lt r 1
          have y2:=bytS_lt r 2
          have y3:=bytS_lt r 3
          generalize bytS r 0=n0 at *
          generalize bytS r 1=n1 at *
          generalize bytS r 2=n2 at *
          generalize bytS r 3=n3 at *
          have HCB:=hide hcall
          have HLE:=hide hlt
          have e0:((j+1:Nat):Int)≤(cl.length:Int):=by omega
          have e1:(0:Int)<((j+1:Nat):Int):=by omega
          have e2:((j+1:Nat):Int) - 1=(j:Int):=by omega
          have e3:¬ ((j+1:Nat):Int)<(cl.length:Int):=by omega
          have e4:¬ ((j+1:Nat):Int)=0:=by omega
          have e5:((j:Nat):Int)<(cl.length:Int):=by omega
          have e6:(0:Int)≤((j:Nat):Int):=by omega
          clear hcall z4a z5a hc hbc hi' hrn hrn2 hnn
          clear hcell
          generalize hij:j+1=i at *
          have HIJ:=hide hij
          clear hij hlt hlt' hjc hi0
          go_wp2_with fail
          go_quiet (fail)
          have HXd:=hide (HX.out.below (drawnB wr nq))
          have HCA:=hide (HCB.out _ HXd.out.no)
          clear HX HCB c4 f4 hsame x1 x2 c6 cella
          generalize wr.drewN nq=wd at *
          obtain ⟨c0,c1,c2,c3,c4,c5,c6⟩:=HXd.out.no.shp.cells
          have f4:=c5 4
          have hsame:=HXd.out.no.shp.same
          have x1:=HXd.out.bx.c1
          have x2:=HXd.out.bx.c2
          clear c0 c1 c2 c3 c5
          go_wp2_with fail
          refine HCA.out.mono ?_
          rintro e w2 ⟨rfl,V',va',vb',vc',hn⟩
          have HX2:=hide (HXd.out.step hn)
          clear hn HCA HXd c4 f4 hsame x1 x2 c6
          obtain ⟨c0,c1,c2,c3,c4,c5,c6⟩:=HX2.out.no.shp.cells
          have f4:=c5 4
          have hsame:=HX2.out.no.shp.same
          have x1:=HX2.out.bx.c1
          have x2:=HX2.out.bx.c2
          clear c0 c1 c2 c3 c5
          go_wp2_with fail
          go_roundw
          case rel=>exact ⟨i+1,V',va',vb',vc',by have:=HIJ.out;have:=HLE.out;omega,by simp,by go_num,HX2⟩
          case measure=>simp [intOf];have:=HLE.out;omega
    · have hie:i=kids.length:=by omega
      subst hie
      have e0:¬ (kids.length:Int)≤(cl.length:Int):=by omega
      have e1:¬ kids.length=0:=by omega
      rw [if_neg e1]
      have e2:d≤1000:=HD.out.1
      clear hcell e1
      go_wp2_with fail
      go_ret
      refine ⟨by first | rfl | go_num,Vi,va,vb,vci,?_⟩
      simpa only [List.take_length] using HX.out.no
end
end Go.Proofs.YtmgjdjjfeapcdaaGreat
