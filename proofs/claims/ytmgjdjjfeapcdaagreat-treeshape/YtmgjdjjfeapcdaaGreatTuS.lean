/- relstorekeep.TreeShape -/
import Derived.Test.YtmgjdjjfeapcdaaGreatMgAX
import Derived.Test.YtmgjdjjfeapcdaaGreatMgHJ
import Derived.Test.YtmgjdjjfeapcdaaGreatMgAD
import Derived.Test.YtmgjdjjfeapcdaaGreatMgCD
import Derived.Test.YtmgjdjjfeapcdaaGreatTuR
import Derived.Deep.CutBlock
namespace Go.Proofs.YtmgjdjjfeapcdaaGreat
open Go.RowKit Go.Lib Go.Maps Go.Sort
attribute [local go_sem ↓] Go.wp_at_zero Go.wp_at_succ
structure ActQ where
  k:Int
  f:Int
  a:Int
  n:Int
  s:ByteArray
  t:ByteArray
def actQ (x:ActQ):List Value:=[.int .i64 x.k,.int .i64 x.f,.int .i64 x.a,.int .i64 x.n,.string x.s,.string x.t]
def okQ (x:ActQ):Prop:=(-9223372036854775808≤x.k∧x.k≤9223372036854775807)∧(-9223372036854775808≤x.n∧x.n≤9223372036854775807)∧x.s.size≤140737488355328∧x.t.size≤140737488355328
def liesQ (X:World) (sa:Option Addr) (sl:Nat) (A:Nat→ActQ):Prop:=sl=0∨∃ b off,sa=some ⟨b,off,none⟩∧b<X.heap.size∧∀ i,i<sl→okQ (A i)∧∀ j,j<6→X.cell? ⟨b,off+(i * 6+j),none⟩=(actQ (A i))[j]?
theorem pk_in (c:Int) {n:Int} (hn:0<n):0≤pk c n∧pk c n<n:=⟨Int.emod_nonneg _ (by omega),Int.emod_lt_of_pos _ hn⟩
theorem made_zero (W:World) (F:Nat) (hF:F≤67108864):(Instr.makeSlice 59 (.int .i64 (F:Int)) (.int .i64 (F:Int))).run Tryz.prog W=.ok (.slice (some ⟨W.heap.size,0,none⟩) F F) (W.alloc (.cells (madeCells (Value.int IntKind.u8 0).cells F) 5))∧(convert 59 9 (.slice (some ⟨W.heap.size,0,none⟩) F F)).run Tryz.prog (W.alloc (.cells (madeCells (Value.int IntKind.u8 0).cells F) 5))=.ok (.string ⟨(List.replicate F 0).toArray⟩) (W.alloc (.cells (madeCells (Value.int IntKind.u8 0).cells F) 5)):=by
  obtain ⟨i0,hi,hz0,hz1,hz2⟩:=info_parts infoB
  have hm:=run_make (P:=Tryz.prog) W 59 5 i0 (.int .u8 0) Tryz.underlying59 hi hz0 .i64 .i64 (F:Int) (F:Int) (by omega) (by omega) (by rw [hz2];omega) (by omega)
  rw [hz1] at hm
  simp only [Int.toNat_natCast,Nat.mul_one] at hm
  refine ⟨hm,?_⟩
  have:=run_convert_bytes_back (P:=Tryz.prog) (W.alloc (.cells (madeCells (Value.int IntKind.u8 0).cells F) 5)) 59 9 5 ⟨W.heap.size,0,none⟩ F (List.replicate F 0) Tryz.underlying59 Tryz.underlying5 Tryz.underlying9 (fun j hj=>by
    have hj':j<F:=by simpa using hj
    rw [Addr.add_lit,Nat.zero_add]
    simp only [World.cell?,World.alloc_heap_new]
    have e:(madeCells (Value.int IntKind.u8 0).cells F).toList=List.replicate F (.int .u8 0):=toList_madeCells_one _ _
    rw [← Array.getElem?_toList,e,List.getElem?_replicate,if_pos hj']
    simp)
  rw [List.length_replicate] at this
  exact this
/- behind the walk over the tree -/
structure FnS (w0 Y:World) (D Gp tb mb rt sp:Nat) (V:PV) (m:Nat) (A:Nat→PgV) (fl:List Nat) (pages d:Nat) (t:T d) (es:List Ent) (i:Nat) (va vb vc:Value):Prop where
  ts:TS Y w0.heap.size D Gp V K00 1 m A fl pages
  shp:Sp Y sp V (nodT d t).length va vb vc ((lvsT d t).map (·.1)) ((lvsT d t).map (·.2)) (es.map (·.1)) true
  tb:TB Y tb Gp rt
  mp:MT Y mb i (es.map (·.1))
  far:¬ mb ∈ V.b.M
  bel:Below w0.heap.size w0 Y
theorem FnS.stay {w0 Y Z:World} {D Gp tb mb rt sp m pages d i:Nat} {V V':PV} {A:Nat→PgV} {fl:List Nat} {t:T d} {es:List Ent} {va vb vc:Value} (h:FnS w0 Y D Gp tb mb rt sp V m A fl pages d t es i va vb vc) (ht:TS Z w0.heap.size D Gp V' K00 1 m A fl pages) (hs:St2 Y Z w0.heap.size V V'):FnS w0 Z D Gp tb mb rt sp V' m A fl pages d t es i va vb vc:=by
  obtain ⟨m2,f2⟩:=h.mp.stay h.far hs
  exact ⟨ht,h.ts.staySp hs h.shp,h.ts.stayTB hs h.tb,m2,f2,h.bel.trans hs.bel.toBelow⟩
theorem own_curI {w:World} {lo n:Nat} {a:Option Addr} {c:Nat} {l:List Nat} (h:w.ownsRow lo 3 1 (.slice a n c) n (intsN l)) (h0:0<n):∃ g,a=some ⟨g,0,none⟩∧∀ j (hj:j<l.length),w.cell? ⟨g,j,none⟩=some (.int .i64 (l[j]:Int)):=by
  have hl:l.length=n:=by have:=h.1;simpa [intsN] using this
  rcases h.2 with ⟨_,e⟩ | ⟨g,cap,cur,e,hb,hg,h1,h2,h3,h4⟩
  · omega
  · injection e with e1 e2 e3
    subst e1
    refine ⟨g,rfl,fun j hj=>?_⟩
    have hj':j<n:=by omega
    have e1:(cur.toList.take (n * 1))[j]? = (intsN l)[j]?:=by rw [h4]
    rw [List.getElem?_take,if_pos (by omega)] at e1
    simp only [World.cell?,hg]
    rw [← Array.getElem?_toList,e1]
    simp [intsN,hj]
theorem ts_newM {w:World} {B D Gp:Nat} {V:PV} {K:Pgs} {pk m:Nat} {A:Nat→PgV} {fl:List Nat} {pages c:Nat} (h:TS w B D Gp V K pk m A fl pages) (hc:w.heap.size≤c):¬ c ∈ V.b.M:=by
  obtain ⟨C,h1,-⟩:=h.po
  have p:=h1.pp
  have a:=p.log.mp.lt
  have b:=p.log.mf.lt
  have e:=p.fmap.lt
  have f:=p.chm.lt
  intro hm
  simp only [Bk.M,List.mem_cons,Option.mem_toList] at hm
  rcases hm with q | q | q | q | q
  · omega
  · omega
  · omega
  · omega
  · have:=(World.ownsRow.lt p.ord c q).2
    omega
set_option maxRecDepth 20000 in
set_option maxHeartbeats 8000000 in
theorem ltreeshape (sa:Option Addr) (sl sc:Nat) (A:Nat→ActQ) (X:World) (hl:liesQ X sa sl A) (hn:sl≤140737488355328) (hc:sl≤sc) (ha:sa=none→sl=0∧sc=0) :
    Calls Tryz.prog 4 #[.slice sa sl sc] X fun e w'=>e=.returned (.bool true)∧Below X.heap.size X w':=by
  have HL:Hid (liesQ X sa sl A):=hl
  have HA:Hid (sa=none→sl=0∧sc=0):=ha
  have hmm:=@run_makeMap Tryz.prog
  clear hl ha
  go_enter Tryz.func4,Tryz.ntmps4
  go_wp2_with fail
  refine (cnewD X).mono ?_
  rintro e w1 ⟨rfl,hP1,hb1⟩
  have HB1:=hide (hb1)
  have HO1:=hide (copen_first hP1 hb1.size)
  clear hP1 hb1
  go_wp2_with fail
  refine HO1.out.mono ?_
  rintro e w2 ⟨Gp,V,rfl,hp2,hnf2,hpg2,hfr2,hb2⟩
  have ts2:=ts_first hp2 hnf2 hpg2 hfr2
  have HB2:=hide (HB1.out.trans hb2)
  have HC:=hide (cCreate ts2 (by decide) (by decide) (Z:=[]) (List.Perm.refl _))
  clear hp2 hnf2 hpg2 hfr2 hb2 HO1 HB1 ts2
  go_wp2_with fail
  refine HC.out.mono ?_
  rintro e w3 ⟨rt,rfl,V3,A3,fl3,pages3,c1,c2,c3⟩
  have H3:=hide (show TS w3 X.heap.size X.heap.size Gp V3 K00 1 4 (updA A3 rt ⟨1,0,[]⟩) fl3 pages3∧Tr (updA A3 rt ⟨1,0,[]⟩) fl3 pages3 [] (d:=0) (⟨rt,0,[]⟩:Lf) []∧pages3≤2∧Below X.heap.size X w3 from ⟨c1,tr_new (c3.perm [] (List.Perm.refl _)) (updA_at _ _ _),c3.pgs.2,HB2.out.trans c2.bel.toBelow⟩)
  clear c1 c2 c3 HC HB2
  go_wp2_with fail
  refine (cOpenT Gp rt w3).mono ?_
  rintro e w4 ⟨rfl,k1,k2⟩
  have H5:Hid (LwE X (w4.alloc (.map #[] 0)) X.heap.size Gp w3.heap.size w4.heap.size rt 0):=by
    obtain ⟨t1,t2,t3,t4⟩:=H3.out
    have hb:Below w3.heap.size w3 (w4.alloc (.map #[] 0)):=k2.trans ((Below.refl _ _).alloc (by have:=k2.size;exact this) _)
    obtain ⟨t5,t6⟩:=t1.below hb
    refine ⟨V3,4,_,fl3,pages3,0,(⟨rt,0,[]⟩:Lf),[],t5,t2,rfl,?_,MT.made w4,?_,Nat.le_refl _,by omega,by omega,t4.trans (hb.mono t4.size),?_⟩
    · have k1':w4.heap[w3.heap.size]? = _:=k1
      exact (heap_alloc_old w4 _ (Array.getElem?_eq_some_iff.1 k1').1).trans k1'
    · exact ts_newM t1 k2.size
    · exact Nat.le_trans t4.size k2.size
  clear H3 k1 k2
  generalize w3.heap.size=tb at *
  go_wp2_with fail
  refine (kshort sa sl sc _ hn hc HA.out).mono ?_
  rintro e w5 ⟨rfl,rfl⟩
  obtain ⟨W,hW⟩:∃ W,w4.alloc (.map #[] 0)=W:=⟨_,rfl⟩
  rw [hW] at H5 ⊢
  clear hW
  generalize w4.heap.size=mb at *
  clear HA
  go_upto_block 0 with fail
  go_cut [] (fun wx=>∃ i:Nat,i≤250∧Hid (LwE X wx X.heap.size Gp tb mb rt i))
  case first =>
    go_wp2_with fail
    go_loopw [48] (fun x48 Y=>∃ i:Nat,i≤min sl 250∧x48=.int .i64 (i:Int)∧Hid (LwE X Y X.heap.size Gp tb mb rt i)) (fun x48 _=>min sl 250 - (intOf x48).toNat)
    case atStart=>exact ⟨0,Nat.zero_le _,rfl,H5⟩
    case round =>
      clear H5
      obtain ⟨i,hi,rfl,HE⟩:=hrel
      by_cases hlt:i<min sl 250
      · have hsl:i<sl:=by omega
        have hi2:i<250:=by omega
        rcases HL.out with h0 | ⟨b,off,rfl,hbX,hE⟩
        · omega
        have ki:(0:Int)≤(i:Int):=by omega
        have kn:(i:Int)<((min sl 250:Nat):Int):=by omega
        obtain ⟨V,m,At,fl,pages,d,t,es,hE0⟩:=HE.out
        have hbel:=hE0.bel
        have zb:=hbel.size
        have hbw:b<wr.heap.size:=by omega
        have g:∀ j,j<6→wr.cell? ⟨b,off+(i * 6+j),none⟩=(actQ (A i))[j]?:=fun j hj=>(hbel.cell (p:=⟨b,off+(i * 6+j),none⟩) hbX).trans ((hE i hsl).2 j hj)
        have d0:wr.cell? ⟨b,off+i * 6,none⟩=some (.int .i64 (A i).k):=g 0 (by decide)
        have d1:wr.cell? ⟨b,off+i * 6+1,none⟩=some (.int .i64 (A i).f):=g 1 (by decide)
        have d2:wr.cell? ⟨b,off+i * 6+2,none⟩=some (.int .i64 (A i).a):=g 2 (by decide)
        have d3:wr.cell? ⟨b,off+i * 6+3,none⟩=some (.int .i64 (A i).n):=g 3 (by decide)
        have d4:wr.cell? ⟨b,off+i * 6+4,none⟩=some (.string (A i).s):=g 4 (by decide)
        have d5:wr.cell? ⟨b,off+i * 6+5,none⟩=some (.string (A i).t):=g 5 (by decide)
        have OK:Hid (okQ (A i)):=(hE i hsl).1
        have HT:=hide hE0
        clear g hE HL hE0 hbel HE zb
        generalize hAi:A i=ai at *
        clear hAi
        have HT1:=hide (HT.out.below (show Below wr.heap.size wr (wr.alloc (.cells #[.int .i64 ai.k,.int .i64 ai.f,.int .i64 ai.a,.int .i64 ai.n,.string ai.s,.string ai.t] 57)) from ((Below.refl _ _).alloc (Nat.le_refl _) _)))
        have HAB:=hide (heap_alloc_new wr (.cells #[.int .i64 ai.k,.int .i64 ai.f,.int .i64 ai.a,.int .i64 ai.n,.string ai.s,.string ai.t] 57))
        obtain ⟨⟨ok1,ok2⟩,⟨ok3,ok4⟩,ok5,ok6⟩:=OK.out
        have hlen:(ai.s ++ (⟨#[107]⟩:ByteArray)).size=ai.s.size+1:=by rw [ByteArray.size_append];rfl
        have HLN:=hide hlen
        clear hlen HT
        go_upto_if 57 with fail
        obtain ⟨Wa,hWa⟩:∃ Wa,wr.alloc (.cells #[.int .i64 ai.k,.int .i64 ai.f,.int .i64 ai.a,.int .i64 ai.n,.string ai.s,.string ai.t] 57)=Wa:=⟨_,rfl⟩
        rw [hWa] at HT1 HAB ⊢
        clear hWa d0 d1 d2 d3 d4 d5 hbw
        go_cut [11] (fun x11 wx=>∃ key:ByteArray,x11=.string key∧okK key∧wx=Wa)
        case first =>
          by_cases hlong:200<ai.s.size+1
          · have hl1:(200:Int)<(ai.s.size:Int)+1:=by omega
            go_wp2_with fail
            go_meet
            case rel =>
              refine ⟨_,rfl,?_,rfl⟩
              unfold okK
              rw [ByteArray.size_extract,HLN.out]
              omega
          · have hl1:¬ (200:Int)<(ai.s.size:Int)+1:=by omega
            go_wp2_with fail
            go_meet
            case rel =>
              refine ⟨_,rfl,?_,rfl⟩
              unfold okK
              rw [HLN.out]
              omega
        obtain ⟨key,rfl,hkey,rfl⟩:=hcut
        have HKEY:=hide hkey
        clear hkey HLN
        have HTI:=hide HT1.out
        obtain ⟨ab,hab⟩:∃ ab,wr.heap.size=ab:=⟨_,rfl⟩
        rw [hab] at HAB ⊢
        have q0:wc.cell? ⟨ab,0,none⟩=some (.int .i64 ai.k):=by simp [World.cell?,HAB.out]
        have q3:wc.cell? ⟨ab,3,none⟩=some (.int .i64 ai.n):=by simp [World.cell?,HAB.out]
        have q5:wc.cell? ⟨ab,5,none⟩=some (.string ai.t):=by simp [World.cell?,HAB.out]
        have qab:ab<wc.heap.size:=(Array.getElem?_eq_some_iff.1 HAB.out).1
        have HABM:Hid (¬ ab=mb):=fun e=>by
          obtain ⟨es0,ck,hm⟩:=HT1.out.mp.isMap
          have:=HAB.out
          rw [e,hm] at this
          cases this
        clear hab
        go_wp2_with fail
        refine (cpickq ai.k 3 _ ⟨ok1,ok2⟩ (by decide) (by decide)).mono ?_
        rintro e wp ⟨rfl,rfl⟩
        by_cases hp2:pk ai.k 3<2
        · obtain ⟨F,hF⟩:∃ F:Nat,pk ai.n 2900=(F:Int):=⟨(pk ai.n 2900).toNat,by have:=pk_in ai.n (n:=2900) (by decide);omega⟩
          have hFl:F<2900:=by have:=pk_in ai.n (n:=2900) (by decide);omega
          have HPK:=hide (fun (Y:World)=>(show Calls Tryz.prog 18 #[.int .i64 ai.n,.int .i64 2900] Y (fun e w'=>e=.returned (.int .i64 (F:Int))∧w'=Y) from hF ▸ cpickq ai.n 2900 Y ⟨ok3,ok4⟩ (by decide) (by decide)))
          obtain ⟨hm1,hm2⟩:=made_zero wp.drew F (by omega)
          replace hm2:(convert 59 9 (.slice (some ⟨wp.heap.size,0,none⟩) F F)).run Tryz.prog (wp.alloc (.cells (madeCells (Value.int IntKind.u8 0).cells F) 5)).drew=.ok (.string ⟨(List.replicate F 0).toArray⟩) (wp.alloc (.cells (madeCells (Value.int IntKind.u8 0).cells F) 5)).drew:=hm2
          replace hm1:(Instr.makeSlice 59 (.int .i64 (F:Int)) (.int .i64 (F:Int))).run Tryz.prog wp.drew=.ok (.slice (some ⟨wp.heap.size,0,none⟩) F F) (wp.drew.alloc (.cells (madeCells (Value.int IntKind.u8 0).cells F) 5)):=hm1
          have hzt:(⟨(List.replicate F 0).toArray⟩:ByteArray).size=F:=by show (List.replicate F (0:UInt8)).toArray.size=F;simp
          generalize (⟨(List.replicate F 0).toArray⟩:ByteArray)=zt at *
          generalize madeCells (Value.int IntKind.u8 0).cells F=zs at *
          have hvz:(ai.t ++ zt).size=ai.t.size+F:=by rw [ByteArray.size_append,hzt]
          have HVZ:=hide hvz
          have HZT:=hide hzt
          have hsum:zt.size≤2900:=by omega
          clear hvz hF hzt
          by_cases hfit:ai.t.size+F≤3000
          · have HPU:=hide (fun (Y:World) (hb:Below wp.heap.size wp Y)=>kPut (HT1.out.below hb) hi2 key (ai.t ++ zt) HKEY.out (show (ai.t ++ zt).size≤3000 by rw [HVZ.out];omega))
            go_upto_region 19 with fail
            go_cut [5] (fun x5 wx=>x5=.int .i64 0∧∃ Z,(Instr.mapUpdate 54 (.map (some mb)) (.string key) (.int .i64 1)).run Tryz.prog wx=.ok () Z∧Hid (LwE X Z X.heap.size Gp tb mb rt (i+1)))
            case first =>
              go_region_with (first | (go_at_call 18;refine (HPK.out _).mono ?_;rintro e w2 ⟨rfl,rfl⟩) | (go_at_call 19;refine (HPU.out _ (((Below.refl _ _).alloc (Nat.le_refl _) _)).drew).mono ?_;rintro e w3 ⟨rfl,Z,hz1,hz2⟩))
              all_goals
                go_wp2_with fail
                go_meet
                case rel=>exact ⟨rfl,Z,hz1,hz2⟩
            obtain ⟨rfl,Z,hz1,HZ2⟩:=hcut
            clear HT1 HTI HPU HPK hm1 hm2 q0 q3 q5 qab
            go_wp2_with fail
            refine ⟨⟨i+1,by omega,by go_num,HZ2⟩,?_⟩
            simp [intOf]
            omega
          · have HPU:=hide (fun (Y:World) (hb:Below wp.heap.size wp Y)=>kPutL (HT1.out.below hb) hi2 key (ai.t ++ zt) HKEY.out (show 3000<(ai.t ++ zt).size by rw [HVZ.out];omega) (by rw [HVZ.out];omega))
            have hlg:(100:Int)<(ai.t.size:Int):=by omega
            go_upto_region 19 with fail
            go_cut [5] (fun x5 wx=>x5=.int .i64 8∧wx.cell? ⟨ab,5,none⟩=some (.string ai.t)∧∃ Z,(Instr.mapUpdate 54 (.map (some mb)) (.string key) (.int .i64 1)).run Tryz.prog wx=.ok () Z∧Z.cell? ⟨ab,5,none⟩=some (.string ai.t)∧Hid (Below X.heap.size X Z))
            case first =>
              go_region_with (first | (go_at_call 18;refine (HPK.out _).mono ?_;rintro e w2 ⟨rfl,rfl⟩) | (go_at_call 19;refine (HPU.out _ (((Below.refl _ _).alloc (Nat.le_refl _) _)).drew).mono ?_;rintro e w3 ⟨rfl,hb3,Z,hz1,hz3,hz2⟩))
              all_goals
                go_wp2_with fail
                go_meet
                case rel =>
                  have q5':w3.cell? ⟨ab,5,none⟩=some (.string ai.t):=(hb3.cell (p:=⟨ab,5,none⟩) (by simp;omega)).trans (((((Below.refl _ _).alloc (Nat.le_refl _) _)).drew.cell (p:=⟨ab,5,none⟩) qab).trans q5)
                  exact ⟨rfl,q5',Z,hz1,(World.cell?_of_block (a:=⟨ab,5,none⟩) (hz3 ab (by have:=hb3.size;simp at this;omega) HABM.out)).trans q5',hz2⟩
            obtain ⟨rfl,q5',Z,hz1,q5z,HZ2⟩:=hcut
            clear HT1 HTI HPU HPK hm1 hm2 q0 q3 q5 qab
            go_wp2_with fail
            go_ret
            exact ⟨rfl,HZ2.out⟩
        · have hd:=hide (kDel HT1.out hi2 key HKEY.out)
          clear q0 q3 q5 qab
          go_wp2_with fail
          refine hd.out.mono ?_
          rintro e w2 ⟨is,rfl,hz⟩
          obtain ⟨Z,hz1,hz2⟩:=hz 0
          have HZ2:=hide hz2
          clear hz hz2 hd HT1 HTI
          go_wp2_with fail
          refine ⟨⟨i+1,by omega,by go_num,HZ2⟩,?_⟩
          simp [intOf]
          omega
      · go_wp2_with fail
        go_meet
        case rel=>exact ⟨i,by omega,HE⟩
  clear H5 HL
  obtain ⟨n,hn250,HE⟩:=hcut
  obtain ⟨V,m,At,fl,pages,d,t,es,hE⟩:=HE.out
  have F:=hE.tr.facts
  have hlen:=hE.len
  have hmm2:=hE.mm
  have hpp2:=hE.pp
  have hd7:=F.dep (by omega)
  have hbW:Below wc.heap.size wc (wc.alloc (.cells #[.int .i64 ((0:Nat):Int),(.slice none 0 0),(.slice none 0 0),(.slice none 0 0),.bool true] 64)):=((Below.refl _ _).alloc (Nat.le_refl _) _)
  have hcnt:=F.cnt
  have hlv:=lvs_len d t
  have hN:Calls Tryz.prog 21 #[(.pointer (some ⟨wc.heap.size,0,none⟩)),(.pointer (some ⟨Gp,0,none⟩)),.int .i64 (rt:Int),.string ⟨#[]⟩,.string ⟨#[]⟩,.bool true] (wc.alloc (.cells #[.int .i64 ((0:Nat):Int),(.slice none 0 0),(.slice none 0 0),(.slice none 0 0),.bool true] 64)) (nodP (wc.alloc (.cells #[.int .i64 ((0:Nat):Int),(.slice none 0 0),(.slice none 0 0),(.slice none 0 0),.bool true] 64)) wc.heap.size X.heap.size X.heap.size Gp V K00 1 m At fl pages 0 (.slice none 0 0) [] [] [] (d+1) (nodT d t).length (lvsT d t) (entT d t)):=by
    rw [← hE.root]
    exact nod_root (hE.below hbW).ts (by omega) (Sp.new wc V) hE.bel.size hE.tr (by omega) (by omega) ⟨by simp;omega,by simp;omega,by simp;rw [F.ent];omega⟩
  have HN:=hide hN
  have HR:=hide (fun (w2:World) (V':PV) (va' vb' vc':Value) (hn:NoS (wc.alloc (.cells #[.int .i64 ((0:Nat):Int),(.slice none 0 0),(.slice none 0 0),(.slice none 0 0),.bool true] 64)) w2 wc.heap.size X.heap.size X.heap.size Gp V V' K00 1 m At fl pages (0+(nodT d t).length) va' vb' (.slice none 0 0) vc' ([] ++ (lvsT d t).map (·.1)) ([] ++ (lvsT d t).map (·.2)) ([] ++ (entT d t).map (·.1)))=>(show FnS X w2 X.heap.size Gp tb mb rt wc.heap.size V' m At fl pages d t es n va' vb' vc' from by
    have s2:St2 wc w2 X.heap.size V V':=hn.hf.st wc V (hE.ts.below hbW).2 (Nat.le_refl _) hE.ts.lo
    obtain ⟨m2,f2⟩:=hE.mp.stay hE.far s2
    have hs:=hn.shp
    rw [Nat.zero_add,List.nil_append,List.nil_append,List.nil_append,F.ent] at hs
    exact ⟨hn.ts,hs,hE.ts.stayTB s2 hE.tb,m2,f2,hE.bel.trans s2.bel.toBelow⟩))
  have HF:=hide F
  have HTR:=hide (And.intro hE.tr hE.root)
  have HNUM:=hide (show m≤20000∧m+2 * (numsT d t).length≤38000∧es.length≤250∧(lvsT d t).length≤100000∧pages≤10000 from ⟨by omega,by unfold numsT;rw [List.length_map];omega,by omega,by omega,by omega⟩)
  clear hE F hlen hmm2 hpp2 hcnt hlv hN HE hd7 hbW
  go_wp2_with fail
  refine HN.out.mono ?_
  rintro e w2 ⟨rfl,V',va',vb',vc',hn⟩
  have HS:=hide (HR.out w2 V' va' vb' vc' hn)
  generalize wc.heap.size=sp at *
  clear hn HN HR
  have hra:=HS.out.shp.ra
  have hrb:=HS.out.shp.rb
  have hrc:=HS.out.shp.rc
  rw [List.length_map] at hra hrb hrc
  obtain ⟨L,hL⟩:∃ L,(lvsT d t).length=L:=⟨_,rfl⟩
  rw [hL] at hra hrb
  obtain ⟨a1,c1,rfl⟩:=own_form hra
  obtain ⟨a2,c2,rfl⟩:=own_form hrb
  obtain ⟨a3,c3,rfl⟩:=own_form hrc
  obtain ⟨e0,e1,e2,e3,e4,e5,e6⟩:=HS.out.shp.cells
  have HRA:=hide (And.intro hra (And.intro hrb (And.intro hrc hL)))
  have hLs:L≤100000:=by have:=HNUM.out.2.2.2.1;omega
  clear hra hrb hrc hL e5
  go_upto_block 2 with fail
  go_cut [] (fun wx=>wx=w2)
  case first =>
    go_wp2_with fail
    go_loopw [107] (fun x107 Y=>∃ j:Nat,j≤L∧x107=.int .i64 (j:Int)∧Y=w2) (fun x107 _=>L - (intOf x107).toNat)
    case atStart=>exact ⟨0,Nat.zero_le _,rfl,rfl⟩
    case round =>
      obtain ⟨j,hj,rfl,rfl⟩:=hrel
      by_cases hlt:j<L
      · obtain ⟨hra,hrb,-,hL⟩:=HRA.out
        obtain ⟨g1,rfl,k1⟩:=own_curI hra (by omega)
        obtain ⟨g2,rfl,k2⟩:=own_curI hrb (by omega)
        have h1:=lk_at HF.out.lks j (by omega)
        have l2:=k2 j (by rw [List.length_map];omega)
        have i0:(0:Int)≤(j:Int):=by omega
        have i2:(j:Int)<(L:Int):=by omega
        by_cases hl1:j+1<L
        · have l1:=k1 (j+1) (by rw [List.length_map];omega)
          have e:((lvsT d t).map (·.2))[j]'(by rw [List.length_map];omega)=((lvsT d t).map (·.1))[j+1]'(by rw [List.length_map];omega):=by
            rw [List.getElem_map,List.getElem_map]
            exact h1.1 (by omega)
          rw [e] at l2
          obtain ⟨v,hv⟩:∃ v,((lvsT d t).map (·.1))[j+1]'(by rw [List.length_map];omega)=v:=⟨_,rfl⟩
          rw [hv] at l1 l2
          have i1:(j:Int)+1<(L:Int):=by omega
          have i3:(0:Int)≤(j:Int)+1:=by omega
          have i4:((j:Int)+1).toNat=j+1:=by omega
          clear e hv k1 k2 h1 hra hrb hL hj
          go_wp2_with fail
          refine ⟨⟨j+1,by omega,by go_num,by first | rfl | trivial⟩,?_⟩
          simp [intOf]
          omega
        · have e:((lvsT d t).map (·.2))[j]'(by rw [List.length_map];omega)=0:=by
            rw [List.getElem_map]
            exact h1.2 (by omega)
          rw [e] at l2
          replace l2:wr.cell? ⟨g2,j,none⟩=some (.int .i64 0):=l2
          have i1:¬ (j:Int)+1<(L:Int):=by omega
          have i3:(j:Int)+1=(L:Int):=by omega
          clear e k1 k2 h1 hra hrb hL hj
          go_wp2_with fail
          refine ⟨⟨j+1,by omega,by go_num,by first | rfl | trivial⟩,?_⟩
          simp [intOf]
          omega
      · have i2:¬ (j:Int)<(L:Int):=by omega
        go_wp2_with fail
        go_meet
        case rel=>rfl
  subst hcut
  clear e0 e1 e2 e3 e4 e6 hLs
  obtain ⟨Kn,hKn⟩:∃ Kn,es.length=Kn:=⟨_,rfl⟩
  rw [hKn] at HRA HS
  have hKb:Kn≤250:=by have:=HNUM.out.2.2.1;omega
  have HKN:=hide hKn
  clear hKn
  have d3:=HS.out.shp.cells.2.2.2.1
  go_upto_block 4 with fail
  go_cut [] (fun wx=>Hid (FnS X wx X.heap.size Gp tb mb rt sp V' m At fl pages d t es n (.slice a1 L c1) (.slice a2 L c2) (.slice a3 Kn c3)))
  case first =>
    go_wp2_with fail
    go_loopw [152] (fun x152 Y=>∃ j:Nat,j≤Kn∧x152=.int .i64 (j:Int)∧Hid (FnS X Y X.heap.size Gp tb mb rt sp V' m At fl pages d t es n (.slice a1 L c1) (.slice a2 L c2) (.slice a3 Kn c3))) (fun x152 _=>Kn - (intOf x152).toNat)
    case atStart=>exact ⟨0,Nat.zero_le _,rfl,HS⟩
    case round =>
      clear HS HRA d3
      obtain ⟨j,hj,rfl,HY⟩:=hrel
      have d3:=HY.out.shp.cells.2.2.2.1
      have d6:=HY.out.shp.cells.2.2.2.2.2.2
      by_cases hlt:j<Kn
      · have hrc:=HY.out.shp.rc
        rw [List.length_map,HKN.out] at hrc
        obtain ⟨g3,cap,cur,hva,hbg,hg,hc1,hc2,hc3,-,hc5⟩:=own_cur hrc (by omega)
        injection hva with hva _ hca
        subst hva hca
        have hcell:∀ i (hi:i<Kn),wr.cell? ⟨g3,i,none⟩=some (.string ((es.map (·.1))[i]'(by rw [List.length_map,HKN.out];exact hi))):=fun i hi=>by
          have:=hc5 i hi
          simp only [World.cell?,hg]
          rw [this,List.getElem?_eq_getElem (by rw [List.length_map,HKN.out];exact hi)]
          rfl
        have k1:=hcell j hlt
        obtain ⟨kj,hkj⟩:∃ kj,(es.map (·.1))[j]'(by rw [List.length_map,HKN.out];exact hlt)=kj:=⟨_,rfl⟩
        rw [hkj] at k1
        have hin:kj ∈ es.map (·.1):=by rw [← hkj];exact List.getElem_mem _
        have hks:kj.size≤maxLen:=by
          obtain ⟨q,hq,rfl⟩:=List.mem_map.1 hin
          have:=(HF.out.key q hq).2
          unfold maxLen
          omega
        have hlook:=HY.out.mp.look kj hks hin
        have i0:(0:Int)≤(j:Int):=by omega
        have i2:(j:Int)<(Kn:Int):=by omega
        have HYd:=hide (HY.out.stay (HY.out.ts.below (show Below wr.heap.size wr wr.drew from (Below.refl _ _).drew)).1 (HY.out.ts.below (show Below wr.heap.size wr wr.drew from (Below.refl _ _).drew)).2)
        have hlk2:=HYd.out.mp.look kj hks hin
        have d3':=HYd.out.shp.cells.2.2.2.1
        have k1':wr.drew.cell? ⟨g3,j,none⟩=some (.string kj):=k1
        by_cases hj0:j=0
        · subst hj0
          have hlk3:(Instr.lookup 54 (.map (some mb)) (.string kj) false).run Tryz.prog wr.drew=.ok (.int .i64 1) wr.drew:=hlk2
          clear hcell hc5 hg hbg hc1 hc2 hc3 hkj hin hks hrc hj hlook
          go_upto_region 39 with fail
          go_cut [186] (fun x186 wx=>x186=.bool false∧wx=wr.drew)
          case first =>
            go_region
            go_wp2_with fail
            go_meet
            case rel=>exact ⟨rfl,rfl⟩
          obtain ⟨rfl,rfl⟩:=hcut
          go_wp2_with fail
          refine ⟨⟨0+1,by omega,by go_num,HYd⟩,?_⟩
          simp [intOf]
          omega
        · obtain ⟨jp,hjp⟩:∃ jp,j=jp+1:=⟨j - 1,by omega⟩
          have k2:=hcell jp (by omega)
          obtain ⟨kp,hkp⟩:∃ kp,(es.map (·.1))[jp]'(by rw [List.length_map,HKN.out];omega)=kp:=⟨_,rfl⟩
          rw [hkp] at k2
          have k2':wr.drew.cell? ⟨g3,jp,none⟩=some (.string kp):=k2
          have hsrt:klt kp kj=true:=by
            rw [← hkp,← hkj]
            exact List.pairwise_iff_getElem.1 HF.out.srt jp j _ _ (by omega)
          have b1:Op.bytesLess kp.toList kj.toList=true:=hsrt
          have b2:Op.bytesLess kj.toList kp.toList=false:=klt_asy hsrt
          have b3:(kj.toList == kp.toList)=false:=beq_ne hsrt
          have hlk3:(Instr.lookup 54 (.map (some mb)) (.string kj) false).run Tryz.prog wr.drew=.ok (.int .i64 1) wr.drew:=hlk2
          have i1:(0:Int)<(j:Int):=by omega
          have i3:(j:Int) - 1=(jp:Int):=by omega
          have cb:decide ((0:Int)<(j:Int))=true:=decide_eq_true i1
          have i4:(0:Int)≤(jp:Int):=by omega
          have i5:(jp:Int)<(Kn:Int):=by omega
          clear hcell hc5 hg hbg hc1 hc2 hc3 hkj hin hks hrc hlook hsrt hkp hjp
          go_upto_region 39 with fail
          go_cut [186] (fun x186 wx=>x186=.bool false∧wx=wr.drew)
          case first =>
            refine r39 sp g3 j jp Kn c3 mb kj kp (fun w=>w=wr.drew) rfl (by rintro _ rfl;exact d3') (by rintro _ rfl;exact k1') (by rintro _ rfl;exact k2') (by rintro _ rfl;exact hlk3) i0 i1 i2 i3 i4 i5 (by omega) b2 b3 (by simp) rfl rfl rfl rfl (by kernel_rfl) (by kernel_rfl) (by kernel_rfl) (by kernel_rfl) (by kernel_rfl) (by kernel_rfl) (by kernel_rfl) (by kernel_rfl) (by kernel_rfl) (by kernel_rfl) (by kernel_rfl) (by kernel_rfl) (by kernel_rfl) (by kernel_rfl) (by kernel_rfl) (by kernel_rfl) (by kernel_rfl) (by kernel_rfl) (by kernel_rfl) (by kernel_rfl) (by kernel_rfl) (by kernel_rfl) (by kernel_rfl) (by kernel_rfl) (by kernel_rfl) (by kernel_rfl) (by kernel_rfl) (by kernel_rfl) (by kernel_rfl) (by kernel_rfl) (by kernel_rfl) ?_
            intro u155 u156 u157 u158 u159 u160 u161 u162 u163 u164 u165 u166 u167 u168 u169 u170 u171 u172 u173 u174 u175 u176 u177 u178 u179 u180 u181 u182 u183 u184 u185 X9 hX9
            subst hX9
            simp only [sets,List.setIfInBounds_toArray,List.set_cons_zero,List.set_cons_succ]
            go_wp2_with fail
            go_meet
            case rel=>exact ⟨rfl,rfl⟩
          obtain ⟨rfl,rfl⟩:=hcut
          go_wp2_with fail
          refine ⟨⟨j+1,by omega,by go_num,HYd⟩,?_⟩
          simp [intOf]
          omega
      · have i2:¬ (j:Int)<(Kn:Int):=by omega
        go_wp2_with fail
        go_meet
        case rel=>exact HY
  have HSS:=hide (show (∃ V2,FnS X wc.drew X.heap.size Gp tb mb rt sp V2 m At fl pages d t es n (.slice a1 L c1) (.slice a2 L c2) (.slice a3 Kn c3)) from ⟨V',hcut.out.stay (hcut.out.ts.below (show Below wc.heap.size wc wc.drew from (Below.refl _ _).drew)).1 (hcut.out.ts.below (show Below wc.heap.size wc wc.drew from (Below.refl _ _).drew)).2⟩)
  have hnd:=sort_nodup HF.out.srt
  have HND:=hide hnd
  clear hcut hnd HRA HS d3
  go_upto_region 42 with fail
  go_cut [215] (fun x215 wx=>x215=.bool false∧Hid (∃ V2,FnS X wx X.heap.size Gp tb mb rt sp V2 m At fl pages d t es n (.slice a1 L c1) (.slice a2 L c2) (.slice a3 Kn c3)))
  case first =>
    refine r42 sp Gp Kn c3 mb (nodT d t).length fl.length pages a3 (fun w=>∃ V2,FnS X w X.heap.size Gp tb mb rt sp V2 m At fl pages d t es n (.slice a1 L c1) (.slice a2 L c2) (.slice a3 Kn c3)) HSS.out (by rintro w ⟨V2,h⟩;exact h.shp.cells.2.2.2.2.1) (by rintro w ⟨V2,h⟩;exact h.shp.cells.2.2.2.1) (by rintro w ⟨V2,h⟩;exact h.shp.cells.1) (by rintro w ⟨V2,h⟩ ty;have:=h.mp.len HND.out ty;rw [List.length_map,HKN.out] at this;exact this) ?hfr ?hpg ?hs1 ?hb1 ?hb2 (by simp) rfl rfl rfl rfl (by kernel_rfl) (by kernel_rfl) (by kernel_rfl) (by kernel_rfl) (by kernel_rfl) (by kernel_rfl) (by kernel_rfl) (by kernel_rfl) (by kernel_rfl) (by kernel_rfl) (by kernel_rfl) (by kernel_rfl) (by kernel_rfl) (by kernel_rfl) (by kernel_rfl) (by kernel_rfl) (by kernel_rfl) (by kernel_rfl) (by kernel_rfl) (by kernel_rfl) (by kernel_rfl) (by kernel_rfl) (by kernel_rfl) (by kernel_rfl) (by kernel_rfl) (by kernel_rfl) (by kernel_rfl) (by kernel_rfl) (by kernel_rfl) ?_
    case hfr =>
      rintro w ⟨V2,h⟩
      refine (cfreeS h.ts (by have:=HNUM.out.1;omega) (by have:=HF.out.cnt;omega)).mono ?_
      rintro e w9 ⟨rfl,V9,s1,s2⟩
      exact ⟨rfl,V9,h.stay s1 s2⟩
    case hpg =>
      rintro w ⟨V2,h⟩
      refine (cpagesT h.ts).mono ?_
      rintro e w9 ⟨rfl,rfl⟩
      exact ⟨rfl,V2,h⟩
    case hs1=>have:=HF.out.cnt;omega
    case hb1=>have:=HF.out.cnt;have:=HNUM.out.2.2.2.2;omega
    case hb2=>have:=HF.out.cnt;have:=HNUM.out.2.2.2.2;omega
    intro u188 u189 u190 u191 u192 u193 u194 u195 u196 u197 u198 u199 u200 u201 u202 u203 u204 u205 u206 u207 u208 u209 u210 u211 u212 u213 u214 X9 hX9
    have HX9:=hide hX9
    clear hX9
    simp only [sets,List.setIfInBounds_toArray,List.set_cons_zero,List.set_cons_succ]
    go_wp2_with fail
    go_meet
    case rel=>exact ⟨rfl,HX9⟩
  obtain ⟨rfl,HD⟩:=hcut
  obtain ⟨V2,hD⟩:=HD.out
  have HDr:=hide (cDrop hD.ts HNUM.out.2.1 HTR.out.1 (HTR.out.2.symm ▸ hD.tb))
  have HBD:=hide hD.bel
  clear hD HD HSS
  go_wp2_with fail
  refine HDr.out.mono ?_
  rintro e w5 ⟨rfl,V5,A5,fl5,q1,q2,q3,q4⟩
  have hl5:1+fl5.length=pages:=by
    have:=q3.length_eq
    rw [List.length_cons,List.length_append,List.length_range,List.length_nil] at this
    omega
  have HF5:=hide (cfreeS q1 (by have:=HNUM.out.2.1;omega) (by omega))
  have HB5:=hide (HBD.out.trans q2.bel.toBelow)
  have hpi:(fl5.length:Int)+1=(pages:Int):=by omega
  have hpl:fl5.length≤100000:=by have:=HNUM.out.2.2.2.2;omega
  have HPI:=hide hpi
  clear q1 q2 q3 q4 HDr HBD hl5 hpi
  go_wp2_with fail
  refine HF5.out.mono ?_
  rintro e w6 ⟨rfl,V6,s1,s2⟩
  have HP6:=hide (cpagesT s1)
  have HB6:=hide (HB5.out.trans s2.bel.toBelow)
  have hpi:=HPI.out
  clear s1 s2 HF5 HB5
  go_wp2_with fail
  refine HP6.out.mono ?_
  rintro e w7 ⟨rfl,rfl⟩
  go_wp2_with fail
  go_ret
  exact ⟨by first | rfl | simp,HB6.out⟩
end Go.Proofs.YtmgjdjjfeapcdaaGreat
