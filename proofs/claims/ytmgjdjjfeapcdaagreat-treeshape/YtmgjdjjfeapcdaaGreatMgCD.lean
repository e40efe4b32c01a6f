/- relstorekeep: free -/
import Derived.Test.YtmgjdjjfeapcdaaGreatMgAW
namespace Go.Proofs.YtmgjdjjfeapcdaaGreat
open Go.RowKit Go.Lib Go.Maps Go.Sort
attribute [local go_sem ↓] Go.wp_at_zero Go.wp_at_succ
theorem flc_at {A:Nat→PgV}:∀ {l:List Nat},flc A l→∀ j (h:j<l.length),A l[j]=⟨3,(l.drop (j+1)).headD 0,[]⟩
  | _ :: _,⟨h,_⟩,0,_=>h
  | _ :: _,⟨_,h⟩,j+1,k=>flc_at h j (Nat.lt_of_succ_lt_succ k)
def pgOf (sp:Nat) (X:World):Nat:=match X.cell? ⟨sp,0,none⟩ with | some v=>(intOf v).toNat | _=>0
section
variable {w w':World} {B D Gp:Nat} {V V':PV} {K:Pgs} {pk m:Nat} {A:Nat→PgV} {fl:List Nat} {pages sp k:Nat} {va vb vc:Value} {lv ln:List Nat} {ks:List ByteArray} {ok:Bool}
theorem Sp.pgOf (h:Sp w sp V k va vb vc lv ln ks ok):pgOf sp w=k:=by
  unfold Go.Proofs.YtmgjdjjfeapcdaaGreat.pgOf
  rw [h.cells.1]
  simp [intOf]
theorem Sp.new (w:World) (V:PV):Sp (w.alloc (.cells #[.int .i64 ((0:Nat):Int),(.slice none 0 0),(.slice none 0 0),(.slice none 0 0),.bool true] 64)) w.heap.size V 0 (.slice none 0 0) (.slice none 0 0) (.slice none 0 0) [] [] [] true:=by
  have e:∀ (t:TypeId) (X:World) (b:Nat),X.ownsRow b t 1 (.slice none 0 0) 0 []:=fun t X b=>⟨rfl,.inl ⟨rfl,rfl⟩⟩
  exact ⟨heap_alloc_new w _,e _ _ _,e _ _ _,e _ _ _,fun g hg=>(by cases hg),fun g hg=>(by cases hg),fun g hg=>(by cases hg)⟩
structure FrS (w X:World) (sp B D Gp:Nat) (V Vi:PV) (K:Pgs) (pk m:Nat) (A:Nat→PgV) (fl:List Nat) (pages j:Nat):Prop where
  ts:TS X B D Gp Vi K pk m A fl pages
  shp:Sp X sp Vi (j+1) (.slice none 0 0) (.slice none 0 0) (.slice none 0 0) [] [] [] true
  hf:HF sp B w X V Vi (.slice none 0 0) (.slice none 0 0)
theorem FrS.stored {X:World} {Vi:PV} {j:Nat} (h:FrS w X sp B D Gp V Vi K pk m A fl pages j) (hB:B≤sp) (o:Obj):FrS w ((X.setCell ⟨sp,4,none⟩ (.bool true)).alloc o) sp B D Gp V Vi K pk m A fl pages j:=by
  have t1:=h.ts.other (set_grown X sp 4 (.bool true)) ⟨_,h.shp.blk⟩ (by decide)
  have hb:Below (X.setCell ⟨sp,4,none⟩ (.bool true)).heap.size (X.setCell ⟨sp,4,none⟩ (.bool true)) ((X.setCell ⟨sp,4,none⟩ (.bool true)).alloc o):=((Below.refl _ _).alloc (Nat.le_refl _) _)
  obtain ⟨t2,s2⟩:=t1.below hb
  exact ⟨t2,t1.staySp s2 (h.shp.set4 true),(h.hf.trans (h.shp.hset hB 4 (.bool true))).trans (t1.hf s2 sp _)⟩
set_option maxRecDepth 20000 in
set_option maxHeartbeats 2000000 in
theorem cfreeS (h:TS w B D Gp V K pk m A fl pages) (hm:m≤50000) (hl:fl.length<pages) :
    Calls Tryz.prog 22 #[(.pointer (some ⟨Gp,0,none⟩))] w fun e w'=>e=.returned (.int .i64 (fl.length:Int))∧∃ V',TS w' B D Gp V' K pk m A fl pages∧St2 w w' B V V':=by
  have hb:Below w.heap.size w (w.alloc (.cells #[.int .i64 ((0:Nat):Int),(.slice none 0 0),(.slice none 0 0),(.slice none 0 0),.bool true] 64)):=((Below.refl _ _).alloc (Nat.le_refl _) _)
  obtain ⟨h1,s1⟩:=h.below hb
  have sp0:=Sp.new w V
  have HO:=hide (copenS h1 hm sp0 h.lo 0 (by omega) (by omega))
  have hz:=h.zero
  rw [hz] at HO
  have HS1:=hide s1
  have HLO:=hide h.lo
  have HF1:=hide (show (∀ j (k:j<fl.length),A fl[j]=⟨3,(fl.drop (j+1)).headD 0,[]⟩∧0<fl[j]∧fl[j]<pages)∧fl.length<pages∧pages≤59000 from ⟨fun j hj=>⟨flc_at h.fls j hj,h.flin _ (List.getElem_mem hj)⟩,hl,h.flsmall.2⟩)
  obtain ⟨n0,hn0⟩:∃ n0,fl.headD 0=n0:=⟨_,rfl⟩
  rw [hn0] at HO
  have HN0:=hide hn0
  clear h h1 s1 sp0 hz hn0 hb
  have hfd:∀ (x y z:Value) (W:World),Sem.run Tryz.prog (Instr.field 82 (.agg #[x,y,z]) 1) W=.ok y W:=fun _ _ _ _=>by rfl
  go_enter Tryz.func22,Tryz.ntmps22
  go_wp2_with fail
  refine HO.out.mono ?_
  rintro e w1 ⟨V1,v1,rfl,k1,k2,k3,k4⟩
  obtain ⟨va1,ca1,rfl,-⟩:=sta_own (L:=[]) k4
  have HR:Hid (FrS (w.alloc (.cells #[.int .i64 ((0:Nat):Int),(.slice none 0 0),(.slice none 0 0),(.slice none 0 0),.bool true] 64)) w1 w.heap.size B D Gp V V1 K pk m A fl pages 0):=⟨k1,k2,k3⟩
  clear k1 k2 k3 k4 HO
  go_wp2_with fail
  go_loopw [4] (fun x4 X=>∃ (j:Nat) (Vi:PV),x4=.int .i64 ((fl.drop j).headD 0:Int)∧j≤fl.length∧Hid (FrS (w.alloc (.cells #[.int .i64 ((0:Nat):Int),(.slice none 0 0),(.slice none 0 0),(.slice none 0 0),.bool true] 64)) X w.heap.size B D Gp V Vi K pk m A fl pages j)) (fun _ X=>fl.length+1 - pgOf w.heap.size X)
  case atStart=>exact ⟨0,V1,by rw [← HN0.out];rfl,Nat.zero_le _,HR⟩
  case round =>
    obtain ⟨j,Vi,rfl,hj,HJ⟩:=hrel
    obtain ⟨c0,c1,c2,c3,c4,c5,c6⟩:=HJ.out.shp.cells
    have f4:=c5 4
    obtain ⟨nx,hnx⟩:∃ nx,(fl.drop j).headD 0=nx:=⟨_,rfl⟩
    rw [hnx]
    by_cases hjc:j<fl.length
    · obtain ⟨a1,a2,a3⟩:=HF1.out.1 j hjc
      have hnx':fl[j]=nx:=by rw [← hnx,headD_drop hjc]
      rw [hnx'] at a1 a2 a3
      have hnz:¬ (nx:Int)=0:=by omega
      have HO:=hide (copenS HJ.out.ts hm HJ.out.shp HLO.out nx a3 (by have:=HF1.out.2;omega))
      rw [a1] at HO
      obtain ⟨nn,hnn⟩:∃ nn,(fl.drop (j+1)).headD 0=nn:=⟨_,rfl⟩
      rw [hnn] at HO
      have HX:=hide (show nn=(fl.drop (j+1)).headD 0∧j<fl.length from ⟨hnn.symm,hjc⟩)
      clear c0 c1 c2 c3 c5 a1 a2 a3 hnx hnx' hnn hj hjc
      go_wp2_with fail
      refine HO.out.mono ?_
      rintro e w3 ⟨V3,v3,rfl,k1,k2,k3,k4⟩
      obtain ⟨g0,g1,g2,g3,g4,g5,g6⟩:=k2.cells
      have f4:=g5 4
      have HR3:Hid (FrS (w.alloc (.cells #[.int .i64 ((0:Nat):Int),(.slice none 0 0),(.slice none 0 0),(.slice none 0 0),.bool true] 64)) w3 w.heap.size B D Gp V V3 K pk m A fl pages (j+1)):=⟨k1,k2,HJ.out.hf.trans k3⟩
      obtain ⟨va3,ca3,rfl,-⟩:=sta_own (L:=[]) k4
      clear k1 k2 k3 k4 g5 g0 g1 g2 g3 c4 c6 HO
      have HR4:=hide (HR3.out.stored HLO.out (.cells #[.int .i64 3,.int .i64 (nn:Int),.slice va3 0 ca3] 82))
      go_wp2
      exact ⟨⟨j+1,V3,by rw [HX.out.1],HX.out.2,HR4⟩,by rw [HR4.out.shp.pgOf,HJ.out.shp.pgOf];have:=HX.out.2;omega⟩
    · have hje:j=fl.length:=by omega
      have hd0:fl.drop j=[]:=by rw [hje];exact List.drop_length
      have hn0:nx=0:=by rw [← hnx,hd0];rfl
      rw [hn0]
      have HE:=hide (show TS wr B D Gp Vi K pk m A fl pages∧St2 w wr B V Vi from ⟨HJ.out.ts,HJ.out.hf.st w V HS1.out (Nat.le_refl _) HLO.out⟩)
      rw [hje] at c0
      replace c0:wr.cell? ⟨w.heap.size,0,none⟩=some (.int .i64 ((fl.length:Int)+1)):=c0
      have hw1:wrap64 (fl.length:Int)=(fl.length:Int):=by have:=HF1.out.2;unfold wrap64;omega
      clear hnx hd0 hn0 hje hjc hj c1 c2 c3 c5 f4 HJ
      go_wp2
      go_ret
      exact ⟨by simp [*],Vi,HE.out.1,HE.out.2⟩
end
end Go.Proofs.YtmgjdjjfeapcdaaGreat
namespace Go.Proofs.YtmgjdjjfeapcdaaGreat
open Go.RowKit Go.Lib Go.Maps Go.Sort
attribute [local go_sem ↓] Go.wp_at_zero Go.wp_at_succ
section
variable {w w':World} {B D Gp:Nat} {V V':PV} {K:Pgs} {pk m:Nat} {A:Nat→PgV} {fl:List Nat} {pages sp k:Nat} {va vb vc:Value} {lv ln:List Nat} {ks:List ByteArray}
set_option maxRecDepth 20000 in
set_option maxHeartbeats 2000000 in
theorem cmore1 (hp:Sp w sp V k va vb vc lv ln ks true) (r:ByteArray) (kz:Nat) (h0:0<r.size) (hb:bytS r 0=0) (hz:2+kz+r.size - 1≤240) :
    Calls Tryz.prog 56 #[(.pointer (some ⟨sp,0,none⟩)),(.pointer (some ⟨Gp,0,none⟩)),.int .i64 (kz:Int),.string r] w fun e w'=>e=.returned (.tuple #[])∧w'=w.setCell ⟨sp,4,none⟩ (.bool true):=by
  obtain ⟨c0,c1,c2,c3,c4,c5,c6⟩:=hp.cells
  have f4:=c5 4
  have g0:=bytS_get (show 0<r.size by omega)
  rw [hb] at g0
  have hne:(r.toList.isEmpty)=false:=by
    cases he:r.toList.isEmpty with
    | false=>rfl
    | true =>
      rw [List.isEmpty_iff,ByteArray.toList_eq] at he
      have h1:=congrArg List.length he
      rw [Array.length_toList] at h1
      have h0:r.size=r.data.size:=rfl
      rw [← h0,List.length_nil] at h1
      omega
  obtain ⟨rz,hrz⟩:∃ rz,r.size=rz:=⟨_,rfl⟩
  have hle:2+(kz:Int)+(rz:Int) - 1≤240:=by omega
  have HLE:=hide (decide_eq_true hle)
  clear hp c0 c1 c2 c3 c5 hb hle
  go_enter Tryz.func56,Tryz.ntmps56
  go_wp2
  rw [HLE.out]
  exact bodyPost_ret (results_none rfl _ _ _) rfl ⟨rfl,rfl⟩
theorem or_sh (a b n M:Nat) (hM:M=2 ^ n) (hb:b<M) (hb2:b<4611686018427387904) (ha:a * M<4611686018427387904):bits .or .i64 ((a * M:Nat):Int) (b:Int)=((a * M+b:Nat):Int):=by
  rw [bits_or_i64 _ _ ha hb2]
  congr 1
  subst hM
  rw [Nat.mul_comm,Nat.two_pow_add_eq_or_of_lt hb]
theorem or4 (a b c d:Nat) (ha:a<256) (hb:b<256) (hc:c<256) (hd:d<256):bits .or .i64 (bits .or .i64 (bits .or .i64 ((a:Int) * 16777216) ((b:Int) * 65536)) ((c:Int) * 256)) (d:Int)=((((a * 256+b) * 256+c) * 256+d:Nat):Int):=by
  have e1:((a:Int) * 16777216)=((a * 16777216:Nat):Int):=by omega
  have e2:((b:Int) * 65536)=((b * 65536:Nat):Int):=by omega
  have e3:((c:Int) * 256)=((c * 256:Nat):Int):=by omega
  rw [e1,e2,e3,or_sh _ _ 24 16777216 (by decide) (by omega) (by omega) (by omega)]
  have e4:a * 16777216+b * 65536=(a * 256+b) * 65536:=by omega
  rw [e4,or_sh _ _ 16 65536 (by decide) (by omega) (by omega) (by omega)]
  have e5:∀ x:Nat,x * 65536+c * 256=(x * 256+c) * 256:=fun x=>by rw [Nat.add_mul,Nat.mul_assoc]
  rw [e5 (a * 256+b),or_sh _ _ 8 256 (by decide) (by omega) (by omega) (by omega)]
structure MoS (w X:World) (sp B D Gp:Nat) (V Vi:PV) (K:Pgs) (pk m:Nat) (A:Nat→PgV) (fl:List Nat) (pages k j:Nat) (va vb vc:Value) (lv ln:List Nat) (ks:List ByteArray):Prop where
  ts:TS X B D Gp Vi K pk m A fl pages
  shp:Sp X sp Vi (k+j) va vb vc lv ln ks true
  hf:HF sp B w X V Vi vc vc
theorem MoS.set {X:World} {Vi:PV} {j:Nat} (h:MoS w X sp B D Gp V Vi K pk m A fl pages k j va vb vc lv ln ks) (hB:B≤sp):MoS w (X.setCell ⟨sp,4,none⟩ (.bool true)) sp B D Gp V Vi K pk m A fl pages k j va vb vc lv ln ks:=
  ⟨h.ts.other (set_grown X sp 4 (.bool true)) ⟨_,h.shp.blk⟩ (by decide),h.shp.set4 true,h.hf.trans (h.shp.hset hB 4 (.bool true))⟩
theorem MoS.stored {X:World} {Vi:PV} {j:Nat} (h:MoS w X sp B D Gp V Vi K pk m A fl pages k j va vb vc lv ln ks) (hB:B≤sp) (o:Obj):MoS w ((X.setCell ⟨sp,4,none⟩ (.bool true)).alloc o) sp B D Gp V Vi K pk m A fl pages k j va vb vc lv ln ks:=by
  have t1:=h.ts.other (set_grown X sp 4 (.bool true)) ⟨_,h.shp.blk⟩ (by decide)
  have hb:Below (X.setCell ⟨sp,4,none⟩ (.bool true)).heap.size (X.setCell ⟨sp,4,none⟩ (.bool true)) ((X.setCell ⟨sp,4,none⟩ (.bool true)).alloc o):=((Below.refl _ _).alloc (Nat.le_refl _) _)
  obtain ⟨t2,s2⟩:=t1.below hb
  exact ⟨t2,t1.staySp s2 (h.shp.set4 true),(h.hf.trans (h.shp.hset hB 4 (.bool true))).trans (t1.hf s2 sp _)⟩
theorem MoS.below {X X':World} {Vi:PV} {j:Nat} (h:MoS w X sp B D Gp V Vi K pk m A fl pages k j va vb vc lv ln ks) (hb:Below X.heap.size X X'):MoS w X' sp B D Gp V Vi K pk m A fl pages k j va vb vc lv ln ks:=by
  obtain ⟨t2,s2⟩:=h.ts.below hb
  exact ⟨t2,h.ts.staySp s2 h.shp,h.hf.trans (h.ts.hf s2 sp _)⟩
theorem long_rest {i:It} (h:okI i) (hp:¬ i.pgs=[]) (hs:∀ p ∈ i.pgs,p<60000):(restB (cellI i)).size=7∧bytS (restB (cellI i)) 0=1∧bytS (restB (cellI i)) 1 * 256+bytS (restB (cellI i)) 2=i.val.size∧((bytS (restB (cellI i)) 3 * 256+bytS (restB (cellI i)) 4) * 256+bytS (restB (cellI i)) 5) * 256+bytS (restB (cellI i)) 6=i.pgs.headD 0∧i.pgs.length=cutsN i.val∧0<i.val.size:=by
  obtain ⟨-,f4,f5,f6,f7,f8,f9⟩:=long_cell h hp hs
  refine ⟨f4,f5,f6,?_,f8,f9⟩
  rw [(cellI_key h).2.2.2] at f4 ⊢
  cases hq:i.pgs with
  | nil=>exact absurd hq hp
  | cons p r =>
    have hr:restI i=⟨#[1,(i.val.size / 256).toUInt8,i.val.size.toUInt8]⟩ ++ fourB p:=by unfold restI;rw [hq]
    have hn:=num_end ⟨#[1,(i.val.size / 256).toUInt8,i.val.size.toUInt8]⟩ (n:=p) (by have:=hs p (by rw [hq];simp);omega)
    rw [← hr,f4] at hn
    show _=p
    rw [← hn]
    show _=((((0 * 256+bytS (restI i) (7 - 4+0)) * 256+bytS (restI i) (7 - 4+1)) * 256+bytS (restI i) (7 - 4+2)) * 256+bytS (restI i) (7 - 4+3))
    rw [Nat.zero_mul,Nat.zero_add]
set_option maxRecDepth 20000 in
set_option maxHeartbeats 4000000 in
theorem cmore2 (h:TS w B D Gp V K pk m A fl pages) (hm:m≤50000) (hp:Sp w sp V k va vb vc lv ln ks true) (hB:B≤sp) (i:It) (hi:okI i) (hne:¬ i.pgs=[]) (hs:∀ p ∈ i.pgs,0<p∧p<pages) (hA:∀ q ∈ nodI i,A q.1=q.2) (hk:k+i.pgs.length≤pages) :
    Calls Tryz.prog 56 #[(.pointer (some ⟨sp,0,none⟩)),(.pointer (some ⟨Gp,0,none⟩)),.int .i64 (i.key.size:Int),.string (restB (cellI i))] w fun e w'=>e=.returned (.tuple #[])∧∃ V',MoS w w' sp B D Gp V V' K pk m A fl pages k i.pgs.length va vb vc lv ln ks:=by
  have hpg:=h.flsmall.2
  obtain ⟨r7,r0,rv,rp,rc,rz⟩:=long_rest hi hne (fun p hp=>by have:=hs p hp;omega)
  have HA:=hide (fun (j:Nat) (hj:j<i.pgs.length)=>nodI_at hA rc hj)
  have HS:=hide (show (∀ j (hj:j<i.pgs.length),0<i.pgs[j]∧i.pgs[j]<pages)∧k+i.pgs.length≤pages∧pages≤59000∧B≤sp∧i.pgs.length=cutsN i.val∧240<2+i.key.size+i.val.size∧i.key.size≤200 from ⟨fun j hj=>hs _ (List.getElem_mem hj),hk,hpg,hB,rc,by
    have:=hi.pgs
    by_cases q:2+i.key.size+i.val.size≤240
    · rw [if_pos q] at this
      exact absurd (List.eq_nil_of_length_eq_zero this) hne
    · omega,hi.key.2⟩)
  have HV:=hide hi.val
  have H0:Hid (MoS w w sp B D Gp V V K pk m A fl pages k 0 va vb vc lv ln ks):=⟨h,hp,HF.refl _ _ _ _ _⟩
  obtain ⟨r,hr⟩:∃ r,restB (cellI i)=r:=⟨_,rfl⟩
  rw [hr] at r7 r0 rv rp ⊢
  have b1:=bytS_lt r 1
  have b2:=bytS_lt r 2
  have g0:=bytS_get (show 0<r.size by omega)
  have g1:=bytS_get (show 1<r.size by omega)
  have g2:=bytS_get (show 2<r.size by omega)
  have g3:=bytS_get (show 3<r.size by omega)
  have g4:=bytS_get (show 4<r.size by omega)
  have g5:=bytS_get (show 5<r.size by omega)
  have g6:=bytS_get (show 6<r.size by omega)
  have b3:=bytS_lt r 3
  have b4:=bytS_lt r 4
  have b5:=bytS_lt r 5
  have b6:=bytS_lt r 6
  have ho:=or4 (bytS r 3) (bytS r 4) (bytS r 5) (bytS r 6) (bytS_lt r 3) (bytS_lt r 4) (bytS_lt r 5) (bytS_lt r 6)
  rw [rp] at ho
  have hj:=join_i64 (bytS r 1) (bytS r 2) b2 (by omega)
  rw [rv] at hj
  rw [r0] at g0
  have hn7:¬ r.size=0:=by omega
  have hem:(r.toList.isEmpty)=false:=by
    cases he:r.toList.isEmpty with
    | false=>rfl
    | true =>
      rw [List.isEmpty_iff,ByteArray.toList_eq] at he
      have h1:=congrArg List.length he
      rw [Array.length_toList] at h1
      have h0:r.size=r.data.size:=rfl
      rw [← h0,List.length_nil] at h1
      omega
  obtain ⟨p0,hp0⟩:∃ p0,i.pgs.headD 0=p0:=⟨_,rfl⟩
  rw [hp0] at ho
  have HP0:=hide hp0
  generalize bytS r 1=y1 at *
  generalize bytS r 2=y2 at *
  generalize bytS r 3=y3 at *
  generalize bytS r 4=y4 at *
  generalize bytS r 5=y5 at *
  generalize bytS r 6=y6 at *
  obtain ⟨z,hz⟩:∃ z,i.val.size=z:=⟨_,rfl⟩
  obtain ⟨kz,hkz⟩:∃ kz,i.key.size=kz:=⟨_,rfl⟩
  rw [hz] at hj
  rw [hkz]
  have HZ:=hide (And.intro hz hkz)
  clear h hp hB hi hne hs hA hk hpg r0 rv rp rc rz hr hp0 hz hkz hn7
  go_enter Tryz.func56,Tryz.ntmps56
  go_wp2_with fail
  go_quiet (fail)
  go_wp2_with fail
  try rw [ho]
  replace H0:Hid (MoS w (w.drewN nq) sp B D Gp V V K pk m A fl pages k 0 va vb vc lv ln ks):=H0.out.below (drawnB w nq)
  have hp0:p0=p0:=rfl
  clear b3 b4 b5 b6 g3 g4 g5 g6 ho
  go_loopw [8,9] (fun x8 x9 X=>∃ (j:Nat) (Vi:PV),x8=.int .i64 ((min (1008 * j) z:Nat):Int)∧x9=.int .i64 ((i.pgs.drop j).headD 0:Int)∧j≤i.pgs.length∧Hid (MoS w X sp B D Gp V Vi K pk m A fl pages k j va vb vc lv ln ks)) (fun _ _ X=>k+i.pgs.length - pgOf sp X)
  case atStart=>exact ⟨0,V,by simp,by rw [← HP0.out];rfl,Nat.zero_le _,H0⟩
  case round =>
    obtain ⟨j,Vi,rfl,rfl,hjl,HJ⟩:=hrel
    obtain ⟨c0,c1,c2,c3,c4,c5,c6⟩:=HJ.out.shp.cells
    have f4:=c5 4
    obtain ⟨nx,hnx⟩:∃ nx,(i.pgs.drop j).headD 0=nx:=⟨_,rfl⟩
    rw [hnx]
    by_cases hjc:j<i.pgs.length
    · obtain ⟨a2,a3⟩:=HS.out.1 j hjc
      have a1:=HA.out j hjc
      have hnx':i.pgs[j]=nx:=by rw [← hnx,headD_drop hjc]
      rw [hnx'] at a1 a2 a3
      have hnz:¬ (nx:Int)=0:=by omega
      have HO:=hide (copenS HJ.out.ts hm HJ.out.shp HS.out.2.2.2.1 nx a3 (by have:=HS.out.2;omega))
      rw [a1] at HO
      obtain ⟨nn,hnn⟩:∃ nn,(i.pgs.drop (j+1)).headD 0=nn:=⟨_,rfl⟩
      obtain ⟨pc,hpc⟩:∃ pc,i.val.extract (1008 * j) (min (1008 * j+1008) i.val.size)=pc:=⟨_,rfl⟩
      have hpz:min (1008 * j) z+pc.size=min (1008 * (j+1)) z:=by rw [← hpc,ByteArray.size_extract,HZ.out.1];omega
      have hcut:i.pgs.length=(z+1007) / 1008:=by rw [HS.out.2.2.2.2.1];unfold cutsN;rw [HZ.out.1]
      rw [hnn,hpc] at HO
      have HX:=hide (show nn=(i.pgs.drop (j+1)).headD 0∧j<i.pgs.length∧min (1008 * j) z+pc.size=min (1008 * (j+1)) z from ⟨hnn.symm,hjc,hpz⟩)
      obtain ⟨lb,hlb⟩:∃ lb,min (1008 * j) z=lb:=⟨_,rfl⟩
      rw [hlb] at HX ⊢
      have hlbz:lb≤100000∧pc.size≤1008:=by
        have:=HV.out
        rw [HZ.out.1] at this
        have e1:pc.size≤1008:=by rw [← hpc,ByteArray.size_extract];omega
        omega
      obtain ⟨hlb1,hlb2⟩:=hlbz
      clear c0 c1 c2 c3 c5 a1 a2 a3 hnx hnx' hnn hjl hjc hpz hpc hlb hcut
      go_wp2_with fail
      refine HO.out.mono ?_
      rintro e w3 ⟨V3,v3,rfl,k1,k2,k3,k4⟩
      obtain ⟨g0',g1',g2',g3',g4,g5,g6⟩:=k2.cells
      have f4:=g5 4
      have HR3:Hid (MoS w w3 sp B D Gp V V3 K pk m A fl pages k (j+1) va vb vc lv ln ks):=⟨k1,k2,HJ.out.hf.trans k3⟩
      obtain ⟨g,cap,cur,rfl,hbg,hg,hc1,hc2,hc3,-,hc5⟩:=own_cur (l:=[pc]) (n:=1) k4 (by decide)
      have hcell:w3.cell? ⟨g,0,none⟩=some (.string pc):=by
        have:=hc5 0 (by decide)
        simp only [World.cell?,hg]
        simpa using this
      have hglt:g<w3.heap.size:=(Array.getElem?_eq_some_iff.1 hg).1
      have HR4:=hide (HR3.out.stored HS.out.2.2.2.1 (.cells #[.int .i64 5,.int .i64 (nn:Int),.slice (some ⟨g,0,none⟩) 1 cap] 82))
      have hgs:¬ g=sp:=by have:=HJ.out.shp.cells.2.2.2.2.2.2;omega
      clear k1 k2 k3 k4 g5 g0' g1' g2' g3' c4 c6 HO hg hc5 hc1 hc2 hc3 hbg
      go_wp2_with fail
      have hcell4:((w3.setCell ⟨sp,4,none⟩ (.bool true)).alloc (.cells #[.int .i64 5,.int .i64 (nn:Int),.slice (some ⟨g,0,none⟩) 1 cap] 82)).cell? ⟨g,0,none⟩=some (.string pc):=by
        have e1:((w3.setCell ⟨sp,4,none⟩ (.bool true)).alloc (.cells #[.int .i64 5,.int .i64 (nn:Int),.slice (some ⟨g,0,none⟩) 1 cap] 82)).heap[g]? = w3.heap[g]?:=(heap_alloc_old _ _ (by simp;exact hglt)).trans (Below.heap_setCell _ _ _ _ (by show ¬ g=sp;exact hgs))
        exact (World.cell?_of_block (a:=⟨g,0,none⟩) e1).trans hcell
      clear hcell g4 g6 f4 hgs hglt
      generalize (w3.setCell ⟨sp,4,none⟩ (.bool true)).alloc (.cells #[.int .i64 5,.int .i64 (nn:Int),.slice (some ⟨g,0,none⟩) 1 cap] 82)=W4 at *
      go_loopw [8,103] (fun x8 x103 X=>∃ t:Nat,t≤1∧x103=.int .i64 (t:Int)∧x8=.int .i64 ((lb+t * pc.size:Nat):Int)∧X=W4) (fun _ x103 _=>1 - (intOf x103).toNat)
      case atStart=>exact ⟨0,by omega,rfl,by simp,rfl⟩
      case round =>
        obtain ⟨t,ht,rfl,rfl,rfl⟩:=hrel
        match t,ht with
        | 0, _ =>
          rw [Nat.zero_mul,Nat.add_zero]
          go_wp2_with fail
          go_roundw
          case rel=>exact ⟨1,by omega,by go_num,by simp,trivial⟩
          case measure=>simp [intOf]
        | 1, _ =>
          rw [Nat.one_mul]
          go_wp2
          exact ⟨⟨j+1,V3,by rw [HX.out.2.2],by rw [HX.out.1],HX.out.2.1,HR4⟩,by rw [HR4.out.shp.pgOf,HJ.out.shp.pgOf];have:=HX.out.2.1;omega⟩
    · have hje:j=i.pgs.length:=by omega
      have hd0:i.pgs.drop j=[]:=by rw [hje];exact List.drop_length
      have hn0:nx=0:=by rw [← hnx,hd0];rfl
      rw [hn0]
      have hcut:i.pgs.length=(z+1007) / 1008:=by rw [HS.out.2.2.2.2.1];unfold cutsN;rw [HZ.out.1]
      have hmz:min (1008 * j) z=z:=by omega
      rw [hmz]
      rw [hje] at HJ
      have hgt:¬ 2+(kz:Int)+(z:Int)≤240:=by have:=HS.out.2.2.2.2.2.1;rw [HZ.out.1,HZ.out.2] at this;omega
      have hkb:(kz:Int)≤200:=by have:=HS.out.2.2.2.2.2.2;rw [HZ.out.2] at this;omega
      have hzb:(z:Int)≤3000:=by have:=HV.out;rw [HZ.out.1] at this;omega
      clear hnx hd0 hn0 hje hjc hjl c0 c1 c2 c3 c5 hmz hcut
      go_wp2_with fail
      have HE:=hide ((HJ.out.set HS.out.2.2.2.1).below (X':=(wr.setCell ⟨sp,4,none⟩ (.bool true)).drew) ((Below.refl _ _).drew))
      go_region
      go_end0
      exact ⟨rfl,Vi,HE.out⟩
end
end Go.Proofs.YtmgjdjjfeapcdaaGreat
