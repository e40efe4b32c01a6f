/- relstorekeep: free -/
import Derived.Test.YtmgjdjjfeapcdaaGreatMgAW
namespace Go.Proofs.YtmgjdjjfeapcdaaGreat
open Go.RowKit Go.Lib Go.Maps Go.Sort
attribute [local go_sem ↓] Go.wp_at_zero Go.wp_at_succ
theorem flc_at {A:Nat→PgV}:∀ {l:List Nat},flc A l→∀ j (h:j<l.length),A l[j]=⟨3,(l.drop (j+1)).headD 0,[]⟩
  | _ :: _,⟨h,_⟩,0,_=>h
  | _ :: _,⟨_,h⟩,j+1,k=>flc_at h j (Nat.lt_of_succ_lt_succ k)
def pgOf (sp:Nat) (X:World):Nat:=match X.cell? ⟨sp,0,none⟩ with | some v=>(intOf v).toNat | _=>0
section
variable {w w':World} {B D Gp:Nat} {V V':PV} {K:Pgs} {pk m:Nat} {A:Nat→PgV} {fl:List Nat} {pages sp k:Nat} {va vb vc:Value} {lv ln:List Nat} {ks:List ByteArray} {ok:Bool}
theorem Sp.pgOf (h:Sp w sp V k va vb vc lv ln ks ok):pgOf sp w=k:=by
  unfold Go.Proofs.YtmgjdjjfeapcdaaGreat.pgOf
  rw [h.cells.1]
  simp [intOf]
theorem Sp.new (w:World) (V:PV):Sp (w.alloc (.cells #[.int .i64 ((0:Nat):Int),(.slice none 0 0),(.slice none 0 0),(.slice none 0 0),.bool true] 64)) w.heap.size V 0 (.slice none 0 0) (.slice none 0 0) (.slice none 0 0) [] [] [] true:=by
  have e:∀ (t:TypeId) (X:World) (b:Nat),X.ownsRow b t 1 (.slice none 0 0) 0 []:=fun t X b=>⟨rfl,.inl ⟨rfl,rfl⟩⟩
  exact ⟨heap_alloc_new w _,e _ _ _,e _ _ _,e _ _ _,fun g hg=>(by cases hg),fun g hg=>(by cases hg),fun g hg=>(by cases hg)⟩
structure FrS (w X:World) (sp B D Gp:Nat) (V Vi:PV) (K:Pgs) (pk m:Nat) (A:Nat→PgV) (fl:List Nat) (pages j:Nat):Prop where
  ts:TS X B D Gp Vi K pk m A fl pages
  shp:Sp X sp Vi (j+1) (.slice none 0 0) (.slice none 0 0) (.slice none 0 0) [] [] [] true
  hf:HF sp B w X V Vi (.slice none 0 0) (.slice none 0 0)
theorem FrS.stored {X:World} {Vi:PV} {j:Nat} (h:FrS w X sp B D Gp V Vi K pk m A fl pages j) (hB:B≤sp) (o:Obj):FrS w ((X.setCell ⟨sp,4,none⟩ (.bool true)).alloc o) sp B D Gp V Vi K pk m A fl pages j:=by
  have t1:=h.ts.other (set_grown X sp 4 (.bool true)) ⟨_,h.shp.blk⟩ (by decide)
  have hb:Below (X.setCell ⟨sp,4,none⟩ (.bool true)).heap.size (X.setCell ⟨sp,4,none⟩ (.bool true)) ((X.setCell ⟨sp,4,none⟩ (.bool true)).alloc o):=((Below.refl _ _).alloc (Nat.le_refl _) _)
  obtain ⟨t2,s2⟩:=t1.below hb
  exact ⟨t2,t1.staySp s2 (h.shp.set4 true),(h.hf.trans (h.shp.hset hB 4 (.bool true))).trans (t1.hf s2 sp _)⟩
set_option maxRecDepth 20000 in
set_option maxHeartbeats 2000000 in
theorem cfreeS (h:TS w B D Gp V K pk m A fl pages) (hm:m≤50000) (hl:fl.length<pages) :
    Calls Tryz.prog 22 #[(.pointer (some ⟨Gp,0,none⟩))] w fun e w'=>e=.returned (.int .i64 (fl.length:Int))∧∃ V',TS w' B D Gp V' K pk m A fl pages∧St2 w w' B V V':=by
  have hb:Below w.heap.size w (w.alloc (.cells #[.int .i64 ((0:Nat):Int),(.slice none 0 0),(.slice none 0 0),(.slice none 0 0),.bool true] 64)):=((Below.refl _ _).alloc (Nat.le_refl _) _)
  obtain ⟨h1,s1⟩:=h.below hb
  have sp0:=Sp.new w V
  have HO:=hide (copenS h1 hm sp0 h.lo 0 (by omega) (by omega))
  have hz:=h.zero
  rw [hz] at HO
  have HS1:=hide s1
  have HLO:=hide h.lo
  have HF1:=hide (show (∀ j (k:j<fl.length),A fl[j]=⟨3,(fl.drop (j+1)).headD 0,[]⟩∧0<fl[j]∧fl[j]<pages)∧fl.length<pages∧pages≤59000 from ⟨fun j hj=>⟨flc_at h.fls j hj,h.flin _ (List.getElem_mem hj)⟩,hl,h.flsmall.2⟩)
  obtain ⟨n0,hn0⟩:∃ n0,fl.headD 0=n0:=⟨_,rfl⟩
  rw [hn0] at HO
  have HN0:=hide hn0
  clear h h1 s1 sp0 hz hn0 hb
  have hfd:∀ (x y z:Value) (W:World),Sem.run Tryz.prog (Instr.field 82 (.agg #[x,y,z]) 1) W=.ok y W:=fun _ _ _ _=>by rfl
  go_enter Tryz.func22,Tryz.ntmps22
  go_wp2_with fail
  refine HO.out.mono ?_
  rintro e w1 ⟨V1,v1,rfl,k1,k2,k3,k4⟩
  obtain ⟨va1,ca1,rfl,-⟩:=sta_own (L:=[]) k4
  have HR:Hid (FrS (w.alloc (.cells #[.int .i64 ((0:Nat):Int),(.slice none 0 0),(.slice none 0 0),(.slice none 0 0),.bool true] 64)) w1 w.heap.size B D Gp V V1 K pk m A fl pages 0):=⟨k1,k2,k3⟩
  clear k1 k2 k3 k4 HO
  go_wp2_with fail
  go_loopw [4] (fun x4 X=>∃ (j:Nat) (Vi:PV),x4=.int .i64 ((fl.drop j).headD 0:Int)∧j≤fl.length∧Hid (FrS (w.alloc (.cells #[.int .i64 ((0:Nat):Int),(.slice none 0 0),(.slice none 0 0),(.slice none 0 0),.bool true] 64)) X w.heap.size B D Gp V Vi K pk m A fl pages j)) (fun _ X=>fl.length+1 - pgOf w.heap.size X)
  case atStart=>exact ⟨0,V1,by rw [← HN0.out];rfl,Nat.zero_le _,HR⟩
  case round =>
    obtain ⟨j,Vi,rfl,hj,HJ⟩:=hrel
    obtain ⟨c0,c1,c2,c3,c4,c5,c6⟩:=HJ.out.shp.cells
    have f4:=c5 4
    obtain ⟨nx,hnx⟩:∃ nx,(fl.drop j).headD 0=nx:=⟨_,rfl⟩
    rw [hnx]
    by_cases hjc:j<fl.length
    · obtain ⟨a1,a2,a3⟩:=HF1.out.1 j hjc
      have hnx':fl[j]=nx:=by rw [← hnx,headD_drop hjc]
      rw [hnx'] at a1 a2 a3
      have hnz:¬ (nx:Int)=0:=by omega
      have HO:=hide (copenS HJ.out.ts hm HJ.out.shp HLO.out nx a3 (by have:=HF1.out.2;omega))
      rw [a1] at HO
      obtain ⟨nn,hnn⟩:∃ nn,(fl.drop (j+1)).headD 0=nn:=⟨_,rfl⟩
      rw [hnn] at HO
      have HX:=hide (show nn=(fl.drop (j+1)).headD 0∧j<fl.length from ⟨hnn.symm,hjc⟩)
      clear c0 c1 c2 c3 c5 a1 a2 a3 hnx hnx' hnn hj hjc
      go_wp2_with fail
      refine HO.out.mono ?_
      rintro e w3 ⟨V3,v3,rfl,k1,k2,k3,k4⟩
      obtain ⟨g0,g1,g2,g3,g4,g5,g6⟩:=k2.cells
      have f4:=g5 4
      have HR3:Hid (FrS (w.alloc (.cells #[.int .i64 ((0:Nat):Int),(.slice none 0 0),(.slice none 0 0),(.slice none 0 0),.bool true] 64)) w3 w.heap.size B D Gp V V3 K pk m A fl pages (j+1)):=⟨k1,k2,HJ.out.hf.trans k3⟩
      obtain ⟨va3,ca3,rfl,-⟩:=sta_own (L:=[]) k4
      clear k1 k2 k3 k4 g5 g0 g1 g2 g3 c4 c6 HO
      have HR4:=hide (HR3.out.stored HLO.out (.cells #[.int .i64 3,.int .i64 (nn:Int),.slice va3 0 ca3] 82))
      go_wp2
      exact ⟨⟨j+1,V3,by rw [HX.out.1],HX.out.2,HR4⟩,by rw [HR4.out.shp.pgOf,HJ.out.shp.pgOf];have:=HX.out.2;omega⟩
    · have hje:j=fl.length:=by omega
      have hd0:fl.drop j=[]:=by rw [hje];exact List.drop_length
      have hn0:nx=0:=by rw [← hnx,hd0];rfl
      rw [hn0]
      have HE:=hide (show TS wr B D Gp Vi K pk m A fl pages∧St2 w wr B V Vi from ⟨HJ.out.ts,HJ.out.hf.st w V HS1.out (Nat.le_refl _) HLO.out⟩)
      rw [hje] at c0
      replace c0:wr.cell? ⟨w.heap.size,0,none⟩=some (.int .i64 ((fl.length:Int)+1)):=c0
      have hw1:wrap64 (fl.length:Int)=(fl.length:Int):=by have:=HF1.out.2;unfold wrap64;omega
      clear hnx hd0 hn0 hje hjc hj c1 c2 c3 c5 f4 HJ
      go_wp2
      go_ret
      exact ⟨by simp [*],Vi,HE.out.1,HE.out.2⟩
end
end Go.Proofs.YtmgjdjjfeapcdaaGreat
