/- a part -/
import Derived.Test.YtiaibgfhigdgdaaGreatS8
import Derived.Test.YtiaibgfhigdgdaaGreatS6
import Derived.Lib.SlKept
import Derived.Lib.SliceRun
import Derived.Lib.SlicesCompact
set_option maxRecDepth 100000
set_option maxHeartbeats 8000000
namespace Go.Proofs.YtiaibgfhigdgdaaGreat
open Go.RowKit Go.Lib Go.Maps Go.Sort
variable {l:List Int}{i B D Gp m Lk c kd fr nx G bp bf bF bC most free j d num:Nat}{w1 w2 w w' X Y W:World}{r q:Option Nat}{o:Obj}{V V':PV}{C K F:Pgs}{cs:Array Value}{t:TypeId}{a b k lo hi ka kb:ByteArray}{L:LS}{S:DS}{α:Type}
attribute [local go_sem ↓] Go.wp_at_zero Go.wp_at_succ
theorem erase_perm {x:Int}(hi:i<l.length)(h:l[i]?=some x):(l.eraseIdx i++[x]).Perm l:=by
 have hx:l[i]=x:=by rw[List.getElem?_eq_getElem hi] at h;injection h
 have h1:l=l.take i++x::l.drop (i+1):=by rw[←hx,←List.drop_eq_getElem_cons,List.take_append_drop]
 rw[List.eraseIdx_eq_take_drop_succ];refine List.Perm.trans ?_ (List.Perm.of_eq h1.symm);rw[List.append_assoc];exact List.Perm.append_left _ List.perm_append_comm
theorem infoIntP:(Tryz.prog.info? 3).map (fun i=>(i.zero,i.size,i.bytes))=some (some (.int .i64 0),1,8):=by kernel_rfl
theorem use_grown {w3:World}(h:w1.grownBy w2 r)(e:q=r)(hg:(w2.alloc o).grownBy w3 q):w1.grownBy w3 r:=by
 rw[e] at hg;exact But.trans (grown_alloc h o) hg
theorem use_len {ol:Nat}{n:Int}(hi:i<l.length)(h:ol+1=l.length):(l.eraseIdx i++[n]).length=ol+1:=by
 rw[List.length_append,List.length_eraseIdx,if_pos hi];simp;omega
theorem use_own {v:Option Nat}(h:w1.grownBy w2 r)(e:q=r)(hv:v=q∨v=some (w2.alloc o).heap.size):v=r∨∃k,v=some k∧w1.heap.size≤k:=by
 rcases hv with h1|h1
 ·left;rw[h1,e]
 ·right;exact⟨_,h1,by have:=h.size;simp;omega⟩
theorem cuse_hit {pk:Nat}(h:PO w B D Gp V C K pk m)(n:Int)(f:FrP)(hf:V.P.fs n=some f):Calls Tryz.prog 76 #[(.pointer (some ⟨Gp,0,none⟩)),.int .i64 n] w fun e w'=>∃V',PO w' B D Gp V' C K pk m∧St2 w w' B V V'∧V'.P.pages=V.P.pages∧V'.P.free=V.P.free∧V'.P.fs=V.P.fs∧e=.returned (.tuple #[(.pointer (some ⟨f.blk,0,none⟩)),.int .i64 0]):=by
 obtain⟨g1,g2,g3,g4,g5⟩:=h.pi.held hf;have hpg:=h.pi.pg;have hmo:=h.pi.most;have hn:i64 n:=i64_in (by omega) (by omega);have hn0:¬n<0:=by omega
 have hn1:¬(V.P.pages:Int)≤n:=by omega
 have hlk:=h.pp.fmap.look hn;simp only[hf,Option.map_some,ptrO,Option.isSome_some] at hlk;obtain⟨c0,c1,c2,c3,c4,c5,c6,c7,c8,c9⟩:=h.pp.cells;have z7:=h.pp.unfrozen 7;have HP1:Hid (PP (w.setCell ⟨Gp,7,none⟩ (.int .i64 (wrap64 (V.P.hits+1)))) B D Gp V.b { V.P with hits:=wrap64 (V.P.hits+1)} V.L V.S):=h.pp.own rfl rfl rfl rfl;have HB1:Hid (BelP V.b.M V.b.M B w (w.setCell ⟨Gp,7,none⟩ (.int .i64 (wrap64 (V.P.hits+1))))):=h.pp.own_bel 7 _ h.lo;have HPI:Hid (PI V.P V.L V.S C K V.N pk m):=h.pi;have HLO:Hid (B≤w.heap.size):=h.lo;have HWO:=hide (cwithout n HP1.out g1 h.pi.nd (by show V.P.order.length≤64;omega));obtain⟨i0,hi,hz⟩:=Option.map_eq_some_iff.1 infoIntP;simp only[Prod.mk.injEq] at hz;obtain⟨hz0,hz1,hz2⟩:=hz;have hol:V.P.order.length≤64:=by omega
 clear h c0 c1 c3 c5 c6 c8 c9 hf g1 g2 g3 g4 g5 hpg hmo;generalize hW1:w.setCell ⟨Gp,7,none⟩ (.int .i64 (wrap64 (V.P.hits+1)))=w1 at *;go_enter Tryz.func76,Tryz.ntmps76;go_wp2_with fail
 refine HWO.out.mono ?_;rintro e w2⟨i,a,c,q0,q1,rfl,q2,q3,q4⟩
 change V.P.order[i]?=some n at q0
 change i<V.P.order.length at q1
 have hle:(V.P.order.eraseIdx i).length=V.P.order.length-1:=by rw[List.length_eraseIdx,if_pos q1]
 have HQ2:Hid (w2.ownsRow B 3 1 (.slice a (V.P.order.length-1) c) (V.P.order.length-1) ((V.P.order.eraseIdx i).map (Value.int .i64))):=by rw[←hle];rw[←hle] at q2;exact q2
 have HQ3:Hid (w1.grownBy w2 V.b.vo.ownBlock):=q3;have HQ4:Hid ((Value.slice a (V.P.order.length-1) c).ownBlock=V.b.vo.ownBlock):=q4;have HQ0:Hid (V.P.order[i]?=some n∧i<V.P.order.length):=(⟨q0,q1⟩:V.P.order[i]?=some n∧i<V.P.order.length);have hszb:B≤w2.heap.size:=Nat.le_trans HLO.out (Nat.le_trans HB1.out.size q3.size);obtain⟨ol,hol2⟩:∃ol,ol=V.P.order.length-1:=⟨_,rfl⟩;rw[←hol2] at HQ2 HQ4 ⊢;have HOL:Hid (ol+1=V.P.order.length):=by show ol+1=V.P.order.length;omega
 clear q0 q1 q2 q3 q4 HWO hle hol2;go_wp2_with (first
  | (at_builtin;refine wpList_append_own_at _ rfl _ _ 42 rfl B 3 i0 (.int .i64 0) 1 8 Tryz.underlying42 hi hz0 hz1 hz2 rfl (by decide) (.slice a ol c) ol ((V.P.order.eraseIdx i).map (Value.int .i64)) rfl (World.ownsRow.alloc HQ2.out _) ⟨w2.heap.size,0,none⟩ 1 1 [.int .i64 n] rfl rfl (newsI _ _) (fun x hx=>by simp at hx;subst hx;rfl) (by have:=HOL.out;unfold maxLen;omega) (by have:=HOL.out;omega) (by simp;omega) ?_;intro v1 w3 ho1 hg1 hnil1 hown1;obtain⟨a1,cap1,rfl⟩:=owns_sliceI ho1;have HH:=HP1.out.reord (l:=V.P.order.eraseIdx i++[n]) (Nat.le_trans HLO.out HB1.out.size) (use_grown HQ3.out HQ4.out hg1) (by rw[use_len HQ0.out.2 HOL.out,List.map_append];exact ho1) (use_own HQ3.out HQ4.out hown1);have HZ:Hid (PP (w3.setCell ⟨Gp,5,none⟩ (.slice a1 (ol+1) cap1)) B D Gp { V.b with vo:=(.slice a1 (ol+1) cap1)} { V.P with hits:=wrap64 (V.P.hits+1),order:=V.P.order.eraseIdx i++[n]} V.L V.S):=HH.1;have HBZ:Hid (BelP V.b.M ({ V.b with vo:=(.slice a1 (ol+1) cap1)}:Bk).M B w (w3.setCell ⟨Gp,5,none⟩ (.slice a1 (ol+1) cap1))):=HB1.out.trans HH.2.1;have e5:=HH.2.2.1;have f5:=HH.2.2.2.1;have l5:=HH.2.2.2.2;clear HH ho1 hg1 hnil1 hown1)
  | go_in)
 have HPZ:Hid (PI { V.P with hits:=wrap64 (V.P.hits+1),order:=V.P.order.eraseIdx i++[n]} V.L V.S C K V.N pk m):=((HPI.out.perm (erase_perm HQ0.out.2 HQ0.out.1)).stat _ _ _ _)
 go_ret2
 exact⟨⟨{ V.b with vo:=(.slice a1 (ol+1) cap1)},{ V.P with hits:=wrap64 (V.P.hits+1),order:=V.P.order.eraseIdx i++[n]},V.L,V.S,V.N⟩,⟨HZ.out,HPZ.out,Nat.le_trans HLO.out HBZ.out.size⟩,⟨HBZ.out,id⟩,rfl,rfl,rfl,rfl⟩
theorem cuse_miss {pk:Nat}(h:PO w B D Gp V C K pk m)(hm:m≤50000)(n:Int)(n0:0≤n)(n1:n<V.P.pages)(hf:V.P.fs n=none):Calls Tryz.prog 76 #[(.pointer (some ⟨Gp,0,none⟩)),.int .i64 n] w fun e w'=>∃V',PO w' B D Gp V' C K pk m∧St2 w w' B V V'∧V'.P.pages=V.P.pages∧V'.P.free=V.P.free∧(∀x f,V'.P.fs x=some f→f.dirty=true→V.P.fs x=some f)∧((∃f,V'.P.fs n=some f∧C n=some f.text∧e=.returned (.tuple #[(.pointer (some ⟨f.blk,0,none⟩)),.int .i64 0]))∨(e=.returned (.tuple #[.pointer none,.int .i64 2])∧V'.S.down=true)):=by
 have hpg:=h.pi.pg;have hn:i64 n:=i64_in (by omega) (by omega);have hn0:¬n<0:=by omega
 have hn1:¬(V.P.pages:Int)≤n:=by omega
 have hlk:=h.pp.fmap.look hn;simp only[hf,Option.map_none,ptrO,Option.isSome_none] at hlk;obtain⟨c0,c1,c2,c3,c4,c5,c6,c7,c8,c9⟩:=h.pp.cells;have HMR:=hide (cmakeRoom h hm);have HNR:Hid (0≤n∧n<V.P.pages∧V.P.fs n=none∧i64 n):=(⟨n0,n1,hf,hn⟩:0≤n∧n<V.P.pages∧V.P.fs n=none∧i64 n);clear h c0 c1 c3 c5 c6 c7 c8 c9 hf;go_enter Tryz.func76,Tryz.ntmps76;go_wp2_with fail
 refine HMR.out.mono ?_;rintro e w1⟨V1,k1,k2,k3,k4,k5,k6,(⟨rfl,k7⟩ | ⟨rfl,k7⟩)⟩
 ·have HP1:Hid (PO w1 B D Gp V1 C K pk m):=k1;have HS1:Hid (St2 w w1 B V V1):=k2;have hnone:V1.P.fs n=none:=by
   cases hq:V1.P.fs n with
   | none=>rfl
   | some f =>
    have:=k6 n f hq;rw[HNR.out.2.2.1] at this;cases this
  have HK1:=hide (show V1.P.pages=V.P.pages∧V1.P.free=V.P.free∧V1.P.fs n=none∧V1.P.order.length<V1.P.most from⟨k3,k4,hnone,k7⟩);clear hnone;have HSUB:=hide (k6);obtain⟨t,t1,t2,t3,t4⟩:=k1.pi.cur n n0 (by omega);have hN:=t4 HK1.out.2.2.1;obtain⟨nn,rfl⟩:∃k:Nat,n=k:=⟨n.toNat,by omega⟩;obtain⟨j,kk,i1,i2,i3,i4⟩:=k1.pi.inv;have hrd:=rd_out i1 (by omega) (by omega:nn<60000) hN (k1.pp.log.dsk.len 0 (by decide)) (k1.pp.log.dsk.len 2 (by decide));have HRD:=hide (creadL (nn:Int) w1 B D V1.b.G V1.b.bp V1.b.bf 60000 V1.L V1.S k1.pp.log (i1.okp (by omega)) (i1.okf (by omega)));obtain⟨c0,c1,c2,c3,c4,c5,c6,c7,c8,c9⟩:=k1.pp.cells;have HT:Hid (C nn=some t):=t1;clear k1 k2 k3 k4 k5 k6 k7 t1 t2 t3 t4 hN i1 i2 i3 i4 c1 c2 c3 c4 c5 c6 c7 c8 c9 HMR hlk;rcases hrd with hr | ⟨hdn,hr⟩
  ·rw[hr] at HRD;clear hr;go_wp2_with fail
   refine HRD.out.mono ?_;rintro e w2⟨rfl,hb2⟩;have HP2:Hid (PO w2 B D Gp V1 C K pk m):=(⟨HP1.out.pp.below hb2,HP1.out.pi,Nat.le_trans HP1.out.lo hb2.size⟩:PO w2 B D Gp V1 C K pk m);have HS2:Hid (St2 w w2 B V V1):=HS1.out.trans ⟨below_belP hb2 HP1.out.lo _,id⟩;obtain⟨d0,d1,d2,d3,d4,d5,d6,d7,d8,d9⟩:=HP2.out.pp.cells;have z8:=HP2.out.pp.unfrozen 8;have HP3:Hid (PP (w2.setCell ⟨Gp,8,none⟩ (.int .i64 (wrap64 (V1.P.misses+1)))) B D Gp V1.b { V1.P with misses:=wrap64 (V1.P.misses+1)} V1.L V1.S):=HP2.out.pp.own rfl rfl rfl rfl;have HS3:Hid (BelP V1.b.M V1.b.M B w2 (w2.setCell ⟨Gp,8,none⟩ (.int .i64 (wrap64 (V1.P.misses+1))))):=HP2.out.pp.own_bel 8 _ HP2.out.lo;have hml:=HP1.out.pi.most;have HH:=hide (chold (nn:Int) t HP3.out (Nat.le_trans HP2.out.lo HS3.out.size) HNR.out.2.2.2 (by have:=HK1.out.2.2.2;show V1.P.order.length≤63;omega) (fun x hx=>(HP1.out.pi.keys x).2 hx) HK1.out.2.2.1);clear hb2 d0 d1 d2 d3 d4 d5 d6 d7 d9 HRD c0;generalize hW3:w2.setCell ⟨Gp,8,none⟩ (.int .i64 (wrap64 (V1.P.misses+1)))=w3 at *;go_wp2_with fail
   refine HH.out.mono ?_;rintro e w4⟨v,rfl,q1,q2⟩;have HQ1:=hide (q1);have HQ2:=hide (q2);clear q1 q2 HH;go_wp2
   go_ret2
   refine⟨⟨{ V1.b with vo:=v },_,V1.L,V1.S,V1.N⟩,⟨HQ1.out,?_,Nat.le_trans HP2.out.lo (Nat.le_trans HS3.out.size HQ2.out.size)⟩,HS2.out.trans ⟨HS3.out.trans HQ2.out,id⟩,HK1.out.1,HK1.out.2.1,fun x f hx hd=>?_,.inl ⟨_,updR_at _ _ _,HT.out,rfl⟩⟩
   ·have hp:=HNR.out;have hq:=HK1.out;exact(HP1.out.pi.hold w3.heap.size hp.1 (by omega) hq.2.2.1 HT.out hq.2.2.2).stat V1.P.hits (wrap64 (V1.P.misses+1)) V1.P.spills V1.P.free
   ·have hx:updR V1.P.fs (nn:Int) ⟨w3.heap.size,t,false⟩ x=some f:=hx;by_cases e:x=(nn:Int)
    ·rw[e,updR_at] at hx;injection hx with hx;rw[←hx] at hd;cases hd
    ·rw[updR_ne _ _ e] at hx;exact HSUB.out x f hx
  ·rw[hr] at HRD;have HDN:Hid (V1.S.down=true):=hdn;clear hr hdn;go_wp2_with fail
   refine HRD.out.mono ?_;rintro e w2⟨rfl,hb2⟩;have HP2:Hid (PO w2 B D Gp V1 C K pk m):=(⟨HP1.out.pp.below hb2,HP1.out.pi,Nat.le_trans HP1.out.lo hb2.size⟩:PO w2 B D Gp V1 C K pk m);have HS2:Hid (St2 w w2 B V V1):=HS1.out.trans ⟨below_belP hb2 HP1.out.lo _,id⟩;clear hb2 HRD;go_wp2
   go_ret2
   exact⟨V1,HP2.out,HS2.out,HK1.out.1,HK1.out.2.1,fun x f hx _=>HSUB.out x f hx,.inr ⟨rfl,HDN.out⟩⟩
 ·have HP1:Hid (PO w1 B D Gp V1 C K pk m):=k1;have HS1:Hid (St2 w w1 B V V1):=k2;have HK1:Hid (V1.P.pages=V.P.pages∧V1.P.free=V.P.free∧V1.S.down=true):=(⟨k3,k4,k7⟩:V1.P.pages=V.P.pages∧V1.P.free=V.P.free∧V1.S.down=true);have HSUB:=hide (k6);clear k1 k2 k3 k4 k5 k6 k7 HMR;go_wp2
  go_ret2
  exact⟨V1,HP1.out,HS1.out,HK1.out.1,HK1.out.2.1,fun x f hx _=>HSUB.out x f hx,.inr ⟨rfl,HK1.out.2.2⟩⟩
theorem cuse {pk:Nat}(h:PO w B D Gp V C K pk m)(hm:m≤50000)(n:Int)(n0:0≤n)(n1:n<V.P.pages):Calls Tryz.prog 76 #[(.pointer (some ⟨Gp,0,none⟩)),.int .i64 n] w fun e w'=>∃V',PO w' B D Gp V' C K pk m∧St2 w w' B V V'∧V'.P.pages=V.P.pages∧V'.P.free=V.P.free∧(∀x f,V'.P.fs x=some f→f.dirty=true→V.P.fs x=some f)∧((∃f,V'.P.fs n=some f∧C n=some f.text∧e=.returned (.tuple #[(.pointer (some ⟨f.blk,0,none⟩)),.int .i64 0]))∨(e=.returned (.tuple #[.pointer none,.int .i64 2])∧V'.S.down=true)):=by
 cases hf:V.P.fs n with
 | none=>exact cuse_miss h hm n n0 n1 hf
 | some f =>
  refine(cuse_hit h n f hf).mono ?_;rintro e w'⟨V',k1,k2,k3,k4,k5,rfl⟩;exact⟨V',k1,k2,k3,k4,fun x g hx _=>by rw[k5] at hx;exact hx,.inl ⟨f,by rw[k5];exact hf,(h.pi.held hf).2.2.2.1,rfl⟩⟩
def noT:Nat→ByteArray:=fun _=>⟨#[]⟩
def pgB (K Lk:Nat):ByteArray:=⟨(sealed K Lk 0 noT).toArray⟩
theorem no_len (S:Nat→ByteArray):4*0+len S 0≤1012:=by simp[len]
theorem pgB_size (K Lk:Nat):(pgB K Lk).size=1024:=by unfold pgB;rw[size_mk,sealed_len (no_len _)]
theorem pgB_any (K Lk:Nat)(S:Nat→ByteArray):(⟨(sealed K Lk 0 S).toArray⟩:ByteArray)=pgB K Lk:=by unfold pgB;rw[sealed_congr (T:=noT) (fun i hi=>absurd hi (Nat.not_lt_zero _))]
theorem pgB_good {K:Nat}(hK:1≤K∧K≤5)(hL:Lk≤2147483647):good (pgB K Lk)∧byt (pgB K Lk) 4=K∧four (pgB K Lk) 8=Lk∧cls (pgB K Lk)=[]:=
 ⟨sealed_good hK hL (no_len _),sealed_kind (no_len _) hK.2,sealed_link (no_len _) hL,by unfold pgB;rw[sealed_cls (no_len _)];rfl⟩
theorem copenB {K:Nat}(hK:1≤K∧K≤5)(hL:Lk≤2147483647)(w:World):Calls Tryz.prog 28 #[.string (pgB K Lk)] w fun e w'=>(∃a c,e=.returned (.tuple #[.agg #[.int .i64 K,.int .i64 Lk,.slice a 0 c],.int .i64 0]))∧Below w.heap.size w w':=by
 obtain⟨g1,g2,g3,g4⟩:=pgB_good hK hL;refine(copenq (pgB K Lk) w (pgB_size _ _)).mono ?_;rintro e w'⟨(⟨_,v,rfl,ho⟩|⟨k,_⟩),hb⟩
 ·rw[g4] at ho;rw[g2,g3];obtain⟨a,c,rfl,-⟩:=sta_own (L:=[]) ho;exact⟨⟨a,c,rfl⟩,hb⟩
 ·exact absurd g1 k
theorem csealB {K:Nat}(hK:1≤K∧K≤5)(hL:Lk≤2147483647)(a:Option Addr)(c:Nat)(w:World):Calls Tryz.prog 64 #[.agg #[.int .i64 K,.int .i64 Lk,.slice a 0 c]] w fun e w'=>e=.returned (.tuple #[.string (pgB K Lk),.int .i64 0])∧Below w.heap.size w w':=by
 refine(cseal_ok K Lk a 0 c noT w (.inl rfl) hK hL (no_len _)).mono ?_;rintro e w'⟨rfl,hb⟩;exact⟨rfl,hb⟩
theorem PO.chs {pk:Nat}(h:PO w B D Gp V C K pk m):∀x,V.P.chg x=true→0≤x∧x<59999:=fun x hx=>by
 have:=h.pi.chr x hx;have:=h.pi.pg;omega
theorem PO.mono {pk m':Nat}(h:PO w B D Gp V C K pk m)(hm:m≤m'):PO w B D Gp V C K pk m':=⟨h.pp,h.pi.mono hm,h.lo⟩
theorem PO.below {pk:Nat}(h:PO w B D Gp V C K pk m)(hb:Below w.heap.size w w'):PO w' B D Gp V C K pk m∧St2 w w' B V V:=⟨⟨h.pp.below hb,h.pi,Nat.le_trans h.lo hb.size⟩,⟨below_belP hb h.lo _,id⟩⟩
theorem PO.stay {pk:Nat}(h:PO w B D Gp V C K pk m)(hs:St2 w w' B V V')(hc:w.heap[c]?=some (.cells cs t (0,0)))(ht:tyQ t=false):w'.heap[c]?=some (.cells cs t (0,0)):=by
 obtain⟨k1,k2,k3,k4,k5,k6,k7,k8⟩:=h.pp.kinds;refine(hs.bel.far c (Array.getElem?_eq_some_iff.1 hc).1 (fun cur e fz he=>?_) (fun hm=>?_)).trans hc
 ·rw[hc] at he;injection he with he;injection he with _ he _;rw[←he];exact tyF_of ht
 ·simp only[Bk.M,List.mem_cons,Option.mem_toList] at hm;rcases hm with rfl | rfl | rfl | rfl | hm
  ·exact ne_CM ⟨_,hc⟩ k3 rfl
  ·exact ne_CM ⟨_,hc⟩ k4 rfl
  ·exact ne_CM ⟨_,hc⟩ k5 rfl
  ·exact ne_CM ⟨_,hc⟩ k6 rfl
  ·refine ne_CC ⟨_,hc⟩ (k8 c hm) (fun e=>?_) rfl;rw[←e] at ht;exact absurd ht (by decide)
theorem PO.stayI {pk:Nat}(h:PO w B D Gp V C K pk m)(hs:St2 w w' B V V')(hc:w.heap[c]?=some (.cells cs 3 (0,0)))(hn:¬V.b.vo.ownBlock=some c):w'.heap[c]?=some (.cells cs 3 (0,0))∧¬V'.b.vo.ownBlock=some c:=by
 obtain⟨k1,k2,k3,k4,k5,k6,k7,k8⟩:=h.pp.kinds;have hlt:=(Array.getElem?_eq_some_iff.1 hc).1;have hM:¬c∈V.b.M:=fun hm=>by
  simp only[Bk.M,List.mem_cons,Option.mem_toList] at hm;rcases hm with rfl | rfl | rfl | rfl | hm
  ·exact ne_CM ⟨_,hc⟩ k3 rfl
  ·exact ne_CM ⟨_,hc⟩ k4 rfl
  ·exact ne_CM ⟨_,hc⟩ k5 rfl
  ·exact ne_CM ⟨_,hc⟩ k6 rfl
  ·exact hn hm
 refine⟨(hs.bel.far c hlt (fun cur e fz he=>?_) hM).trans hc,fun hm=>?_⟩
 ·rw[hc] at he;injection he with he;injection he with _ he _;rw[←he];decide
 ·rcases hs.bel.maps c (by simp[Bk.M,hm]) with k | k
  ·exact hM k
  ·omega
theorem PO.other {pk:Nat}(h:PO w B D Gp V C K pk m)(hg:w.grownBy w' (some c))(hc:isC w c t)(ht:tyQ t=false):PO w' B D Gp V C K pk m:=⟨h.pp.other hg hc ht,h.pi,Nat.le_trans h.lo hg.size⟩
theorem St2.other {w'':World}(h:St2 w w' B V V')(hg:w'.grownBy w'' (some c))(hc:w.heap.size≤c)(hB:B≤w.heap.size):St2 w w'' B V V':=⟨h.bel.other hg hc hB,h.nf⟩
theorem cput {pk:Nat}(h:PO w B D Gp V C K pk m)(hm:m≤50000)(n:Int)(n0:0≤n)(n1:n<V.P.pages)(s:ByteArray)(hs:s.size=1024):Calls Tryz.prog 127 #[(.pointer (some ⟨Gp,0,none⟩)),.int .i64 n,.string s] w fun e w'=>∃V',St2 w w' B V V'∧V'.P.pages=V.P.pages∧V'.P.free=V.P.free∧((e=.returned (.int .i64 0)∧PO w' B D Gp V' (wth C n s) K pk (m+1))∨(e=.returned (.int .i64 2)∧V'.S.down=true∧PO w' B D Gp V' C K pk m)):=by
 have HU:=hide (cuse h hm n n0 n1);have hpg:=h.pi.pg;have HN:Hid (i64 n):=i64_in (by omega) (by omega);have HS:Hid (s.size=1024):=hs;clear h hs;go_enter Tryz.func127,Tryz.ntmps127;go_wp2_with fail
 refine HU.out.mono ?_;rintro e w1⟨V1,k1,k2,k3,k4,-,(⟨f,k5,k6,rfl⟩ | ⟨rfl,k5⟩)⟩
 ·have HC:=hide (cchange n f s k1.pp k5 k1.lo HN.out k1.chs);have HP:Hid (PO w1 B D Gp V1 C K pk m):=k1;have HS1:Hid (St2 w w1 B V V1):=k2;have HK:Hid (V1.P.pages=V.P.pages∧V1.P.free=V.P.free∧V1.P.fs n=some f):=(⟨k3,k4,k5⟩:V1.P.pages=V.P.pages∧V1.P.free=V.P.free∧V1.P.fs n=some f);clear k1 k2 k3 k4 k5 k6 HU;go_wp2_with fail
  refine HC.out.mono ?_;rintro e w2⟨rfl,q1,q2⟩;have HQ1:=hide (q1);have HQ2:=hide (q2);clear q1 q2 HC;go_wp2;go_ret;exact⟨⟨V1.b,chP V1.P n f.blk s,V1.L,V1.S,V1.N⟩,HS1.out.trans ⟨HQ2.out,id⟩,HK.out.1,HK.out.2.1,.inl ⟨rfl,⟨HQ1.out,HP.out.pi.change HK.out.2.2 HS.out,Nat.le_trans HP.out.lo HQ2.out.size⟩⟩⟩
 ·have HP:Hid (PO w1 B D Gp V1 C K pk m):=k1;have HS1:Hid (St2 w w1 B V V1):=k2;have HK:Hid (V1.P.pages=V.P.pages∧V1.P.free=V.P.free∧V1.S.down=true):=(⟨k3,k4,k5⟩:V1.P.pages=V.P.pages∧V1.P.free=V.P.free∧V1.S.down=true);clear k1 k2 k3 k4 k5 HU;go_wp2;go_ret;exact⟨V1,HS1.out,HK.out.1,HK.out.2.1,.inr ⟨rfl,HK.out.2.2,HP.out⟩⟩
theorem creadP {pk:Nat}(h:PO w B D Gp V C K pk m)(hm:m≤50000)(n:Int)(n0:0≤n)(n1:n<V.P.pages):Calls Tryz.prog 100 #[(.pointer (some ⟨Gp,0,none⟩)),.int .i64 n] w fun e w'=>∃V',PO w' B D Gp V' C K pk m∧St2 w w' B V V'∧V'.P.pages=V.P.pages∧V'.P.free=V.P.free∧((∃t,C n=some t∧e=.returned (.tuple #[.string t,.int .i64 0]))∨(e=.returned (.tuple #[.string ⟨#[]⟩,.int .i64 2])∧V'.S.down=true)):=by
 have HU:=hide (cuse h hm n n0 n1);clear h;go_enter Tryz.func100,Tryz.ntmps100;go_wp2_with fail
 refine HU.out.mono ?_;rintro e w1⟨V1,k1,k2,k3,k4,-,(⟨f,k5,k6,rfl⟩ | ⟨rfl,k5⟩)⟩
 ·obtain⟨f0,f1,f2,z0,z2,hlt⟩:=k1.pp.fcells k5;have HP:Hid (PO w1 B D Gp V1 C K pk m):=k1;have HS1:Hid (St2 w w1 B V V1):=k2;have HK:Hid (V1.P.pages=V.P.pages∧V1.P.free=V.P.free∧C n=some f.text):=(⟨k3,k4,k6⟩:V1.P.pages=V.P.pages∧V1.P.free=V.P.free∧C n=some f.text);clear k1 k2 k3 k4 k5 k6 HU f1 f2 z0 z2;go_wp2
  go_ret2
  exact⟨V1,HP.out,HS1.out,HK.out.1,HK.out.2.1,.inl ⟨_,HK.out.2.2,rfl⟩⟩
 ·have HP:Hid (PO w1 B D Gp V1 C K pk m):=k1;have HS1:Hid (St2 w w1 B V V1):=k2;have HK:Hid (V1.P.pages=V.P.pages∧V1.P.free=V.P.free∧V1.S.down=true):=(⟨k3,k4,k5⟩:V1.P.pages=V.P.pages∧V1.P.free=V.P.free∧V1.S.down=true);clear k1 k2 k3 k4 k5 HU;go_wp2
  go_ret2
  exact⟨V1,HP.out,HS1.out,HK.out.1,HK.out.2.1,.inr ⟨rfl,HK.out.2.2⟩⟩
theorem cwriteP {pk:Nat}(h:PO w B D Gp V C K pk m)(hm:m≤50000)(n:Int)(n0:0<n)(n1:n<V.P.pages)(s:ByteArray)(hs:s.size=1024):Calls Tryz.prog 74 #[(.pointer (some ⟨Gp,0,none⟩)),.int .i64 n,.string s] w fun e w'=>∃V',St2 w w' B V V'∧V'.P.pages=V.P.pages∧V'.P.free=V.P.free∧((e=.returned (.int .i64 0)∧PO w' B D Gp V' (wth C n s) K pk (m+1))∨(e=.returned (.int .i64 2)∧V'.S.down=true∧PO w' B D Gp V' C K pk m)):=by
 have HU:=hide (cput h hm n (by omega) n1 s hs);have e1:(n == 0)=false:=by simp;omega
 have e2:((s.size:Int) != 1024)=false:=by simp;omega
 have e3:¬n=0:=by omega
 have e4:(s.size:Int)=1024:=by omega
 clear h hs;go_enter Tryz.func74,Tryz.ntmps74;go_wp2_with fail
 refine HU.out.mono ?_;rintro e w1⟨V1,k1,k2,k3,(⟨rfl,k4⟩ | ⟨rfl,k4,k5⟩)⟩
 ·have HK:Hid (St2 w w1 B V V1∧V1.P.pages=V.P.pages∧V1.P.free=V.P.free∧PO w1 B D Gp V1 (wth C n s) K pk (m+1)):=(⟨k1,k2,k3,k4⟩:St2 w w1 B V V1∧V1.P.pages=V.P.pages∧V1.P.free=V.P.free∧PO w1 B D Gp V1 (wth C n s) K pk (m+1));clear k1 k2 k3 k4 HU;go_wp2;go_ret;exact⟨V1,HK.out.1,HK.out.2.1,HK.out.2.2.1,.inl ⟨rfl,HK.out.2.2.2⟩⟩
 ·have HK:Hid (St2 w w1 B V V1∧V1.P.pages=V.P.pages∧V1.P.free=V.P.free∧V1.S.down=true∧PO w1 B D Gp V1 C K pk m):=(⟨k1,k2,k3,k4,k5⟩:St2 w w1 B V V1∧V1.P.pages=V.P.pages∧V1.P.free=V.P.free∧V1.S.down=true∧PO w1 B D Gp V1 C K pk m);clear k1 k2 k3 k4 k5 HU;go_wp2;go_ret;exact⟨V1,HK.out.1,HK.out.2.1,HK.out.2.2.1,.inr ⟨rfl,HK.out.2.2.2⟩⟩
theorem copened {pk:Nat}(h:PO w B D Gp V C K pk m)(hm:m≤50000)(n:Int)(n0:0≤n)(n1:n<V.P.pages){lk:Nat}(hk:1≤kd∧kd≤5)(hl:lk≤2147483647)(hC:C n=some (pgB kd lk)):Calls Tryz.prog 90 #[(.pointer (some ⟨Gp,0,none⟩)),.int .i64 n] w fun e w'=>∃V',PO w' B D Gp V' C K pk m∧St2 w w' B V V'∧V'.P.pages=V.P.pages∧V'.P.free=V.P.free∧((∃a c,e=.returned (.tuple #[.agg #[.int .i64 kd,.int .i64 lk,.slice a 0 c],.int .i64 0]))∨(e=.returned (.tuple #[.agg #[.int .i64 0,.int .i64 0,.slice none 0 0],.int .i64 2])∧V'.S.down=true)):=by
 have hb:Below w.heap.size w (w.alloc (.cells #[.int .i64 0,.int .i64 0,.slice none 0 0] 82)):=((Below.refl _ _).alloc (Nat.le_refl _) _);obtain⟨h1,s1⟩:=h.below hb;have HU:=hide (cuse h1 hm n n0 n1);have HS1:Hid (St2 w (w.alloc (.cells #[.int .i64 0,.int .i64 0,.slice none 0 0] 82)) B V V):=s1;have HLO:Hid (B≤w.heap.size):=h.lo;have HX:Hid (Bx3 (w.alloc (.cells #[.int .i64 0,.int .i64 0,.slice none 0 0] 82)) w.heap.size (.int .i64 0) (.int .i64 0) (.slice none 0 0)):=Bx3.new _ _ _ _;have HH1:Hid (PO (w.alloc (.cells #[.int .i64 0,.int .i64 0,.slice none 0 0] 82)) B D Gp V C K pk m):=h1;clear h h1 s1 hb;go_enter Tryz.func90,Tryz.ntmps90;go_wp2_with fail
 refine HU.out.mono ?_;rintro e w1⟨V1,k1,k2,k3,k4,-,(⟨f,k5,k6,rfl⟩ | ⟨rfl,k5⟩)⟩
 ·obtain⟨f0,f1,f2,z0,z2,hlt⟩:=k1.pp.fcells k5;rw[hC] at k6;injection k6 with k6;rw[←k6] at f0;have HB1:Hid (Bx3 w1 w.heap.size (.int .i64 0) (.int .i64 0) (.slice none 0 0)):=HH1.out.stay k2 HX.out (by decide);have HP:Hid (PO w1 B D Gp V1 C K pk m):=k1;have HS:Hid (St2 w w1 B V V1):=HS1.out.trans k2;have HK:Hid (V1.P.pages=V.P.pages∧V1.P.free=V.P.free):=(⟨k3,k4⟩:V1.P.pages=V.P.pages∧V1.P.free=V.P.free);clear k1 k2 k3 k4 k5 k6 HU f1 f2 z0 z2;go_wp2_with fail
  refine(copenB hk hl _).mono ?_;rintro e w2⟨⟨a,c,rfl⟩,hb2⟩;have hX2:=HB1.out.below hb2;have x0:=hX2.c0;have x1:=hX2.c1;have x2:=hX2.c2;have y0:=hX2.fz 0;have y1:=hX2.fz 1;have y2:=hX2.fz 2;have hXlt:=hX2.lt;obtain⟨p2,s2⟩:=HP.out.below hb2;have hg:=grown_put w2 w.heap.size (.int .i64 kd) (.int .i64 lk) (.slice a 0 c);have HP3:Hid (PO (((w2.setCell ⟨w.heap.size,0,none⟩ (.int .i64 kd)).setCell ⟨w.heap.size,1,none⟩ (.int .i64 lk)).setCell ⟨w.heap.size,2,none⟩ (.slice a 0 c)) B D Gp V1 C K pk m):=p2.other hg ⟨_,hX2⟩ (by decide);have HS3:Hid (St2 w (((w2.setCell ⟨w.heap.size,0,none⟩ (.int .i64 kd)).setCell ⟨w.heap.size,1,none⟩ (.int .i64 lk)).setCell ⟨w.heap.size,2,none⟩ (.slice a 0 c)) B V V1):=(HS.out.trans s2).other hg (Nat.le_refl _) HLO.out;clear hb2 hX2 p2 s2 hg;go_wp2;exact bodyPost_ret (v:=.tuple #[.agg #[.int .i64 kd,.int .i64 lk,.slice a 0 c],.int .i64 0]) (by simp[results,Tryz.results90,go_sem, *]) rfl ⟨V1,HP3.out,HS3.out,HK.out.1,HK.out.2,.inl ⟨a,c,rfl⟩⟩
 ·have hX2:Bx3 w1 w.heap.size (.int .i64 0) (.int .i64 0) (.slice none 0 0):=HH1.out.stay k2 HX.out (by decide);have x0:=hX2.c0;have x1:=hX2.c1;have x2:=hX2.c2;have y0:=hX2.fz 0;have y1:=hX2.fz 1;have y2:=hX2.fz 2;have hXlt:=hX2.lt;have hg:=grown_put w1 w.heap.size (.int .i64 0) (.int .i64 0) (.slice none 0 0);have HP3:Hid (PO (((w1.setCell ⟨w.heap.size,0,none⟩ (.int .i64 0)).setCell ⟨w.heap.size,1,none⟩ (.int .i64 0)).setCell ⟨w.heap.size,2,none⟩ (.slice none 0 0)) B D Gp V1 C K pk m):=k1.other hg ⟨_,hX2⟩ (by decide);have HS3:Hid (St2 w (((w1.setCell ⟨w.heap.size,0,none⟩ (.int .i64 0)).setCell ⟨w.heap.size,1,none⟩ (.int .i64 0)).setCell ⟨w.heap.size,2,none⟩ (.slice none 0 0)) B V V1):=(HS1.out.trans k2).other hg (Nat.le_refl _) HLO.out;have HK:Hid (V1.P.pages=V.P.pages∧V1.P.free=V.P.free∧V1.S.down=true):=(⟨k3,k4,k5⟩:V1.P.pages=V.P.pages∧V1.P.free=V.P.free∧V1.S.down=true);clear k1 k2 k3 k4 k5 HU hX2 hg;go_wp2;exact bodyPost_ret (v:=.tuple #[.agg #[.int .i64 0,.int .i64 0,.slice none 0 0],.int .i64 2]) (by simp[results,Tryz.results90,go_sem, *]) rfl ⟨V1,HP3.out,HS3.out,HK.out.1,HK.out.2.1,.inr ⟨rfl,HK.out.2.2⟩⟩
theorem csealP {pk:Nat}(h:PO w B D Gp V C K pk m)(hm:m≤50000)(n:Int)(n0:0≤n)(n1:n<V.P.pages){lk:Nat}(hk:1≤kd∧kd≤5)(hl:lk≤2147483647)(a:Option Addr)(c:Nat):Calls Tryz.prog 126 #[(.pointer (some ⟨Gp,0,none⟩)),.int .i64 n,.agg #[.int .i64 kd,.int .i64 lk,.slice a 0 c]] w fun e w'=>∃V',St2 w w' B V V'∧V'.P.pages=V.P.pages∧V'.P.free=V.P.free∧((e=.returned (.int .i64 0)∧PO w' B D Gp V' (wth C n (pgB kd lk)) K pk (m+1))∨(e=.returned (.int .i64 2)∧V'.S.down=true∧PO w' B D Gp V' C K pk m)):=by
 have HP:Hid (PO w B D Gp V C K pk m):=h;have HN:=hide (show 0≤n∧n<V.P.pages from⟨n0,n1⟩);have HB1:=hide (show Below w.heap.size w (w.alloc (.cells #[.int .i64 kd,.int .i64 lk,.slice a 0 c] 82)) from((Below.refl _ _).alloc (Nat.le_refl _) _));clear h;go_enter Tryz.func126,Tryz.ntmps126;go_wp2_with fail
 refine(csealB hk hl a c _).mono ?_;rintro e w1⟨rfl,hb1⟩;have hb2:Below w.heap.size w w1:=keepBelow HB1.out hb1;obtain⟨p1,s1⟩:=HP.out.below hb2;have HU:=hide (cput p1 hm n HN.out.1 HN.out.2 (pgB kd lk) (pgB_size _ _));have HS1:=hide (s1);clear hb1 hb2 p1 s1;go_wp2_with fail
 refine HU.out.mono ?_;rintro e w2⟨V1,k1,k2,k3,(⟨rfl,k4⟩ | ⟨rfl,k4,k5⟩)⟩
 ·have HK:=hide (show St2 w1 w2 B V V1∧V1.P.pages=V.P.pages∧V1.P.free=V.P.free∧PO w2 B D Gp V1 (wth C n (pgB kd lk)) K pk (m+1) from⟨k1,k2,k3,k4⟩);clear k1 k2 k3 k4 HU;go_wp2;go_ret;exact⟨V1,HS1.out.trans HK.out.1,HK.out.2.1,HK.out.2.2.1,.inl ⟨rfl,HK.out.2.2.2⟩⟩
 ·have HK:=hide (show St2 w1 w2 B V V1∧V1.P.pages=V.P.pages∧V1.P.free=V.P.free∧V1.S.down=true∧PO w2 B D Gp V1 C K pk m from⟨k1,k2,k3,k4,k5⟩);clear k1 k2 k3 k4 k5 HU;go_wp2;go_ret;exact⟨V1,HS1.out.trans HK.out.1,HK.out.2.1,HK.out.2.2.1,.inr ⟨rfl,HK.out.2.2.2⟩⟩
theorem csetFree {pk:Nat}(h:PO w B D Gp V C K pk m)(hm:m≤49000)(l:Nat)(hl:l≤2147483647)(hf:fr≤2147483647)(hC:C 0=some (pgB 4 fr)):Calls Tryz.prog 125 #[(.pointer (some ⟨Gp,0,none⟩)),.int .i64 (l:Int)] w fun e w'=>∃V',St2 w w' B V V'∧V'.P.pages=V.P.pages∧((e=.returned (.int .i64 0)∧V'.P.free=l∧PO w' B D Gp V' (wth C 0 (pgB 4 l)) K pk (m+1))∨(e=.returned (.int .i64 2)∧V'.S.down=true∧PO w' B D Gp V' C K pk m)):=by
 have hpg:=h.pi.pg;have HO:=hide (copened h (by omega) 0 (by omega) (by omega) (kd:=4) (lk:=fr) ⟨by decide,by decide⟩ hf hC);have HPG:=hide (show 1≤V.P.pages by omega);clear h hpg;go_enter Tryz.func125,Tryz.ntmps125;go_wp2_with fail
 refine HO.out.mono ?_;rintro e w1⟨V1,k1,k2,k3,k4,(⟨a,c,rfl⟩ | ⟨rfl,k5⟩)⟩
 ·have HS1:=hide (k2);have HP1:=hide (k1);have HK:=hide (show V1.P.pages=V.P.pages from k3);have HU:=hide (fun(W:World) (hW:PO W B D Gp V1 C K pk m)=>csealP hW (by omega) 0 (by omega) (by have:=HPG.out;omega) (kd:=4) (lk:=l) ⟨by decide,by decide⟩ hl a c);clear k1 k2 k3 k4 HO;go_wp2_with fail
  refine(HU.out _ ?hPO).mono ?_
  case hPO=>exact(HP1.out.below (((Below.refl _ _).alloc (Nat.le_refl _) _))).1
  rintro e w2⟨V2,j1,j2,j3,(⟨rfl,j4⟩|⟨rfl,j4,j5⟩)⟩
  ·have HS2:Hid (St2 w w2 B V V2):=(HS1.out.trans (HP1.out.below (((Below.refl _ _).alloc (Nat.le_refl _) _))).2).trans j1;obtain⟨c0,c1,c2,c3,c4,c5,c6,c7,c8,c9⟩:=j4.pp.cells;have z3:=j4.pp.unfrozen 3;have HP3:Hid (PO (w2.setCell ⟨Gp,3,none⟩ (.int .i64 (l:Int))) B D Gp ⟨V2.b,{ V2.P with free:=l },V2.L,V2.S,V2.N⟩ (wth C 0 (pgB 4 l)) K pk (m+1)):=(⟨j4.pp.own rfl rfl rfl rfl,j4.pi.stat _ _ _ _,Nat.le_trans j4.lo (set_grown w2 Gp 3 _).size⟩:PO _ B D Gp ⟨V2.b,{ V2.P with free:=l },V2.L,V2.S,V2.N⟩ _ K pk (m+1));have HS3:Hid (St2 w (w2.setCell ⟨Gp,3,none⟩ (.int .i64 (l:Int))) B V ⟨V2.b,{ V2.P with free:=l },V2.L,V2.S,V2.N⟩):=HS2.out.trans (⟨j4.pp.own_bel 3 _ j4.lo,id⟩:St2 w2 _ B V2 ⟨V2.b,{ V2.P with free:=l },V2.L,V2.S,V2.N⟩);have HK2:=hide (show V2.P.pages=V.P.pages by rw[j2];exact HK.out);clear j1 j2 j3 j4 HU c0 c1 c2 c4 c5 c6 c7 c8 c9;go_wp2;go_ret;exact⟨_,HS3.out,HK2.out,.inl ⟨rfl,rfl,HP3.out⟩⟩
  ·have HS2:Hid (St2 w w2 B V V2):=(HS1.out.trans (HP1.out.below (((Below.refl _ _).alloc (Nat.le_refl _) _))).2).trans j1;have HK2:=hide (show V2.P.pages=V.P.pages∧V2.S.down=true∧PO w2 B D Gp V2 C K pk m from⟨by rw[j2];exact HK.out,j4,j5⟩);clear j1 j2 j3 j4 j5 HU;go_wp2;go_ret;exact⟨_,HS2.out,HK2.out.1,.inr ⟨rfl,HK2.out.2⟩⟩
 ·have HS1:=hide (k2);have HP1:=hide (k1);have HK:=hide (show V1.P.pages=V.P.pages∧V1.S.down=true from⟨k3,k5⟩);clear k1 k2 k3 k4 k5 HO;go_wp2;go_ret;exact⟨V1,HS1.out.trans (HP1.out.below (((Below.refl _ _).alloc (Nat.le_refl _) _))).2,HK.out.1,.inr ⟨rfl,HK.out.2,(HP1.out.below (((Below.refl _ _).alloc (Nat.le_refl _) _))).1⟩⟩
theorem cfree {pk:Nat}(h:PO w B D Gp V C K pk m)(hm:m≤48000)(n:Nat)(n0:0<n)(n1:n<V.P.pages)(hf:V.P.free≤2147483647)(hC:C 0=some (pgB 4 V.P.free)):Calls Tryz.prog 162 #[(.pointer (some ⟨Gp,0,none⟩)),.int .i64 (n:Int)] w fun e w'=>∃V' C',St2 w w' B V V'∧V'.P.pages=V.P.pages∧PO w' B D Gp V' C' K pk (m+2)∧((e=.returned (.int .i64 0)∧V'.P.free=n∧C'=wth (wth C n (pgB 3 V.P.free)) 0 (pgB 4 n))∨(e=.returned (.int .i64 2)∧V'.S.down=true)):=by
 have hpg:=h.pi.pg;have HU:=hide (csealP h (by omega) n (by omega) (by omega) (kd:=3) (lk:=V.P.free) ⟨by decide,by decide⟩ hf none 0);obtain⟨c0,c1,c2,c3,c4,c5,c6,c7,c8,c9⟩:=h.pp.cells;have hn0:¬(n:Int)=0:=by omega
 have hn1:((n:Int) == 0)=false:=by simp;omega
 have HN:=hide (show 0<n∧n<V.P.pages∧V.P.pages≤59000 from⟨n0,n1,hpg.2.2⟩);have HC:=hide (hC);clear h hpg c0 c1 c2 c4 c5 c6 c7 c8 c9 hC n0 n1;go_enter Tryz.func162,Tryz.ntmps162;go_wp2_with fail
 refine HU.out.mono ?_;rintro e w1⟨V1,k1,k2,k3,(⟨rfl,k4⟩ | ⟨rfl,k4,k5⟩)⟩
 ·have HS1:=hide (k1);have HK:=hide (show V1.P.pages=V.P.pages from k2);have hq:=HN.out;have HF:=hide (csetFree k4 (by omega) n (by omega) (fr:=V.P.free) hf (by rw[wth_ne _ _ (by omega)];exact HC.out));clear k1 k2 k3 k4 HU hq c3;go_wp2_with fail
  refine HF.out.mono ?_;rintro e w2⟨V2,j1,j2,(⟨rfl,j3,j4⟩ | ⟨rfl,j3,j4⟩)⟩
  ·have HR:=hide (show St2 w w2 B V V2∧V2.P.pages=V.P.pages∧V2.P.free=n∧PO w2 B D Gp V2 (wth (wth C n (pgB 3 V.P.free)) 0 (pgB 4 n)) K pk (m+2) from⟨HS1.out.trans j1,by rw[j2];exact HK.out,j3,j4⟩);clear j1 j2 j3 j4 HF;go_wp2;go_ret;exact⟨V2,_,HR.out.1,HR.out.2.1,HR.out.2.2.2,.inl ⟨rfl,HR.out.2.2.1,rfl⟩⟩
  ·have HR:=hide (show St2 w w2 B V V2∧V2.P.pages=V.P.pages∧V2.S.down=true∧PO w2 B D Gp V2 (wth C n (pgB 3 V.P.free)) K pk (m+2) from⟨HS1.out.trans j1,by rw[j2];exact HK.out,j3,j4.mono (by omega)⟩);clear j1 j2 j3 j4 HF;go_wp2;go_ret;exact⟨V2,_,HR.out.1,HR.out.2.1,HR.out.2.2.2,.inr ⟨rfl,HR.out.2.2.1⟩⟩
 ·have HR:=hide (show St2 w w1 B V V1∧V1.P.pages=V.P.pages∧V1.S.down=true∧PO w1 B D Gp V1 C K pk (m+2) from⟨k1,k2,k4,k5.mono (by omega)⟩);clear k1 k2 k3 k4 k5 HU;go_wp2;go_ret;exact⟨V1,_,HR.out.1,HR.out.2.1,HR.out.2.2.2,.inr ⟨rfl,HR.out.2.2.1⟩⟩
theorem updR_updR (F:Int→Option FrP)(n:Int)(x y:FrP):updR (updR F n x) n y=updR F n y:=by
 funext k;unfold updR;split<;>rfl
theorem poolC_pages (b:Bk)(P:PS):(poolC b P).setIfInBounds 2 (.int .i64 ((P.pages:Int)+1))=poolC b { P with pages:=P.pages+1 }:=by
 unfold poolC;simp
theorem cgrow {pk:Nat}(h:PO w B D Gp V C K pk m)(hm:m≤49000)(hp:V.P.pages<59000):Calls Tryz.prog 124 #[(.pointer (some ⟨Gp,0,none⟩))] w fun e w'=>∃V',St2 w w' B V V'∧V'.P.free=V.P.free∧((e=.returned (.tuple #[.int .i64 (V.P.pages:Int),.int .i64 0])∧V'.P.pages=V.P.pages+1∧PO w' B D Gp V' (wth C V.P.pages (pgB 3 0)) K pk (m+1))∨(e=.returned (.tuple #[.int .i64 0,.int .i64 2])∧V'.S.down=true∧PO w' B D Gp V' C K pk m)):=by
 obtain⟨c0,c1,c2,c3,c4,c5,c6,c7,c8,c9⟩:=h.pp.cells;have hlt:¬(65536:Int)≤(V.P.pages:Int):=by omega
 have HP:=hide (h);clear h c0 c1 c3 c4 c5 c6 c7 c8 c9;go_enter Tryz.func124,Tryz.ntmps124;go_wp2_with fail
 refine(csealB (K:=3) (Lk:=0) ⟨by decide,by decide⟩ (by decide) none 0 _).mono ?_;rintro e w1⟨rfl,hb1⟩;obtain⟨p1,s1⟩:=HP.out.below hb1;have HS1:=hide (s1);have HM:=hide (cmakeRoom p1 (by omega));clear p1 s1 hb1 c2 hlt;go_wp2_with fail
 refine HM.out.mono ?_;rintro e w2⟨V1,k1,k2,k3,k4,k5,k6,(⟨rfl,k7⟩ | ⟨rfl,k7⟩)⟩
 ·obtain⟨c0,c1,c2,c3,c4,c5,c6,c7,c8,c9⟩:=k1.pp.cells;have z2:=k1.pp.unfrozen 2;have hw:wrap64 ((V1.P.pages:Int)+1)=(V1.P.pages:Int)+1:=by
   unfold wrap64;have:=k1.pi.pg;omega
  have hmo:=k1.pi.most;have hch:=k1.pi.pg;have h3:PP (w2.setCell ⟨Gp,2,none⟩ (.int .i64 ((V1.P.pages:Int)+1))) B D Gp V1.b { V1.P with pages:=V1.P.pages+1 } V1.L V1.S:=k1.pp.own (poolC_pages _ _) rfl rfl rfl;have hb3:=k1.pp.own_bel 2 (.int .i64 ((V1.P.pages:Int)+1)) k1.lo;have hfn:V1.P.fs (V1.P.pages:Int)=none:=by
   cases hq:V1.P.fs (V1.P.pages:Int) with
   | none=>rfl
   | some f=>have:=(k1.pi.held hq).2.2.1;omega
  have hi64:i64 (V1.P.pages:Int):=i64_in (by omega) (by omega);have HH:=hide (chold (V1.P.pages:Int) (pgB 3 0) h3 (Nat.le_trans k1.lo hb3.size) hi64 (by show V1.P.order.length≤63;omega) (fun x hx=>(k1.pi.keys x).2 hx) hfn);have HP1:=hide (k1);have HS2:=hide (HS1.out.trans k2);have HB3:=hide (hb3);have HK:=hide (show V1.P.pages=V.P.pages∧V1.P.free=V.P.free∧V1.P.order.length<V1.P.most∧i64 (V1.P.pages:Int)∧V1.P.pages<59000 from⟨k3,k4,k7,hi64,by omega⟩);clear k1 k2 k3 k4 k5 k6 k7 HM h3 hb3 hfn hi64 c0 c1 c3 c4 c5 c6 c7 c8 c9 hmo hch HS1;generalize hW3:w2.setCell ⟨Gp,2,none⟩ (.int .i64 ((V1.P.pages:Int)+1))=w3 at *;go_wp2_with fail
  refine HH.out.mono ?_;rintro e w4⟨v,rfl,q1,q2⟩;have hbd:=HK.out;have HCH:=hide (cchange (V1.P.pages:Int) ⟨w3.heap.size,pgB 3 0,false⟩ (pgB 3 0) q1 (updR_at _ _ _) (Nat.le_trans HP1.out.lo (Nat.le_trans HB3.out.size q2.size)) hbd.2.2.2.1 HP1.out.chs);have HQ2:=hide (q2);clear q1 q2 HH hbd;go_wp2_with fail
  refine HCH.out.mono ?_;rintro e w5⟨rfl,q1,q2⟩;have HQ1:=hide (q1);have HQ3:=hide (q2);clear q1 q2 HCH;go_wp2
  go_ret2
  have hk:=HK.out;refine⟨⟨{ V1.b with vo:=v },chP { V1.P with pages:=V1.P.pages+1,fs:=updR V1.P.fs (V1.P.pages:Int) ⟨w3.heap.size,pgB 3 0,false⟩,order:=V1.P.order++[(V1.P.pages:Int)]} (V1.P.pages:Int) w3.heap.size (pgB 3 0),V1.L,V1.S,V1.N⟩,HS2.out.trans ⟨HB3.out.trans (HQ2.out.trans HQ3.out),id⟩,hk.2.1,.inl ⟨by rw[hk.1];rfl,by show V1.P.pages+1=_;rw[hk.1],⟨HQ1.out,?_,Nat.le_trans HP1.out.lo (Nat.le_trans HB3.out.size (Nat.le_trans HQ2.out.size HQ3.out.size))⟩⟩⟩;have hpi:=HP1.out.pi.grow (s:=pgB 3 0) w3.heap.size (pgB_size _ _) hk.2.2.1 hk.2.2.2.2;rw[←hk.1];unfold chP
  dsimp only
  rw[updR_updR];exact hpi
 ·have HK:=hide (show St2 w w2 B V V1∧V1.P.free=V.P.free∧V1.S.down=true∧PO w2 B D Gp V1 C K pk m from⟨HS1.out.trans k2,k4,k7,k1⟩);clear k1 k2 k3 k4 k5 k6 k7 HM;go_wp2
  go_ret2
  exact⟨V1,HK.out.1,HK.out.2.1,.inr ⟨rfl,HK.out.2.2⟩⟩
theorem calloc_new {pk:Nat}(h:PO w B D Gp V C K pk m)(hm:m≤49000)(hp:V.P.pages<59000)(hf:V.P.free=0):Calls Tryz.prog 72 #[(.pointer (some ⟨Gp,0,none⟩))] w fun e w'=>∃V',St2 w w' B V V'∧V'.P.free=V.P.free∧((e=.returned (.tuple #[.int .i64 (V.P.pages:Int),.int .i64 0])∧V'.P.pages=V.P.pages+1∧PO w' B D Gp V' (wth C V.P.pages (pgB 3 0)) K pk (m+1))∨(e=.returned (.tuple #[.int .i64 0,.int .i64 2])∧V'.S.down=true∧PO w' B D Gp V' C K pk m)):=by
 obtain⟨c0,c1,c2,c3,c4,c5,c6,c7,c8,c9⟩:=h.pp.cells;rw[hf] at c3;have HG:=hide (cgrow h hm hp);clear h c0 c1 c2 c4 c5 c6 c7 c8 c9;go_enter Tryz.func72,Tryz.ntmps72;go_wp2_with fail
 refine HG.out.mono ?_;rintro e w1⟨V1,k1,k2,(⟨rfl,k3,k4⟩ | ⟨rfl,k3,k4⟩)⟩
 ·have HK:=hide (show St2 w w1 B V V1∧V1.P.free=V.P.free∧V1.P.pages=V.P.pages+1∧PO w1 B D Gp V1 (wth C V.P.pages (pgB 3 0)) K pk (m+1) from⟨k1,k2,k3,k4⟩);clear k1 k2 k3 k4 HG;go_wp2
  go_ret2
  exact⟨V1,HK.out.1,HK.out.2.1,.inl ⟨rfl,HK.out.2.2⟩⟩
 ·have HK:=hide (show St2 w w1 B V V1∧V1.P.free=V.P.free∧V1.S.down=true∧PO w1 B D Gp V1 C K pk m from⟨k1,k2,k3,k4⟩);clear k1 k2 k3 k4 HG;go_wp2
  go_ret2
  exact⟨V1,HK.out.1,HK.out.2.1,.inr ⟨rfl,HK.out.2.2⟩⟩
theorem calloc_old {pk:Nat}(h:PO w B D Gp V C K pk m)(hm:m≤48000)(h0:0<V.P.free)(h1:V.P.free<V.P.pages)(hn:nx≤2147483647)(hC:C V.P.free=some (pgB 3 nx))(hC0:C 0=some (pgB 4 V.P.free)):Calls Tryz.prog 72 #[(.pointer (some ⟨Gp,0,none⟩))] w fun e w'=>∃V' C',St2 w w' B V V'∧V'.P.pages=V.P.pages∧PO w' B D Gp V' C' K pk (m+2)∧((e=.returned (.tuple #[.int .i64 (V.P.free:Int),.int .i64 0])∧V'.P.free=nx∧C'=wth (wth C 0 (pgB 4 nx)) V.P.free (pgB 3 0))∨(e=.returned (.tuple #[.int .i64 0,.int .i64 2])∧V'.S.down=true)):=by
 obtain⟨c0,c1,c2,c3,c4,c5,c6,c7,c8,c9⟩:=h.pp.cells;have hpg:=h.pi.pg;have hf0:¬(V.P.free:Int)=0:=by omega
 have hf1:((V.P.free:Int) == 0)=false:=by simp;omega
 have HO:=hide (copened h (by omega) (V.P.free:Int) (by omega) (by omega) (kd:=3) (lk:=nx) ⟨by decide,by decide⟩ hn hC);have HN:=hide (show 0<V.P.free∧V.P.free<V.P.pages∧V.P.pages≤59000 from⟨h0,h1,hpg.2.2⟩);have HC0:=hide (hC0);have HLO:=hide (h.lo);clear h hpg c0 c1 c2 c4 c5 c6 c7 c8 c9 hC hC0 h0 h1;go_enter Tryz.func72,Tryz.ntmps72;go_wp2_with fail
 refine HO.out.mono ?_;rintro e w1⟨V1,k1,k2,k3,k4,(⟨a,c,rfl⟩ | ⟨rfl,k5⟩)⟩
 ·have HS1:=hide (k2);have HP1:=hide (k1);have HK:=hide (show V1.P.pages=V.P.pages∧V1.P.free=V.P.free from⟨k3,k4⟩);have hq:=HN.out;have HU:=hide (fun(W:World) (hW:PO W B D Gp V1 C K pk m)=>csetFree hW (by omega) nx hn (fr:=V.P.free) (by omega) HC0.out);clear k1 k2 k3 k4 HO c3;go_wp2_with fail
  refine(HU.out _ ?hPO).mono ?_
  case hPO=>exact(HP1.out.below (((Below.refl _ _).alloc (Nat.le_refl _) _))).1
  rintro e w2⟨V2,j1,j2,(⟨rfl,j3,j4⟩|⟨rfl,j3,j4⟩)⟩
  ·have hX:Bx3 w2 w1.heap.size (.int .i64 3) (.int .i64 nx) (.slice a 0 c):=(HP1.out.below (((Below.refl _ _).alloc (Nat.le_refl _) _))).1.stay j1 (Bx3.new _ _ _ _) (by decide);have x0:=hX.c0;have x1:=hX.c1;have x2:=hX.c2;have y1:=hX.fz 1;have y2:=hX.fz 2;have hXlt:=hX.lt;have HX:=hide (hX);have HP2:=hide (j4);have hle:=HS1.out.bel.size;have HS2:Hid (St2 w w2 B V V2):=(HS1.out.trans (HP1.out.below (((Below.refl _ _).alloc (Nat.le_refl _) _))).2).trans j1;have HK2:=hide (show V2.P.pages=V.P.pages∧V2.P.free=nx from⟨by rw[j2];exact HK.out.1,j3⟩);have HU2:=hide (fun(W:World) (hW:PO W B D Gp V2 (wth C 0 (pgB 4 nx)) K pk (m+1))=>csealP hW (by omega) (V.P.free:Int) (by omega) (by have:=HK2.out.1;omega) (kd:=3) (lk:=0) ⟨by decide,by decide⟩ (by decide) none 0);clear j1 j2 j3 j4 HU hX;go_wp2_with fail
   refine(HU2.out _ ?hPO).mono ?_
   case hPO=>exact HP2.out.other (c:=w1.heap.size) (((But.refl _ _).set 1 _).set 2 _) ⟨_,HX.out⟩ (by decide)
   rintro e w3⟨V3,l1,l2,l3,(⟨rfl,l4⟩|⟨rfl,l4,l5⟩)⟩
   ·have HR:=hide (show St2 w w3 B V V3∧V3.P.pages=V.P.pages∧V3.P.free=nx∧PO w3 B D Gp V3 (wth (wth C 0 (pgB 4 nx)) V.P.free (pgB 3 0)) K pk (m+2) from⟨(HS2.out.other (c:=w1.heap.size) (((But.refl _ _).set 1 _).set 2 _) hle HLO.out).trans l1,by rw[l2];exact HK2.out.1,by rw[l3];exact HK2.out.2,l4⟩);clear l1 l2 l3 l4 HU2;go_wp2
    go_ret2
    exact⟨V3,_,HR.out.1,HR.out.2.1,HR.out.2.2.2,.inl ⟨rfl,HR.out.2.2.1,rfl⟩⟩
   ·have HR:=hide (show St2 w w3 B V V3∧V3.P.pages=V.P.pages∧V3.S.down=true∧PO w3 B D Gp V3 (wth C 0 (pgB 4 nx)) K pk (m+2) from⟨(HS2.out.other (c:=w1.heap.size) (((But.refl _ _).set 1 _).set 2 _) hle HLO.out).trans l1,by rw[l2];exact HK2.out.1,l4,l5.mono (by omega)⟩);clear l1 l2 l3 l4 l5 HU2;go_wp2
    go_ret2
    exact⟨V3,_,HR.out.1,HR.out.2.1,HR.out.2.2.2,.inr ⟨rfl,HR.out.2.2.1⟩⟩
  ·have HR:=hide (show St2 w w2 B V V2∧V2.P.pages=V.P.pages∧V2.S.down=true∧PO w2 B D Gp V2 C K pk (m+2) from⟨(HS1.out.trans (HP1.out.below (((Below.refl _ _).alloc (Nat.le_refl _) _))).2).trans j1,by rw[j2];exact HK.out.1,j3,j4.mono (by omega)⟩);clear j1 j2 j3 j4 HU;go_wp2
   go_ret2
   exact⟨V2,_,HR.out.1,HR.out.2.1,HR.out.2.2.2,.inr ⟨rfl,HR.out.2.2.1⟩⟩
 ·have HP1:=hide (k1);have HR:=hide (show St2 w w1 B V V1∧V1.P.pages=V.P.pages∧V1.S.down=true from⟨k2,k3,k5⟩);clear k1 k2 k3 k4 k5 HO;go_wp2
  go_ret2
  exact⟨V1,C,HR.out.1.trans (HP1.out.below (((Below.refl _ _).alloc (Nat.le_refl _) _))).2,HR.out.2.1,((HP1.out.below (((Below.refl _ _).alloc (Nat.le_refl _) _))).1).mono (by omega),.inr ⟨rfl,HR.out.2.2⟩⟩
open Go.Shelf
section
variable {ops:Array Oper}{rest:List Oper}{o:Oper}{a:Act}{Q:Exit→Act→World→Prop}
end
theorem cpages (X:World)(B D G bp bf n:Nat)(L:LS)(S:DS)(h:PL X B D G bp bf n L S):Calls Tryz.prog 29 #[(.pointer (some ⟨G,0,none⟩))] X fun e w'=>e=.returned (.int .i64 L.last.pages)∧w'=X:=by
 obtain⟨c0,c1,c2,c3,c4,c5,c6,c7⟩:=h.cells;clear h;go_enter Tryz.func29,Tryz.ntmps29;go_wp2_with fail
 go_ret;exact⟨rfl,rfl⟩
section
variable {b:Bk}{P:PS}
end
def newP (most pages free:Nat):PS:=⟨most,pages,free,fun _=>none,[],fun _=>false,0,0,0⟩
theorem PP.fresh {pages:Nat}(h:PL W B D G bp bf 60000 L S)(hB:B≤W.heap.size)(hY:Below W.heap.size W Y)(h1:W.heap.size≤Gp)(h2:W.heap.size≤bF)(h3:W.heap.size≤bC)(hne:¬bF=bC)(m1:Y.heap[bF]?=some (.map #[] 0))(m2:Y.heap[bC]?=some (.map #[] 0))(hb:Y.heap[Gp]?=some (.cells (poolC ⟨G,bp,bf,bF,bC,.slice none 0 0⟩ (newP most pages free)) 90 (0,0))):PP Y B D Gp ⟨G,bp,bf,bF,bC,.slice none 0 0⟩ (newP most pages free) L S:=by
 have a1:=h.mp.lt;have a2:=h.mf.lt;refine⟨hb,h.below hY,?_,?_,(fun n f hf=>by cases hf),(fun n n' f f' hf=>by cases hf),World.ownsRow_nil _ _ _ _,⟨by omega,by show B≤bF;omega,by show B≤bC;omega⟩,⟨hne,by show ¬bF=bp;omega,by show ¬bF=bf;omega,by show ¬bC=bp;omega,by show ¬bC=bf;omega⟩⟩
 ·exact⟨.map [],⟨#[],0,m1,⟨by simp,MapKept.stamped_empty 0,by simp⟩,Nat.zero_le _,rfl⟩,fun _ _=>⟨rfl,fun v h=>by cases h⟩⟩
 ·exact⟨.map [],⟨#[],0,m2,⟨by simp,MapKept.stamped_empty 0,by simp⟩,Nat.zero_le _,rfl⟩,fun _ _=>rfl⟩
theorem open_pack (h:PL w B D G bp bf 60000 L S)(hB:B≤w.heap.size)(o:Obj)(most pages free:Nat)(hbb:(bF=w.heap.size+1∧bC=w.heap.size+1+1)∨(bF=w.heap.size+1+1∧bC=w.heap.size+1)):PP ((((w.alloc o).alloc (.map #[] 0)).alloc (.map #[] 0)).alloc (.cells #[(.pointer (some ⟨G,0,none⟩)),.int .i64 (most:Int),.int .i64 (pages:Int),.int .i64 (free:Int),.map (some bF),.slice none 0 0,.map (some bC),.int .i64 0,.int .i64 0,.int .i64 0] 90)).drew B D (w.heap.size+1+1+1) ⟨G,bp,bf,bF,bC,.slice none 0 0⟩ (newP most pages free) L S∧Below w.heap.size w ((((w.alloc o).alloc (.map #[] 0)).alloc (.map #[] 0)).alloc (.cells #[(.pointer (some ⟨G,0,none⟩)),.int .i64 (most:Int),.int .i64 (pages:Int),.int .i64 (free:Int),.map (some bF),.slice none 0 0,.map (some bC),.int .i64 0,.int .i64 0,.int .i64 0] 90)).drew:=by
 generalize hpc:(Obj.cells #[(.pointer (some ⟨G,0,none⟩)),.int .i64 (most:Int),.int .i64 (pages:Int),.int .i64 (free:Int),.map (some bF),.slice none 0 0,.map (some bC),.int .i64 0,.int .i64 0,.int .i64 0] 90)=pc;have s1:(w.alloc o).heap.size=w.heap.size+1:=by simp
 have s2:((w.alloc o).alloc (.map #[] 0)).heap.size=w.heap.size+1+1:=by simp
 have s3:(((w.alloc o).alloc (.map #[] 0)).alloc (.map #[] 0)).heap.size=w.heap.size+1+1+1:=by simp
 have hb:Below w.heap.size w ((((w.alloc o).alloc (.map #[] 0)).alloc (.map #[] 0)).alloc pc).drew:=(((((Below.refl _ _).alloc (Nat.le_refl _) _).alloc (by omega) _).alloc (by omega) _).alloc (by omega) _).drew;have e1:((((w.alloc o).alloc (.map #[] 0)).alloc (.map #[] 0)).alloc pc).drew.heap[w.heap.size+1]?=some (.map #[] 0):=by
  show((((w.alloc o).alloc (.map #[] 0)).alloc (.map #[] 0)).alloc pc).heap[w.heap.size+1]?=_;rw[heap_alloc_old _ _ (by omega),heap_alloc_old _ _ (by omega),←s1];exact heap_alloc_new _ _
 have e2:((((w.alloc o).alloc (.map #[] 0)).alloc (.map #[] 0)).alloc pc).drew.heap[w.heap.size+1+1]?=some (.map #[] 0):=by
  show((((w.alloc o).alloc (.map #[] 0)).alloc (.map #[] 0)).alloc pc).heap[w.heap.size+1+1]?=_;rw[heap_alloc_old _ _ (by omega),←s2];exact heap_alloc_new _ _
 have e3:((((w.alloc o).alloc (.map #[] 0)).alloc (.map #[] 0)).alloc pc).drew.heap[w.heap.size+1+1+1]?=some pc:=by
  show((((w.alloc o).alloc (.map #[] 0)).alloc (.map #[] 0)).alloc pc).heap[w.heap.size+1+1+1]?=_;rw[←s3];exact heap_alloc_new _ _
 refine⟨PP.fresh h hB hb (by omega) (by omega) (by omega) (by omega) ?_ ?_ (by rw[e3,←hpc];rfl),hb⟩
 ·rcases hbb with⟨rfl,rfl⟩|⟨rfl,rfl⟩
  ·exact e1
  ·exact e2
 ·rcases hbb with⟨rfl,rfl⟩|⟨rfl,rfl⟩
  ·exact e2
  ·exact e1
theorem PI.fresh {k:Nat}(hI:Inv L S F F j)(hj:j≤m)(hk:okS S k)(hk':k≤4*m+20)(hmo:8≤most∧most≤64)(hpg:1≤L.last.pages∧L.last.pages≤59000)(hkd:∀n:Int,0≤n→n<L.last.pages→∃t,F n=some t∧t.size=1024):PI (newP most L.last.pages free) L S F F F L.last.pages m:=by
 have hd:dct (newP most L.last.pages free)=0:=rfl;refine⟨⟨j,k,hI,by rw[hd];omega,hk,by rw[hd];omega⟩,List.nodup_nil,fun n=>?_,(fun n hn=>by cases hn),⟨Nat.zero_le _,hmo.1,hmo.2⟩,⟨hpg.1,Nat.le_refl _,hpg.2⟩,rfl,fun n n0 n1=>?_,(fun n f hf=>by cases hf),fun n _ n0 n1=>⟨n1,rfl,(fun f hf=>by cases hf)⟩,(fun n hn=>by cases hn),hkd⟩
 ·constructor
  ·intro k;cases k
  ·intro k;cases k
 ·obtain⟨t,h1,h2⟩:=hkd n n0 n1;exact⟨t,h1,h2,(fun f hf=>by cases hf),fun _=>h1⟩
theorem copenP {Z:Nat}{L0:LS}{S0:DS}{k:Nat}(most:Nat)(hmo:8≤most∧most≤64)(hO:Calls Tryz.prog 25 #[(.pointer (some ⟨D,0,none⟩))] X fun e w'=>∃G bp bf,e=.returned (.tuple #[(.pointer (some ⟨G,0,none⟩)),.int .i64 0])∧PL w' B D G bp bf 60000 L0 S0∧Below Z X w')(hG:∀G bp bf W,PL W B D G bp bf 60000 L0 S0→B≤W.heap.size→Calls Tryz.prog 26 #[(.pointer (some ⟨G,0,none⟩))] W fun e w'=>e=.returned (.int .i64 0)∧PL w' B D G bp bf 60000 L S∧Below B W w'∧Below (min Z W.heap.size) W w')(hB:B≤X.heap.size)(hZ:Z≤X.heap.size)(hI:Inv L S F F j)(hj:j≤m)(hm:m≤60000)(hk:okS S k)(hk':k≤4*m+20)(hpg:1≤L.last.pages∧L.last.pages≤59000)(hkd:∀n:Int,0≤n→n<L.last.pages→∃t,F n=some t∧t.size=1024)(hf:fr≤2147483647)(hF:F 0=some (pgB 4 fr))(hd:S.down=false):Calls Tryz.prog 6 #[(.pointer (some ⟨D,0,none⟩)),.int .i64 (most:Int)] X fun e w'=>∃Gp V,e=.returned (.tuple #[(.pointer (some ⟨Gp,0,none⟩)),.int .i64 0])∧PO w' B D Gp V F F L.last.pages m∧V.S=S∧V.P.pages=L.last.pages∧V.P.free=fr∧Below Z X w':=by
 have HO:=hide (hO);have HG:=hide (hG);have HB:=hide (hB);have HZ:=hide (hZ);have HI:=hide (hI);have HPI:=hide (PI.fresh (most:=most) (free:=fr) hI hj hk hk' hmo hpg hkd);have HD:=hide (hd);have HF:=hide (hF);have m1:¬(most:Int)<8:=by omega
 have m2:¬(64:Int)<(most:Int):=by omega
 have hmm:=@run_makeMap Tryz.prog;clear hO hG hB hZ hI hk hkd hd hF;go_enter Tryz.func6,Tryz.ntmps6;go_wp2_with fail
 refine HO.out.mono ?_;rintro e w1⟨G,bp,bf,rfl,p1,b1⟩;have HB1:=hide (b1);have hB1:B≤w1.heap.size:=Nat.le_trans HB.out b1.size;have HBG:=hide (HG.out G bp bf w1 p1 hB1);clear p1 b1 HO HG;go_wp2_with fail
 refine HBG.out.mono ?_;rintro e w2⟨rfl,p2,b2,b3⟩;have HB2:=hide (show Below Z X w2 from HB1.out.trans (b3.mono (by have:=HB1.out.size;have:=HZ.out;omega)));have hB2:=hide (show B≤w2.heap.size from Nat.le_trans hB1 b2.size);have hrd:=rd_out HI.out (by omega) (by omega:0<60000) HF.out (p2.dsk.len 0 (by decide)) (p2.dsk.len 2 (by decide));have hrd:rdL L S 0=(pgB 4 fr,0):=hrd.resolve_right (fun k=>by rw[HD.out] at k;cases k.1);have HRD:=hide (creadL 0 w2 B D G bp bf 60000 L S p2 (HI.out.okp (by omega)) (HI.out.okf (by omega)));rw[hrd] at HRD;have HP2:=hide (p2);clear p2 b2 b3 hrd HBG HB1 hB1;go_wp2_with fail
 refine HRD.out.mono ?_;rintro e w3⟨rfl,b3⟩;have HP3:=hide (HP2.out.below b3);have HB3:=hide (HB2.out.trans (b3.mono (Nat.le_trans HZ.out (Nat.le_trans (Nat.le_refl _) (by have:=HB2.out.size;exact this)))));have hB3:=hide (show B≤w3.heap.size from Nat.le_trans hB2.out b3.size);clear b3 HRD HP2;go_wp2_with fail
 refine(copenB (K:=4) (Lk:=fr) ⟨by decide,by decide⟩ hf _).mono ?_;rintro e w4⟨⟨a,c,rfl⟩,b4⟩;have HP4:=hide (HP3.out.below b4);have HB4:=hide (HB3.out.trans (b4.mono (Nat.le_trans HZ.out (by have:=HB3.out.size;exact this))));have hB4:=hide (show B≤w4.heap.size from Nat.le_trans hB3.out b4.size);have HPG:=hide (fun(W:World) (hW:Below w4.heap.size w4 W)=>cpages W B D G bp bf 60000 L S (HP4.out.below hW));clear b4 HP3;go_wp2_with fail
 go_region_with (go_at_call 29;refine(HPG.out _ ?hb).mono ?_;(case hb=>first | exact(((Below.refl _ _).alloc (Nat.le_refl _) _)).drew | exact((((Below.refl _ _).alloc (Nat.le_refl _) _).alloc (by simp) _)).drew | exact(((((Below.refl _ _).alloc (Nat.le_refl _) _).alloc (by simp) _).alloc (by simp;omega) _)).drew | exact((Below.refl _ _).alloc (Nat.le_refl _) _) | exact(((Below.refl _ _).alloc (Nat.le_refl _) _).alloc (by simp) _) | exact((((Below.refl _ _).alloc (Nat.le_refl _) _).alloc (by simp) _).alloc (by simp;omega) _));rintro e w9⟨rfl,hw⟩;rw[hw];clear hw)
 all_goals
  go_wp2
  go_ret2
  first
  | exact⟨_,⟨⟨G,bp,bf,_,_,.slice none 0 0⟩,newP most L.last.pages fr,L,S,F⟩,rfl,⟨(open_pack HP4.out hB4.out _ most L.last.pages fr (.inl ⟨rfl,rfl⟩)).1,HPI.out,Nat.le_trans hB4.out (open_pack HP4.out hB4.out _ most L.last.pages fr (.inl ⟨rfl,rfl⟩)).2.size⟩,rfl,rfl,rfl,HB4.out.trans ((open_pack HP4.out hB4.out _ most L.last.pages fr (.inl ⟨rfl,rfl⟩)).2.mono (Nat.le_trans HZ.out HB4.out.size))⟩
  | exact⟨_,⟨⟨G,bp,bf,_,_,.slice none 0 0⟩,newP most L.last.pages fr,L,S,F⟩,rfl,⟨(open_pack HP4.out hB4.out _ most L.last.pages fr (.inr ⟨rfl,rfl⟩)).1,HPI.out,Nat.le_trans hB4.out (open_pack HP4.out hB4.out _ most L.last.pages fr (.inr ⟨rfl,rfl⟩)).2.size⟩,rfl,rfl,rfl,HB4.out.trans ((open_pack HP4.out hB4.out _ most L.last.pages fr (.inr ⟨rfl,rfl⟩)).2.mono (Nat.le_trans HZ.out HB4.out.size))⟩
def L00:LS:=⟨⟨0,1,0,0⟩,0,fun _=>none,fun _=>none⟩
def K00:Pgs:=wth noP 0 (pgB 4 0)
theorem new_cm:∃L1 S1,cmL L00 newS ((0:Nat):Int) (pgB 4 0) ((1:Nat):Int)=(0,L1,S1)∧L1.last.pages=1∧Inv L1 S1 K00 K00 1∧NoF S1∧okS S1 8:=by
 have hn:NoF newS:=⟨rfl,rfl⟩;have hnf:=cmL_nf (L:=L00) hn ((0:Nat):Int) (pgB 4 0) ((1:Nat):Int);have hok:=cmL_ok (L:=L00) (S:=newS) (k:=4) ⟨⟨by decide,by decide⟩,by decide,by decide,by decide⟩ ((0:Nat):Int) (pgB 4 0) ((1:Nat):Int);rcases cm_out (n:=0) (pg:=1) inv_new (by omega) (by omega) (pgB_size 4 0) (by omega) (by omega) with⟨L1,S1,e1,d1,-⟩ | ⟨L1,S1,e1,d1,p1,I1⟩
 ·exfalso;have e1:cmL L00 newS ((0:Nat):Int) (pgB 4 0) ((1:Nat):Int)=(2,L1,S1):=e1;rw[e1] at hnf;have:=hnf.2;rw[d1] at this;cases this
 ·have e1:cmL L00 newS ((0:Nat):Int) (pgB 4 0) ((1:Nat):Int)=(0,L1,S1):=e1;rw[e1] at hnf hok;exact⟨L1,S1,e1,p1,I1,hnf,hok⟩
theorem cbegin_new (h:PL W B D G bp bf 60000 L00 newS)(hB:B≤W.heap.size){L1:LS}{S1:DS}(hc:cmL L00 newS ((0:Nat):Int) (pgB 4 0) ((1:Nat):Int)=(0,L1,S1))(hI:Inv L1 S1 K00 K00 1):Calls Tryz.prog 26 #[(.pointer (some ⟨G,0,none⟩))] W fun e w'=>e=.returned (.int .i64 0)∧PL w' B D G bp bf 60000 L1 S1∧Below B W w':=by
 have HC:=hide (cpages W B D G bp bf 60000 L00 newS h);have HP:=hide (h);have HB:=hide (hB);have HM:=hide (hc);have HI:=hide (hI);clear h hB hc hI;go_enter Tryz.func26,Tryz.ntmps26;go_wp2_with fail
 refine HC.out.mono ?_;rintro e w1⟨rfl,hw⟩;rw[hw];clear hw;have e0:((L00.last.pages:Nat):Int)=0:=rfl;rw[e0];go_wp2_with fail
 refine(csealB (K:=4) (Lk:=0) ⟨by decide,by decide⟩ (by decide) none 0 _).mono ?_;rintro e w2⟨rfl,b2⟩;have HP2:=hide (HP.out.below b2);have HB2:=hide (show B≤w2.heap.size from Nat.le_trans HB.out b2.size);have HBW:=hide (show Below B W w2 from b2.mono HB.out);have HCM:=hide (ccommit ((0:Nat):Int) (pgB 4 0) ((1:Nat):Int) w2 B D G bp bf 60000 4 L00 newS HP2.out HB2.out (by decide) ⟨⟨by decide,by decide⟩,by decide,by decide,by decide⟩ (by decide) (by decide) inv_new.pre.tp.ok);rw[HM.out] at HCM;clear b2;go_wp2_with fail
 refine HCM.out.mono ?_;rintro e w3⟨rfl,p3,b3⟩;have HP3:=hide (p3.small HI.out.pos HI.out.posF);have HB3:=hide (HBW.out.trans b3.toBelow);clear p3 b3 HCM;go_wp2;go_ret;exact⟨rfl,HP3.out,HB3.out⟩
theorem copen_first (h:PDs X B D newD)(hB:B≤X.heap.size):Calls Tryz.prog 6 #[(.pointer (some ⟨D,0,none⟩)),.int .i64 8] X fun e w'=>∃Gp V,e=.returned (.tuple #[(.pointer (some ⟨Gp,0,none⟩)),.int .i64 0])∧PO w' B D Gp V K00 K00 1 1∧NoF V.S∧V.P.pages=1∧V.P.free=0∧Below B X w':=by
 obtain⟨L1,S1,hc,p1,hI,hnf,hok⟩:=new_cm;obtain⟨T1,T2,T3,hS⟩:=beg_new;have:=copenP (X:=X) (B:=B) (D:=D) (Z:=B) (L0:=L00) (L:=L1) (S0:=newS) (S:=S1) (F:=K00) (j:=1) (k:=8) (m:=1) (fr:=0) 8 ⟨by decide,by decide⟩
  ((copen_new X B D 0 newD T1 T2 T3 newS h hB ⟨⟨by decide,by decide⟩,by decide,by decide,by decide⟩ (by decide) rfl new_last 0 rfl hS).mono (by
   rintro e w'⟨G,bp,bf,rfl,hL,hb⟩;exact⟨G,bp,bf,rfl,hL.mono (by omega),hb.toBelow⟩))
  (fun G bp bf W hW hBW=>(cbegin_new hW hBW hc hI).mono (by
   rintro e w'⟨rfl,hL,hb⟩;exact⟨rfl,hL,hb,hb.mono (by omega)⟩))
  hB hB hI (Nat.le_refl _) (by decide) hok (by decide) ⟨by omega,by omega⟩ (fun n n0 n1=>⟨pgB 4 0,by
   have:n=0:=by omega
   subst this;exact wth_at _ _ _,pgB_size _ _⟩) (by decide) (wth_at _ _ _) hnf.2
 refine this.mono ?_;rintro e w'⟨Gp,V,rfl,q1,q2,q3,q4,q5⟩;rw[p1] at q1 q3;exact⟨Gp,V,rfl,q1,by rw[q2];exact hnf,q3,q4,q5⟩
def kS (c:ByteArray):Nat:=1+bytS c 0
theorem kS_in (c:ByteArray):1≤kS c∧kS c≤256:=by have:=bytS_lt c 0;unfold kS;omega
def keyB (c:ByteArray):ByteArray:=c.extract 1 (kS c)
def restB (c:ByteArray):ByteArray:=c.extract (kS c) c.size
theorem ckeySize (c:ByteArray)(w:World)(hc:0<c.size)(hs:c.size≤1099511627776):Calls Tryz.prog 178 #[.string c] w fun e w'=>e=.returned (.int .i64 (kS c:Nat))∧w'=w:=by
 have h2:(0:Int)<(c.size:Int):=by omega
 have b0:=bytS_lt c 0;have g0:=bytS_get hc;have hk:((kS c:Nat):Int)=1+(bytS c 0:Int):=by unfold kS;omega
 rw[hk];go_enter Tryz.func178,Tryz.ntmps178;go_wp2;go_ret;exact⟨rfl,rfl⟩
theorem ckeyOf (c:ByteArray)(w:World)(hc:kS c≤c.size)(hs:c.size≤1099511627776):Calls Tryz.prog 149 #[.string c] w fun e w'=>e=.returned (.string (keyB c))∧w'=w:=by
 have hk:=kS_in c;have hsl:=fun X=>slice_lit c 1 (kS c) hk.1 hc X
 go_enter Tryz.func149,Tryz.ntmps149;go_wp2_with fail
 refine(ckeySize c _ (by omega) hs).mono ?_;rintro e w1⟨rfl,rfl⟩;go_wp2_with fail
 go_ret;exact⟨rfl,rfl⟩
theorem crestOf (c:ByteArray)(w:World)(hc:kS c≤c.size)(hs:c.size≤1099511627776):Calls Tryz.prog 176 #[.string c] w fun e w'=>e=.returned (.string (restB c))∧w'=w:=by
 have hk:=kS_in c;go_enter Tryz.func176,Tryz.ntmps176;go_wp2_with fail
 refine(ckeySize c _ (by omega) hs).mono ?_;rintro e w1⟨rfl,rfl⟩;go_wp2_with fail
 go_ret;exact⟨rfl,rfl⟩
theorem cfourT (n:Nat)(w:World):Calls Tryz.prog 183 #[.int .i64 n] w fun e w'=>e=.returned (.string (fourB n))∧Below w.heap.size w w':=by
 have ht:=four_text w n;go_enter Tryz.func183,Tryz.ntmps183;go_wp2;go_ret;exact⟨rfl,(Below.refl _ _).alloc (Nat.le_refl _) _⟩
theorem cmayBe (k:ByteArray)(w:World)(hs:k.size≤1099511627776):Calls Tryz.prog 50 #[.string k] w fun e w'=>e=.returned (.bool (decide (0<k.size∧k.size≤200)))∧w'=w:=by
 by_cases h1:0<k.size
 ·have k1:(0:Int)<(k.size:Int):=by omega
  by_cases h2:k.size≤200
  ·have k2:(k.size:Int)≤200:=by omega
   rw[decide_eq_true ⟨h1,h2⟩];go_enter Tryz.func50,Tryz.ntmps50;go_wp2;go_ret;exact⟨rfl,rfl⟩
  ·have k2:¬(k.size:Int)≤200:=by omega
   rw[decide_eq_false (fun h=>h2 h.2)];go_enter Tryz.func50,Tryz.ntmps50;go_wp2;go_ret;exact⟨rfl,rfl⟩
 ·have k1:¬(0:Int)<(k.size:Int):=by omega
  rw[decide_eq_false (fun h=>h1 h.1)];go_enter Tryz.func50,Tryz.ntmps50;go_wp2;go_ret;exact⟨rfl,rfl⟩
theorem cfits (k:ByteArray)(n:Nat)(w:World)(hs:k.size≤1099511627776)(hn:n≤1099511627776):Calls Tryz.prog 152 #[.string k,.int .i64 (n:Int)] w fun e w'=>e=.returned (.bool (decide (2+k.size+n≤240)))∧w'=w:=by
 by_cases h1:2+k.size+n≤240
 ·have k1:(2:Int)+(k.size:Int)+(n:Int)≤240:=by omega
  rw[decide_eq_true h1];go_enter Tryz.func152,Tryz.ntmps152;go_wp2;go_ret;exact⟨rfl,rfl⟩
 ·have k1:¬(2:Int)+(k.size:Int)+(n:Int)≤240:=by omega
  rw[decide_eq_false h1];go_enter Tryz.func152,Tryz.ntmps152;go_wp2;go_ret;exact⟨rfl,rfl⟩
theorem cpageOf (c:ByteArray)(w:World)(hc:4≤c.size)(hs:c.size≤1099511627776):Calls Tryz.prog 161 #[.string c] w fun e w'=>e=.returned (.int .i64 (numB c (c.size-4):Nat))∧w'=w:=by
 obtain⟨p,hp⟩:∃p,c.size=p+4:=⟨c.size-4,by omega⟩;have hp2:c.size-4=p:=by omega
 have hp3:wrap64 ((c.size:Int)-4)=(p:Int):=by unfold wrap64;omega
 rw[hp2];go_enter Tryz.func161,Tryz.ntmps161;go_wp2
 go_loop [3,4] (fun x y=>∃i:Nat,x=.int .i64 (numK c p i:Nat)∧y=.int .i64 ((p+i:Nat):Int)∧i≤4) (fun _ y=>p+4-(intOf y).toNat)
 case atStart=>exact⟨0,rfl,by go_num,by omega⟩
 case round =>
  obtain⟨k,rfl,rfl,hk⟩:=hrel;by_cases h0:k<4
  ·have h1:((p+k:Nat):Int)<(c.size:Int):=by omega
   have hks:p+k<c.size:=by omega
   have b0:=bytS_lt c (p+k);have g0:=bytS_get hks;have u0:=numK_7 c p (show k≤4 by omega);have h3:numK c p (k+1)=numK c p k*256+bytS c (p+k):=rfl;have hj:=join_i64 (numK c p k) (bytS c (p+k)) b0 u0;go_wp2
   go_round
   case rel=>exact⟨k+1,by rw[h3];first | rfl | go_num,by go_num,by omega⟩
   case measure=>simp[intOf];omega
  ·obtain rfl:k=4:=by omega
   have h1:¬((p+4:Nat):Int)<(c.size:Int):=by omega
   go_wp2;go_ret;exact⟨rfl,rfl⟩
def isKeyedB (c:ByteArray):Bool:=decide (0<c.size∧0<bytS c 0∧bytS c 0≤200∧kS c≤c.size)
theorem cisKeyed (c:ByteArray)(w:World)(hs:c.size≤1099511627776):Calls Tryz.prog 212 #[.string c] w fun e w'=>e=.returned (.bool (isKeyedB c))∧w'=w:=by
 unfold isKeyedB;by_cases h1:0<c.size
 ·have k1:(0:Int)<(c.size:Int):=by omega
  have g0:=bytS_get h1;have b0:=bytS_lt c 0;by_cases h2:0<bytS c 0
  ·have k2:(0:Int)<(bytS c 0:Int):=by omega
   by_cases h3:bytS c 0≤200
   ·have k3:(bytS c 0:Int)≤200:=by omega
    by_cases h4:kS c≤c.size
    ·have k4:((kS c:Nat):Int)≤(c.size:Int):=by omega
     rw[decide_eq_true ⟨h1,h2,h3,h4⟩];go_enter Tryz.func212,Tryz.ntmps212;go_wp2_with fail
     refine(ckeySize c _ h1 hs).mono ?_;rintro e w1⟨rfl,rfl⟩;go_wp2_with fail
     go_ret;exact⟨rfl,rfl⟩
    ·have k4:¬((kS c:Nat):Int)≤(c.size:Int):=by omega
     rw[decide_eq_false (fun h=>h4 h.2.2.2)];go_enter Tryz.func212,Tryz.ntmps212;go_wp2_with fail
     refine(ckeySize c _ h1 hs).mono ?_;rintro e w1⟨rfl,rfl⟩;go_wp2_with fail
     go_ret;exact⟨rfl,rfl⟩
   ·have k3:¬(bytS c 0:Int)≤200:=by omega
    rw[decide_eq_false (fun h=>h3 h.2.2.1)];go_enter Tryz.func212,Tryz.ntmps212;go_wp2_with fail
    go_ret;exact⟨rfl,rfl⟩
  ·have k2:¬(0:Int)<(bytS c 0:Int):=by omega
   rw[decide_eq_false (fun h=>h2 h.2.1)];go_enter Tryz.func212,Tryz.ntmps212;go_wp2_with fail
   go_ret;exact⟨rfl,rfl⟩
 ·have k1:¬(0:Int)<(c.size:Int):=by omega
  rw[decide_eq_false (fun h=>h1 h.1)];go_enter Tryz.func212,Tryz.ntmps212;go_wp2_with fail
  go_ret;exact⟨rfl,rfl⟩
open Go
theorem bl_irr:∀l:List UInt8,Op.bytesLess l l=false
 | []=>rfl
 | a::l=>by simp[Op.bytesLess,bl_irr l]
theorem bl_tr:∀{a b c:List UInt8},Op.bytesLess a b=true→Op.bytesLess b c=true→Op.bytesLess a c=true
 | [],[],_,h,_=>by simp[Op.bytesLess] at h
 | [],_::_,[],_,h=>by simp[Op.bytesLess] at h
 | [],_::_,_::_,_,_=>by simp[Op.bytesLess]
 | _::_,[],_,h,_=>by simp[Op.bytesLess] at h
 | _::_,_::_,[],_,h=>by simp[Op.bytesLess] at h
 | a :: x, b :: y, c :: z, h, k => by
  simp only[Op.bytesLess,Bool.or_eq_true,decide_eq_true_eq,Bool.and_eq_true,beq_iff_eq] at h k ⊢;rcases h with h | ⟨rfl,h⟩
  ·rcases k with k|⟨rfl,k⟩
   ·exact .inl (UInt8.lt_trans h k)
   ·exact .inl h
  ·rcases k with k|⟨rfl,k⟩
   ·exact .inl k
   ·exact .inr ⟨rfl,bl_tr h k⟩
theorem bl_tri:∀a b:List UInt8,Op.bytesLess a b=true∨a=b∨Op.bytesLess b a=true
 | [],[]=>.inr (.inl rfl)
 | [],_::_=>.inl (by simp[Op.bytesLess])
 | _::_,[]=>.inr (.inr (by simp[Op.bytesLess]))
 | a :: x, b :: y => by
  simp only[Op.bytesLess,Bool.or_eq_true,decide_eq_true_eq,Bool.and_eq_true,beq_iff_eq];by_cases h1:a<b
  ·exact .inl (.inl h1)
  ·by_cases h2:b<a
   ·exact .inr (.inr (.inl h2))
   ·have e:a=b:=by
     apply UInt8.toNat_inj.1;have a1:¬a.toNat<b.toNat:=fun h=>h1 (UInt8.lt_iff_toNat_lt.2 h)
     have a2:¬b.toNat<a.toNat:=fun h=>h2 (UInt8.lt_iff_toNat_lt.2 h)
     omega
    subst e;rcases bl_tri x y with h | h | h
    ·exact .inl (.inr ⟨rfl,h⟩)
    ·exact .inr (.inl (by rw[h]))
    ·exact .inr (.inr (.inr ⟨rfl,h⟩))
def klt (a b:ByteArray):Bool:=Op.bytesLess a.toList b.toList
theorem toList_inj (h:a.toList=b.toList):a=b:=by
 rw[ByteArray.toList_eq,ByteArray.toList_eq] at h;cases a;cases b;simp at h;rw[h]
theorem klt_irr (a:ByteArray):klt a a=false:=bl_irr _
theorem klt_tr {c:ByteArray}(h:klt a b=true)(k:klt b c=true):klt a c=true:=bl_tr h k
theorem klt_tri (a b:ByteArray):klt a b=true∨a=b∨klt b a=true:=(bl_tri a.toList b.toList).imp id (fun h=>h.imp toList_inj id)
theorem klt_asy (h:klt a b=true):klt b a=false:=by
 cases k:klt b a with
 | false=>rfl
 | true=>have:=klt_tr h k;rw[klt_irr] at this;cases this
theorem kle_lt {c:ByteArray}(h:klt b a=false)(k:klt b c=true):klt a c=true:=by
 rcases klt_tri a b with e|e|e
 ·exact klt_tr e k
 ·rw[e];exact k
 ·rw[h] at e;cases e
theorem klt_le {c:ByteArray}(h:klt a b=true)(k:klt c b=false):klt a c=true:=by
 rcases klt_tri b c with e|e|e
 ·exact klt_tr h e
 ·rw[←e];exact h
 ·rw[k] at e;cases e
theorem kle_tr {c:ByteArray}(h:klt b a=false)(k:klt c b=false):klt c a=false:=by
 cases e:klt c a with
 | false=>rfl
 | true=>have:=klt_le e h;rw[k] at this;cases this
def ltB (k h:ByteArray):Prop:=h=⟨#[]⟩∨klt k h=true
abbrev Ent:=ByteArray×ByteArray
structure It where
 key:ByteArray
 val:ByteArray
 pgs:List Nat
structure PgV where
 kind:Nat
 link:Nat
 cells:List ByteArray
structure Lf where
 num:Nat
 link:Nat
 its:List It
structure Inn (α:Type) where
 num:Nat
 kids:List (ByteArray×α)
@[reducible] def T:Nat→Type
 | 0=>Lf
 | d+1=>Inn (T d)
def keyedB (k:ByteArray):ByteArray:=⟨#[k.size.toUInt8]⟩++k
def inlineB (k v:ByteArray):ByteArray:=keyedB k++⟨#[0]⟩++v
def longB (k:ByteArray)(size n:Nat):ByteArray:=keyedB k++⟨#[1,(size/256).toUInt8,size.toUInt8]⟩++fourB n
def childB (k:ByteArray)(n:Nat):ByteArray:=keyedB k++fourB n
def cellI (i:It):ByteArray:=match i.pgs with
 | []=>inlineB i.key i.val
 | p::_=>longB i.key i.val.size p
def numT:(d:Nat)→T d→Nat
 | 0,t=>t.num
 | _+1,t=>t.num
def cellsT:(d:Nat)→T d→List ByteArray
 | 0,t=>t.its.map cellI
 | d+1,t=>t.kids.tail.map fun p=>childB p.1 (numT d p.2)
def linkT:(d:Nat)→T d→Nat
 | 0,t=>t.link
 | d + 1, t => match t.kids with
  | []=>0
  | p::_=>numT d p.2
def kindT:Nat→Nat
 | 0=>1
 | _+1=>2
def pgT (d:Nat)(t:T d):PgV:=⟨kindT d,linkT d t,cellsT d t⟩
def usedC (l:List ByteArray):Nat:=(l.map fun c=>4+c.size).sum
def valN:List Nat→List ByteArray→List (Nat×PgV)
 | p::ps,c::cs=>(p,⟨5,ps.headD 0,[c]⟩)::valN ps cs
 | _,_=>[]
def cuts (v:ByteArray):Nat→Nat→List ByteArray
 | _,0=>[]
 | a,n+1=>v.extract a (min (a+1008) v.size)::cuts v (a+1008) n
def piecesV (v:ByteArray):List ByteArray:=cuts v 0 ((v.size+1007)/1008)
def nodI (i:It):List (Nat×PgV):=valN i.pgs (piecesV i.val)
def nodT:(d:Nat)→T d→List (Nat×PgV)
 | 0,t=>(t.num,pgT 0 t)::t.its.flatMap nodI
 | d+1,t=>(t.num,pgT (d+1) t)::t.kids.flatMap fun p=>nodT d p.2
def entT:(d:Nat)→T d→List Ent
 | 0,t=>t.its.map fun i=>(i.key,i.val)
 | d+1,t=>t.kids.flatMap fun p=>entT d p.2
def lvsT:(d:Nat)→T d→List (Nat×Nat)
 | 0,t=>[(t.num,t.link)]
 | d+1,t=>t.kids.flatMap fun p=>lvsT d p.2
def okK (k:ByteArray):Prop:=0<k.size∧k.size≤200
structure okI (i:It):Prop where
 key:okK i.key
 val:i.val.size≤3000
 pgs:i.pgs.length=if 2+i.key.size+i.val.size≤240 then 0 else(i.val.size+1007)/1008
def BI (lo:ByteArray):List It→ByteArray→Prop
 | [],_=>True
 | i::r,hi=>okI i∧klt i.key lo=false∧ltB i.key hi∧(∀j∈r,klt i.key j.key=true)∧BI lo r hi
def nxt (s:List (ByteArray×α))(hi:ByteArray):ByteArray:=match s with
 | []=>hi
 | p::_=>p.1
def BS (B:ByteArray→ByteArray→α→Prop):List (ByteArray×α)→ByteArray→Prop
 | [],_=>True
 | p::r,hi=>ltB p.1 (nxt r hi)∧B p.1 (nxt r hi) p.2∧(∀q∈r,okK q.1)∧BS B r hi
def Bnd:(d:Nat)→ByteArray→ByteArray→T d→Prop
 | 0,lo,hi,t=>BI lo t.its hi
 | d+1,lo,hi,t=>(∃p r,t.kids=p::r∧p.1=lo)∧BS (Bnd d) t.kids hi
def FilN:(d:Nat)→T d→Prop
 | 0,t=>180≤usedC (cellsT 0 t)∧usedC (cellsT 0 t)≤1012
 | d+1,t=>(180≤usedC (cellsT (d+1) t)∧usedC (cellsT (d+1) t)≤1012)∧∀p∈t.kids,FilN d p.2
def FilK:(d:Nat)→T d→Prop
 | 0,_=>True
 | d+1,t=>∀p∈t.kids,FilN d p.2
theorem FilN_iff (d:Nat)(t:T d):FilN d t↔(180≤usedC (cellsT d t)∧usedC (cellsT d t)≤1012)∧FilK d t:=by
 cases d with
 | zero=>exact⟨fun h=>⟨h,trivial⟩,fun h=>h.1⟩
 | succ d=>exact Iff.rfl
def Cxs:Nat→Nat→Type
 | 0,_=>Unit
 | h+1,d=>(Nat×List (ByteArray×T d)×ByteArray×List (ByteArray×T d))×Cxs h (d+1)
structure Cx (d:Nat) where
 h:Nat
 v:Cxs h d
def Cx.top (d:Nat):Cx d:=⟨0,()⟩
def Cx.up (num:Nat)(s1:List (ByteArray×T d))(k:ByteArray)(s2:List (ByteArray×T d))(c:Cx (d+1)):Cx d:=⟨c.h+1,(num,s1,k,s2),c.v⟩
theorem Cx.ind0 {P:(d:Nat)→Cx d→Prop}(ht:∀d,P d (.top d))(hu:∀d num s1 k s2 c,P (d+1) c→P d (.up num s1 k s2 c)):∀(h:Nat) (d:Nat) (v:Cxs h d),P d ⟨h,v⟩
 | 0,d,_=>ht d
 | h+1,d,v=>hu d v.1.1 v.1.2.1 v.1.2.2.1 v.1.2.2.2 ⟨h,v.2⟩ (Cx.ind0 ht hu h (d+1) v.2)
theorem Cx.ind {P:(d:Nat)→Cx d→Prop}(ht:∀d,P d (.top d))(hu:∀d num s1 k s2 c,P (d+1) c→P d (.up num s1 k s2 c))(c:Cx d):P d c:=Cx.ind0 ht hu c.h d c.v
def fdS (t:Nat→α)(u:(d:Nat)→Nat→List (ByteArray×T d)→ByteArray→List (ByteArray×T d)→Cx (d+1)→α→α):(h:Nat)→(d:Nat)→Cxs h d→α
 | 0,d,_=>t d
 | h+1,d,v=>u d v.1.1 v.1.2.1 v.1.2.2.1 v.1.2.2.2 ⟨h,v.2⟩ (fdS t u h (d+1) v.2)
def Cx.fd (c:Cx d)(t:Nat→α)(u:(d:Nat)→Nat→List (ByteArray×T d)→ByteArray→List (ByteArray×T d)→Cx (d+1)→α→α):α:=fdS t u c.h d c.v
def frm (num:Nat)(s1:List (ByteArray×T d))(k:ByteArray)(x:T d)(s2:List (ByteArray×T d)):T (d+1):=⟨num,s1++(k,x)::s2⟩
def entS (s:List (ByteArray×T d)):List Ent:=s.flatMap fun p=>entT d p.2
def lvsS (s:List (ByteArray×T d)):List (Nat×Nat):=s.flatMap fun p=>lvsT d p.2
def nodS (s:List (ByteArray×T d)):List (Nat×PgV):=s.flatMap fun p=>nodT d p.2
def Cx.pre (c:Cx d):List Ent:=c.fd (fun _=>[]) fun _ _ s1 _ _ _ r=>r++entS s1
def Cx.suf (c:Cx d):List Ent:=c.fd (fun _=>[]) fun _ _ _ _ s2 _ r=>entS s2++r
def Cx.lpre (c:Cx d):List (Nat×Nat):=c.fd (fun _=>[]) fun _ _ s1 _ _ _ r=>r++lvsS s1
def Cx.lsuf (c:Cx d):List (Nat×Nat):=c.fd (fun _=>[]) fun _ _ _ _ s2 _ r=>lvsS s2++r
def Cx.root (c:Cx d):Nat→Nat:=c.fd (fun _ n=>n) fun _ num _ _ _ _ r _=>r num
def Cx.dep (c:Cx d):Nat:=c.fd (fun d=>d) fun _ _ _ _ _ _ r=>r
def frP (s1:List (ByteArray×T d))(k:ByteArray)(s2:List (ByteArray×T d))(n:Nat):PgV:=
 let l:=s1.map (fun p=>(p.1,numT d p.2))++(k,n)::s2.map (fun p=>(p.1,numT d p.2))
 ⟨2,(l.headD (k,n)).2,l.tail.map fun p=>childB p.1 p.2⟩
theorem frP_eq (num:Nat)(s1:List (ByteArray×T d))(k:ByteArray)(x:T d)(s2:List (ByteArray×T d)):frP s1 k s2 (numT d x)=pgT (d+1) (frm num s1 k x s2):=by
 cases s1 with
 | nil=>simp[frP,pgT,kindT,linkT,cellsT,frm]
 | cons p r=>simp[frP,pgT,kindT,linkT,cellsT,frm,Function.comp_def]
def Cx.nod (c:Cx d):Nat→List (Nat×PgV):=c.fd (fun _ _=>[]) fun _ num s1 k s2 _ r n=>(num,frP s1 k s2 n)::(nodS s1++nodS s2)++r num
def Cx.bnd (c:Cx d):ByteArray→ByteArray→Prop:=c.fd (fun _ lo hi=>lo=⟨#[]⟩∧hi=⟨#[]⟩) fun d _ s1 k s2 _ r lo hi=>∃lo' hi',r lo' hi'∧lo=k∧hi=nxt s2 hi'∧BS (Bnd d) s1 k∧BS (Bnd d) s2 hi'∧ltB k (nxt s2 hi')∧nxt s1 k=lo'∧(∀q∈s2,okK q.1)∧(∀q∈s1.tail,okK q.1)∧(s1=[]∨okK k)
def Cx.isTop (c:Cx d):Bool:=c.fd (fun _=>true) fun _ _ _ _ _ _ _=>false
def Cx.fil (c:Cx d):Prop:=c.fd (fun _=>True) fun d _ s1 k s2 c r=>(∀p∈s1,FilN d p.2)∧(∀p∈s2,FilN d p.2)∧((c.isTop=true∨180≤usedC (frP s1 k s2 0).cells)∧usedC (frP s1 k s2 0).cells≤1012)∧r
def Cx.two (c:Cx d):Prop:=c.fd (fun _=>True) fun _ _ s1 _ s2 _ r=>¬(s1=[]∧s2=[])∧r
section
variable {n:Nat}{s1 s2:List (ByteArray×T d)}{c:Cx (d+1)}
theorem pre1:(Cx.top d).pre=[]:=rfl
theorem pre2:(Cx.up num s1 k s2 c).pre=c.pre++entS s1:=rfl
theorem suf1:(Cx.top d).suf=[]:=rfl
theorem suf2:(Cx.up num s1 k s2 c).suf=entS s2++c.suf:=rfl
theorem lpre1:(Cx.top d).lpre=[]:=rfl
theorem lpre2:(Cx.up num s1 k s2 c).lpre=c.lpre++lvsS s1:=rfl
theorem lsuf1:(Cx.top d).lsuf=[]:=rfl
theorem lsuf2:(Cx.up num s1 k s2 c).lsuf=lvsS s2++c.lsuf:=rfl
theorem fil2:(Cx.up num s1 k s2 c).fil↔(∀p∈s1,FilN d p.2)∧(∀p∈s2,FilN d p.2)∧((c.isTop=true∨180≤usedC (frP s1 k s2 0).cells)∧usedC (frP s1 k s2 0).cells≤1012)∧c.fil:=Iff.rfl
theorem bnd2:(Cx.up num s1 k s2 c).bnd lo hi↔∃lo' hi',c.bnd lo' hi'∧lo=k∧hi=nxt s2 hi'∧BS (Bnd d) s1 k∧BS (Bnd d) s2 hi'∧ltB k (nxt s2 hi')∧nxt s1 k=lo'∧(∀q∈s2,okK q.1)∧(∀q∈s1.tail,okK q.1)∧(s1=[]∨okK k):=Iff.rfl
theorem nod1:(Cx.top d).nod n=[]:=rfl
theorem nod2:(Cx.up num s1 k s2 c).nod n=(num,frP s1 k s2 n)::(nodS s1++nodS s2)++c.nod num:=rfl
end
def hdL (l:List (Nat×Nat))(nx:Nat):Nat:=match l with
 | []=>nx
 | p::_=>p.1
def lk:List (Nat×Nat)→Nat→Prop
 | [],_=>True
 | p::r,nx=>p.2=hdL r nx∧lk r nx
theorem lk_app:∀(a b:List (Nat×Nat)) (nx:Nat),lk (a++b) nx↔lk a (hdL b nx)∧lk b nx
 | [],b,nx=>by simp[lk]
 | p :: r, b, nx => by
  have e:hdL (r++b) nx=hdL r (hdL b nx):=by cases r<;>rfl
  simp only[List.cons_append,lk,lk_app r b nx,e];constructor
  ·rintro⟨h1,h2,h3⟩;exact⟨⟨h1,h2⟩,h3⟩
  ·rintro⟨⟨h1,h2⟩,h3⟩;exact⟨h1,h2,h3⟩
theorem hdL_app (a b:List (Nat×Nat))(nx:Nat):hdL (a++b) nx=hdL a (hdL b nx):=by cases a<;>rfl
theorem usedC_app (a b:List ByteArray):usedC (a++b)=usedC a+usedC b:=by simp[usedC]
theorem usedC_cons (a:ByteArray)(b:List ByteArray):usedC (a::b)=4+a.size+usedC b:=by simp[usedC]
theorem nxt_app (a b:List (ByteArray×α))(hi:ByteArray):nxt (a++b) hi=nxt a (nxt b hi):=by cases a<;>rfl
theorem BS_app {B:ByteArray→ByteArray→α→Prop}:∀(a b:List (ByteArray×α)) (hi:ByteArray),BS B (a++b) hi↔BS B a (nxt b hi)∧BS B b hi∧(a=[]∨∀q∈b,okK q.1)
 | [],b,hi=>by simp[BS]
 | p :: r, b, hi => by
  simp only[List.cons_append,BS,BS_app r b hi,nxt_app,List.mem_append];constructor
  ·rintro⟨h1,h2,h3,h4,h5,h6⟩;exact⟨⟨h1,h2,fun q hq=>h3 q (.inl hq),h4⟩,h5,.inr fun q hq=>h3 q (.inr hq)⟩
  ·rintro⟨⟨h1,h2,h3,h4⟩,h5,h6⟩;have h6:∀q∈b,okK q.1:=h6.resolve_left (by simp);exact⟨h1,h2,fun q hq=>hq.elim (h3 q) (h6 q),h4,h5,.inr h6⟩
theorem BI_app:∀(a b:List It) (hi:ByteArray),BI lo (a++b) hi↔BI lo a hi∧BI lo b hi∧∀x∈a,∀y∈b,klt x.key y.key=true
 | [],b,hi=>by simp[BI]
 | p :: r, b, hi => by
  simp only[List.cons_append,BI,BI_app r b hi,List.mem_append,List.mem_cons];constructor
  ·rintro⟨h1,h2,h3,h4,h5,h6,h7⟩;exact⟨⟨h1,h2,h3,fun j hj=>h4 j (.inl hj),h5⟩,h6,fun x hx y hy=>by
    rcases hx with rfl|hx
    ·exact h4 y (.inr hy)
    ·exact h7 x hx y hy⟩
  ·rintro⟨⟨h1,h2,h3,h4,h5⟩,h6,h7⟩;exact⟨h1,h2,h3,fun j hj=>hj.elim (h4 j) (fun hj=>h7 p (.inl rfl) j hj),h5,h6,fun x hx y hy=>h7 x (.inr hx) y hy⟩
theorem BI_mem:∀{l:List It} {hi:ByteArray},BI lo l hi→∀i∈l,okI i∧klt i.key lo=false∧ltB i.key hi
 | _ :: _, hi, ⟨h1, h2, h3, _, h5⟩, i, hm => by
  rcases List.mem_cons.1 hm with rfl|hm
  ·exact⟨h1,h2,h3⟩
  ·exact BI_mem h5 i hm
theorem BI_re {lo' hi':ByteArray}:∀{l:List It},BI lo l hi→(∀i∈l,klt i.key lo'=false∧ltB i.key hi')→BI lo' l hi'
 | [],_,_=>trivial
 | p::_,⟨h1,_,_,h4,h5⟩,h=>⟨h1,(h p (List.mem_cons_self ..)).1,(h p (List.mem_cons_self ..)).2,h4,BI_re h5 fun i hi=>h i (List.mem_cons_of_mem _ hi)⟩
theorem ltB_ne (h:ltB a b)(hb:okK b):klt a b=true:=h.resolve_left (fun e=>by rw[e] at hb;exact absurd hb.1 (by decide))
theorem bs_ltB:∀(d:Nat) (s:List (ByteArray×T d)) (hi:ByteArray),BS (Bnd d) s hi→¬s=[]→ltB (nxt s hi) hi
 | d,[p],hi,⟨h1,_⟩,_=>h1
 | d, p :: q :: r, hi, ⟨h1, _, h3, h4⟩, _ => by
  have hq:klt p.1 q.1=true:=ltB_ne h1 (h3 q (List.mem_cons_self ..));have h5:ltB q.1 hi:=bs_ltB d (q::r) hi h4 (by simp);exact h5.imp id (fun k=>klt_tr hq k)
theorem entS_of (d:Nat)(ih:∀(lo hi:ByteArray) (t:T d),Bnd d lo hi t→∀e∈entT d t,klt e.1 lo=false∧ltB e.1 hi∧okK e.1):∀(s:List (ByteArray×T d)) (hi:ByteArray),BS (Bnd d) s hi→∀e∈s.flatMap (fun p=>entT d p.2),klt e.1 (nxt s hi)=false∧ltB e.1 hi∧okK e.1
 | p :: r, hi, ⟨h1, h2, h3, h4⟩, e, he => by
  rw[List.flatMap_cons,List.mem_append] at he;rcases he with he | he
  ·have:=ih p.1 (nxt r hi) p.2 h2 e he;refine⟨this.1,?_,this.2.2⟩;cases r with
   | nil=>exact this.2.1
   | cons q r =>
    have hq:klt e.1 q.1=true:=ltB_ne this.2.1 (h3 q (List.mem_cons_self ..));have hq':ltB q.1 hi:=bs_ltB d (q::r) hi h4 (by simp);exact hq'.imp id (fun k=>klt_tr hq k)
  ·have:=entS_of d ih r hi h4 e he;refine⟨?_,this.2⟩;cases r with
   | nil=>simp at he
   | cons q r =>
    have hq:klt p.1 q.1=true:=ltB_ne h1 (h3 q (List.mem_cons_self ..));have h9:klt e.1 q.1=false:=this.1;exact kle_tr (klt_asy hq) h9
theorem ent_in:∀(d:Nat) (lo hi:ByteArray) (t:T d),Bnd d lo hi t→∀e∈entT d t,klt e.1 lo=false∧ltB e.1 hi∧okK e.1
 | 0, lo, hi, t, h, e, he => by
  simp only[entT,List.mem_map] at he;obtain⟨i,hi',rfl⟩:=he;have:=BI_mem h i hi';exact⟨this.2.1,this.2.2,this.1.key⟩
 | d + 1, lo, hi, t, ⟨⟨p, r, hk, hp⟩, hb⟩, e, he => by
  have:=entS_of d (ent_in d) t.kids hi hb e he;rw[hk] at this;have h1:klt e.1 p.1=false:=this.1;rw[hp] at h1;exact⟨h1,this.2⟩
theorem entS_in (d:Nat)(s:List (ByteArray×T d))(hi:ByteArray):BS (Bnd d) s hi→∀e∈s.flatMap (fun p=>entT d p.2),klt e.1 (nxt s hi)=false∧ltB e.1 hi∧okK e.1:=entS_of d (ent_in d) s hi
structure WfB {d:Nat} (c:Cx d) (x:T d) (es:List Ent):Prop where
 bnd:∃lo hi,c.bnd lo hi∧Bnd d lo hi x
 fil:c.fil
 ent:c.pre++entT d x++c.suf=es
 lks:lk (c.lpre++lvsT d x++c.lsuf) 0
theorem entS_app (a b:List (ByteArray×T d)):entS (a++b)=entS a++entS b:=by simp[entS]
theorem lvsS_app (a b:List (ByteArray×T d)):lvsS (a++b)=lvsS a++lvsS b:=by simp[lvsS]
theorem nodS_app (a b:List (ByteArray×T d)):nodS (a++b)=nodS a++nodS b:=by simp[nodS]
theorem entT_s (t:T (d+1)):entT (d+1) t=entS t.kids:=rfl
theorem lvsT_s (t:T (d+1)):lvsT (d+1) t=lvsS t.kids:=rfl
theorem entS_cons (p:ByteArray×T d)(b:List (ByteArray×T d)):entS (p::b)=entT d p.2++entS b:=by simp[entS]
theorem lvsS_cons (p:ByteArray×T d)(b:List (ByteArray×T d)):lvsS (p::b)=lvsT d p.2++lvsS b:=by simp[lvsS]
theorem nodS_cons (p:ByteArray×T d)(b:List (ByteArray×T d)):nodS (p::b)=nodT d p.2++nodS b:=by simp[nodS]
theorem nodT_eq:∀(d:Nat) (t:T d),nodT d t=(numT d t,pgT d t)::(nodT d t).tail
 | 0,_=>rfl
 | _+1,_=>rfl
theorem nodT_s (t:T (d+1)):(nodT (d+1) t).tail=nodS t.kids:=rfl
theorem fourB_sz (n:Nat):(fourB n).size=4:=by unfold fourB;rfl
theorem keyedB_sz (k:ByteArray):(keyedB k).size=1+k.size:=by unfold keyedB;rw[ByteArray.size_append];rfl
theorem childB_sz (k:ByteArray)(n:Nat):(childB k n).size=5+k.size:=by unfold childB;rw[ByteArray.size_append,keyedB_sz,fourB_sz];omega
theorem WfB.up {s1 s2:List (ByteArray×T d)}{c:Cx (d+1)}{x:T d}{es:List Ent}(h:WfB (.up num s1 k s2 c) x es):WfB c (frm num s1 k x s2) es:=by
 obtain⟨lo,hi,⟨lo',hi',b1,e1,e2,b2,b3,b4,b5,b6,b7,b8⟩,hx⟩:=h.bnd;rw[e1,e2] at hx;refine⟨⟨lo',hi',b1,?_,?_⟩,h.fil.2.2.2,?_,?_⟩
 ·cases s1 with
  | nil=>exact⟨(k,x),s2,rfl,b5⟩
  | cons p r=>exact⟨p,r++(k,x)::s2,rfl,b5⟩
 ·show BS (Bnd d) (s1++(k,x)::s2) hi';rw[BS_app];refine⟨b2,⟨b4,hx,b6,b3⟩,?_⟩;rcases b8 with b8 | b8
  ·exact .inl b8
  ·exact .inr fun q hq=>by
    rcases List.mem_cons.1 hq with rfl|hq
    ·exact b8
    ·exact b6 q hq
 ·rw[entT_s];show c.pre++entS (s1++(k,x)::s2)++c.suf=es;rw[←h.ent,entS_app,entS_cons];simp[pre2,suf2]
 ·have:=h.lks;simp only[lpre2,lsuf2] at this;rw[lvsT_s];show lk (c.lpre++lvsS (s1++(k,x)::s2)++c.lsuf) 0;rw[lvsS_app,lvsS_cons];simpa using this
theorem WfB.down {s1 s2:List (ByteArray×T d)}{c:Cx (d+1)}{x:T d}{es:List Ent}(h:WfB c (frm num s1 k x s2) es)(hk:∀p∈s1++(k,x)::s2,FilN d p.2)(h1:(c.isTop=true∨180≤usedC (cellsT (d+1) (frm num s1 k x s2)))∧usedC (cellsT (d+1) (frm num s1 k x s2))≤1012):WfB (.up num s1 k s2 c) x es:=by
 obtain⟨lo',hi',b1,⟨p0,r0,e0,b5⟩,hb⟩:=h.bnd;have hb:BS (Bnd d) (s1++(k,x)::s2) hi':=hb;rw[BS_app] at hb;obtain⟨b2,⟨b4,hx,b6,b3⟩,b8⟩:=hb;have e0:s1++(k,x)::s2=p0::r0:=e0;have hu:∀n m,usedC (frP s1 k s2 n).cells=usedC (frP s1 k s2 m).cells:=fun n m=>by
  have hc:∀q:ByteArray,(childB q n).size=(childB q m).size:=fun q=>by rw[childB_sz,childB_sz]
  cases s1 with
  | nil=>simp[frP,usedC]
  | cons p r=>simp[frP,usedC,hc]
 have hq:usedC (frP s1 k s2 0).cells=usedC (cellsT (d+1) (frm num s1 k x s2)):=by
  rw[hu 0 (numT d x),frP_eq num];rfl
 refine⟨⟨k,nxt s2 hi',bnd2.2 ⟨lo',hi',b1,rfl,rfl,b2,b3,b4,?_,b6,?_,?_⟩,hx⟩,fil2.2 ⟨fun p hp=>hk p (by simp[hp]),fun p hp=>hk p (by simp[hp]),by rw[hq];exact h1,h.fil⟩,?_,?_⟩
 ·cases s1 with
  | nil=>simp at e0;rw[←b5,←e0.1];rfl
  | cons p r=>simp at e0;rw[←b5,←e0.1];rfl
 ·intro q hq;cases s1 with
  | nil=>simp at hq
  | cons p r=>exact b2.2.2.1 q hq
 ·rcases b8 with b8|b8
  ·exact .inl b8
  ·exact .inr (b8 (k,x) (List.mem_cons_self ..))
 ·have:=h.ent;rw[entT_s] at this;have this:c.pre++entS (s1++(k,x)::s2)++c.suf=es:=this;rw[←this,entS_app,entS_cons];simp[pre2,suf2]
 ·have:=h.lks;rw[lvsT_s] at this;have this:lk (c.lpre++lvsS (s1++(k,x)::s2)++c.lsuf) 0:=this;rw[lvsS_app,lvsS_cons] at this;simpa[lpre2,lsuf2] using this
theorem WfB.repl {s1 g m s2:List (ByteArray×T d)}{c:Cx (d+1)}{es:List Ent}(h:WfB c (⟨num,s1++g++s2⟩:Inn (T d)) es)(hg:¬g=[])(hm:¬m=[])(hn:∀hi,nxt m hi=nxt g hi)(hb:∀hi,BS (Bnd d) g hi→BS (Bnd d) m hi)(hk:∀q∈m.tail,okK q.1)(he:entS m=entS g)(hl:∀nx,lk (lvsS g) nx→lk (lvsS m) nx∧hdL (lvsS m) nx=hdL (lvsS g) nx):WfB c (⟨num,s1++m++s2⟩:Inn (T d)) es:=by
 obtain⟨lo',hi',b1,⟨p0,r0,e0,b5⟩,h2⟩:=h.bnd;have h2:BS (Bnd d) (s1++g++s2) hi':=h2;rw[List.append_assoc,BS_app,BS_app] at h2;obtain⟨a1,⟨a2,a3,a4⟩,a5⟩:=h2;have a4:∀q∈s2,okK q.1:=a4.resolve_left hg;have hfirst:∀hi,nxt (s1++m++s2) hi=nxt (s1++g++s2) hi:=fun hi=>by
  rw[nxt_app,nxt_app,nxt_app,nxt_app,hn]
 refine⟨⟨lo',hi',b1,?_,?_⟩,h.fil,?_,?_⟩
 ·have e0:s1++g++s2=p0::r0:=e0;have:=hfirst ⟨#[]⟩;rw[e0] at this;show ∃p r,s1++m++s2=p::r∧p.1=lo';cases hq:s1++m++s2 with
  | nil=>simp at hq;exact absurd hq.2.1 hm
  | cons p r =>
   rw[hq] at this;exact⟨p,r,rfl,by rw[←b5];exact this⟩
 ·show BS (Bnd d) (s1++m++s2) hi';rw[List.append_assoc,BS_app,BS_app];refine⟨?_,⟨hb _ a2,a3,.inr a4⟩,?_⟩
  ·rw[nxt_app,hn,←nxt_app];exact a1
  ·rcases a5 with a5|a5
   ·exact .inl a5
   ·refine .inr fun q hq=>?_
    rcases List.mem_append.1 hq with hq|hq
    ·cases m with
     | nil=>exact absurd rfl hm
     | cons p r =>
      rcases List.mem_cons.1 hq with rfl|hq
      ·cases g with
       | nil=>exact absurd rfl hg
       | cons p' r' =>
        have e:=hn ⟨#[]⟩;have e:q.1=p'.1:=e;rw[e];exact a5 p' (by simp)
      ·exact hk q hq
    ·exact a4 q hq
 ·rw[←h.ent,entT_s,entT_s];show c.pre++entS (s1++m++s2)++c.suf=c.pre++entS (s1++g++s2)++c.suf;rw[entS_app,entS_app,entS_app,entS_app,he]
 ·have:=h.lks;rw[lvsT_s] at this ⊢;have this:lk (c.lpre++lvsS (s1++g++s2)++c.lsuf) 0:=this;show lk (c.lpre++lvsS (s1++m++s2)++c.lsuf) 0;simp only[lvsS_app,List.append_assoc,lk_app,hdL_app] at this ⊢;obtain⟨l1,l2,l3,l4⟩:=this;obtain⟨m1,m2⟩:=hl _ l3;rw[m2];exact⟨l1,l2,m1,l4⟩
def splT:(d:Nat)→Nat→Nat→T d→T d×ByteArray×T d
 | 0,m,r,x=>(⟨x.num,r,x.its.take m⟩,((x.its.drop m).head?.map (·.key)).getD ⟨#[]⟩,⟨r,x.link,x.its.drop m⟩)
 | _+1,m,r,x=>(⟨x.num,x.kids.take (m+1)⟩,((x.kids.drop (m+1)).head?.map (·.1)).getD ⟨#[]⟩,⟨r,x.kids.drop (m+1)⟩)
def mrgT:(d:Nat)→T d→T d→T d
 | 0,a,b=>⟨a.num,b.link,a.its++b.its⟩
 | _+1,a,b=>⟨a.num,a.kids++b.kids⟩
theorem spl_num (d m r:Nat)(x:T d):numT d (splT d m r x).1=numT d x∧numT d (splT d m r x).2.2=r:=by
 cases d<;>exact⟨rfl,rfl⟩
theorem mrg_num (d:Nat)(a b:T d):numT d (mrgT d a b)=numT d a:=by cases d<;>rfl
theorem BI_lt {a:List It}{i:It}{b:List It}(h:BI lo (a++i::b) hi)(ha:¬a=[]):klt lo i.key=true:=by
 cases a with
 | nil=>exact absurd rfl ha
 | cons j a =>
  have h1:=h.2.2.2.1 i (by simp);exact kle_lt h.2.1 h1
theorem spl_bnd (d m r:Nat)(x:T d)(h:ltB k hi∧Bnd d k hi x)(hm:0<m∧m<(cellsT d x).length):okK (splT d m r x).2.1∧BS (Bnd d) [(k,(splT d m r x).1),((splT d m r x).2.1,(splT d m r x).2.2)] hi:=by
 cases d with
 | zero =>
  obtain⟨hk,hb⟩:=h;have hl:m<x.its.length:=by simpa[cellsT] using hm.2
  have e:x.its=x.its.take m++x.its[m]::x.its.drop (m+1):=by rw[←List.drop_eq_getElem_cons hl,List.take_append_drop]
  have hb:BI k x.its hi:=hb;have hb2:=hb;rw[e] at hb2;have hlt:=BI_lt hb2 (fun h=>by have:=congrArg List.length h;simp at this;rcases this with this | this<;>(first | omega | (rw[this] at hl;simp at hl)));obtain⟨b1,b2,b3⟩:=(BI_app _ _ _).1 hb2;have hd:(splT 0 m r x).2.1=x.its[m].key:=by show((x.its.drop m).head?.map (·.key)).getD _=_;rw[List.drop_eq_getElem_cons hl];rfl
  have hr:(splT 0 m r x).2.2=⟨r,x.link,x.its[m]::x.its.drop (m+1)⟩:=by rw[←List.drop_eq_getElem_cons hl];rfl
  rw[hd,hr];refine⟨b2.1.key,.inr hlt,?_,fun q hq=>?_,?_,?_,fun q hq=>by simp at hq,trivial⟩
  ·refine BI_re b1 fun i hi'=>⟨(BI_mem b1 i hi').2.1,.inr (b3 i hi' _ (List.mem_cons_self ..))⟩
  ·simp at hq;rw[hq];exact b2.1.key
  ·exact b2.2.2.1
  ·refine BI_re b2 fun i hi'=>⟨?_,(BI_mem b2 i hi').2.2⟩
   rcases List.mem_cons.1 hi' with rfl|hi'
   ·exact klt_irr _
   ·exact klt_asy (b2.2.2.2.1 i hi')
 | succ d =>
  obtain⟨hk,⟨p0,r0,e0,hp0⟩,hb⟩:=h;have hl:m+1<x.kids.length:=by have:=hm.2;simp[cellsT] at this;omega
  have e:x.kids=x.kids.take (m+1)++x.kids[m+1]::x.kids.drop (m+1+1):=by rw[←List.drop_eq_getElem_cons hl,List.take_append_drop]
  have hd:(splT (d+1) m r x).2.1=x.kids[m+1].1:=by show((x.kids.drop (m+1)).head?.map (·.1)).getD _=_;rw[List.drop_eq_getElem_cons hl];rfl
  have hr:(splT (d+1) m r x).2.2=(⟨r,x.kids[m+1]::x.kids.drop (m+1+1)⟩:Inn (T d)):=by rw[←List.drop_eq_getElem_cons hl];rfl
  have hb:BS (Bnd d) x.kids hi:=hb;have hb2:BS (Bnd d) (x.kids.take (m+1)++x.kids[m+1]::x.kids.drop (m+1+1)) hi:=by rw[←e];exact hb
  rw[BS_app] at hb2;obtain⟨b1,b2,b3⟩:=hb2;have hne:¬x.kids.take (m+1)=[]:=fun h=>by have:=congrArg List.length h;simp at this;rw[this] at hl;simp at hl
  have b3:=b3.resolve_left hne;have hok:=b3 _ (List.mem_cons_self ..);have hlo:∀q:ByteArray,nxt (x.kids.take (m+1)) q=k:=fun q=>by rw[e0];exact hp0
  have hlo2:∃p r,x.kids.take (m+1)=p::r∧p.1=k:=⟨p0,r0.take m,by rw[e0];rfl,hp0⟩;rw[hd,hr];refine⟨hok,?_,⟨?_,b1⟩,fun q hq=>?_,?_,⟨⟨_,_,rfl,rfl⟩,b2⟩,fun q hq=>by simp at hq,trivial⟩
  ·have:=bs_ltB d _ _ b1 hne;rw[hlo] at this;exact this
  ·exact hlo2
  ·simp at hq;rw[hq];exact hok
  ·exact bs_ltB d _ _ b2 (List.cons_ne_nil _ _)
theorem spl_ent (d m r:Nat)(x:T d):entT d (splT d m r x).1++entT d (splT d m r x).2.2=entT d x:=by
 cases d with
 | zero=>simp[splT,entT]
 | succ d=>rw[entT_s,entT_s,entT_s,←entS_app];simp[splT]
theorem spl_lvs (d m r:Nat)(x:T d)(nx:Nat)(h:lk (lvsT d x) nx):lk (lvsT d (splT d m r x).1++lvsT d (splT d m r x).2.2) nx∧hdL (lvsT d (splT d m r x).1++lvsT d (splT d m r x).2.2) nx=hdL (lvsT d x) nx:=by
 cases d with
 | zero=>exact⟨⟨rfl,h.1,trivial⟩,rfl⟩
 | succ d =>
  have e:lvsT (d+1) (splT (d+1) m r x).1++lvsT (d+1) (splT (d+1) m r x).2.2=lvsT (d+1) x:=by rw[lvsT_s,lvsT_s,lvsT_s,←lvsS_app];simp[splT]
  rw[e];exact⟨h,rfl⟩
theorem mrg_bnd (d:Nat)(a b:T d)(h:BS (Bnd d) [(ka,a),(kb,b)] hi):BS (Bnd d) [(ka,mrgT d a b)] hi:=by
 obtain⟨h1,h2,h3,h4,h5,-⟩:=h;have hok:=h3 (kb,b) (by simp);have hab:klt ka kb=true:=ltB_ne h1 hok;refine⟨h4.imp id (fun k=>klt_tr hab k),?_,fun q hq=>by simp at hq,trivial⟩;cases d with
 | zero =>
  have h2:BI ka a.its kb:=h2;have h5:BI kb b.its hi:=h5;show BI ka (a.its++b.its) hi;rw[BI_app];refine⟨BI_re h2 fun i hi'=>⟨(BI_mem h2 i hi').2.1,?_⟩,BI_re h5 fun i hi'=>⟨?_,(BI_mem h5 i hi').2.2⟩,fun x hx y hy=>?_⟩
  ·have:=ltB_ne (BI_mem h2 i hi').2.2 hok;exact h4.imp id (fun k=>klt_tr this k)
  ·exact kle_tr (klt_asy hab) (BI_mem h5 i hi').2.1
  ·exact klt_le (ltB_ne (BI_mem h2 x hx).2.2 hok) (BI_mem h5 y hy).2.1
 | succ d =>
  obtain⟨⟨p,r,e,hp⟩,h2⟩:=h2;obtain⟨⟨p',r',e',hp'⟩,h5⟩:=h5;refine⟨⟨p,r++b.kids,by show a.kids++b.kids=_;rw[e];rfl,hp⟩,?_⟩;show BS (Bnd d) (a.kids++b.kids) hi;rw[BS_app];have hn:nxt b.kids hi=kb:=by rw[e'];exact hp'
  rw[hn];refine⟨h2,h5,.inr fun q hq=>?_⟩;rw[e'] at hq h5;rcases List.mem_cons.1 hq with rfl | hq
  ·rw[hp'];exact hok
  ·exact h5.2.2.1 q hq
theorem mrg_ent (d:Nat)(a b:T d):entT d (mrgT d a b)=entT d a++entT d b:=by
 cases d with
 | zero=>simp[mrgT,entT]
 | succ d=>rw[entT_s,entT_s,entT_s,←entS_app];rfl
theorem mrg_lvs (d:Nat)(a b:T d)(nx:Nat)(h:lk (lvsT d a++lvsT d b) nx):lk (lvsT d (mrgT d a b)) nx∧hdL (lvsT d (mrgT d a b)) nx=hdL (lvsT d a++lvsT d b) nx:=by
 cases d with
 | zero=>exact⟨⟨h.2.1,trivial⟩,rfl⟩
 | succ d =>
  have e:lvsT (d+1) (mrgT (d+1) a b)=lvsT (d+1) a++lvsT (d+1) b:=by rw[lvsT_s,lvsT_s,lvsT_s,←lvsS_app];rfl
  rw[e];exact⟨h,rfl⟩
theorem lvs_link {a b:T 0}(h:lk (lvsT 0 a++lvsT 0 b) nx):a.link=b.num:=h.1
theorem WfB.split {s1 s2:List (ByteArray×T d)}{c:Cx (d+1)}{x:T d}{es:List Ent}(h:WfB c (⟨num,s1++[(k,x)]++s2⟩:Inn (T d)) es)(m r:Nat)(hm:0<m∧m<(cellsT d x).length):WfB c (⟨num,s1++[(k,(splT d m r x).1),((splT d m r x).2.1,(splT d m r x).2.2)]++s2⟩:Inn (T d)) es:=by
 have hok:okK (splT d m r x).2.1:=by
  obtain⟨lo',hi',b1,_,hb⟩:=h.bnd;have hb:BS (Bnd d) (s1++[(k,x)]++s2) hi':=hb;rw[List.append_assoc,BS_app] at hb;exact(spl_bnd d m r x ⟨hb.2.1.1,hb.2.1.2.1⟩ hm).1
 refine h.repl (by simp) (by simp) (fun _=>rfl) (fun hi hb=>(spl_bnd d m r x ⟨hb.1,hb.2.1⟩ hm).2) (fun q hq=>by simp at hq;rw[hq];exact hok) ?_ (fun nx hl=>?_)
 ·rw[entS_cons,entS_cons,entS_cons];have:=spl_ent d m r x;simp only[entS,List.flatMap_nil,List.append_nil];exact this
 ·rw[lvsS_cons,lvsS_cons,lvsS_cons] at *;simp only[lvsS,List.flatMap_nil,List.append_nil] at *;exact spl_lvs d m r x nx hl
theorem WfB.merge {s1 s2:List (ByteArray×T d)}{c:Cx (d+1)}{a b:T d}{es:List Ent}(h:WfB c (⟨num,s1++[(ka,a),(kb,b)]++s2⟩:Inn (T d)) es):WfB c (⟨num,s1++[(ka,mrgT d a b)]++s2⟩:Inn (T d)) es:=by
 refine h.repl (by simp) (by simp) (fun _=>rfl) (fun hi hb=>mrg_bnd d a b hb) (fun q hq=>by simp at hq) ?_ (fun nx hl=>?_)
 ·rw[entS_cons,entS_cons,entS_cons];simp only[entS,List.flatMap_nil,List.append_nil];exact mrg_ent d a b
 ·rw[lvsS_cons,lvsS_cons,lvsS_cons] at *;simp only[lvsS,List.flatMap_nil,List.append_nil] at *;exact mrg_lvs d a b nx hl
end Go.Proofs.YtiaibgfhigdgdaaGreat
