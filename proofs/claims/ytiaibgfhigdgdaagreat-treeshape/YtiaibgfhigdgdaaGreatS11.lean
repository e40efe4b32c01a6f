/- a part -/
import Derived.Test.YtiaibgfhigdgdaaGreatS10
set_option maxRecDepth 100000
set_option maxHeartbeats 8000000
namespace Go.Proofs.YtiaibgfhigdgdaaGreat
open Go.RowKit Go.Lib Go.Maps Go.Sort
variable {w w':World}{B D Gp m pages tb root p d num:Nat}{V V':PV}{K:Pgs}{A:Nat→PgV}{fl:List Nat}{v:NV}{l:List ByteArray}{lo hi k:ByteArray}
attribute [local go_sem ↓] Go.wp_at_zero Go.wp_at_succ
section
variable {pk:Nat}
theorem TS.alloc (h:TS w B D Gp V K pk m A fl pages)(hm:m≤40000)(hp:pages<58000):Calls Tryz.prog 72 #[(.pointer (some ⟨Gp,0,none⟩))] w fun e w'=>∃(V':PV) (n:Nat) (A':Nat→PgV) (fl':List Nat) (pages':Nat),e=.returned (.tuple #[.int .i64 (n:Int),.int .i64 0])∧TS w' B D Gp V' K pk (m+2) A' fl' pages'∧St2 w w' B V V'∧AllR A fl pages n A' fl' pages':=by
 obtain⟨C,po,hC⟩:=h.po;cases hfl:fl with
 | nil =>
  have hf:V.P.free=0:=by rw[h.fr,hfl];rfl
  refine(calloc_new po (by omega) (by rw[h.pg];omega) hf).mono ?_;rintro e w'⟨V',s,f1,(⟨rfl,p1,q1⟩ | ⟨_,q,_⟩)⟩
  ·have hz:=h.zero;rw[hfl] at hz;have hpos:0<pages:=by have:=po.pi.pg;have:=h.pg;omega
   refine⟨V',pages,updA A pages ⟨3,0,[]⟩,[],pages+1,by rw[h.pg],⟨⟨_,q1.mono (by omega),fun x hx=>?_⟩,by rw[p1,h.pg],by rw[f1,hf];rfl,?_,trivial,by simp,s.nf h.nf,List.nodup_nil⟩,s,⟨fun x _ h2=>updA_ne _ _ h2,fun X hX=>?_,⟨hpos,by omega⟩,by omega,by omega⟩⟩
   ·rw[h.pg,wth_nat];by_cases e:x=pages
    ·subst e;rw[if_pos rfl,updA_at,pgX_none];exact⟨rfl,⟨by show 1≤3;omega,by show 3≤5;omega⟩,by show 0≤_;omega,by show 0≤_;omega⟩
    ·rw[if_neg e,updA_ne _ _ e];exact hC x (by omega)
   ·rw[updA_ne _ _ (by omega)];exact hz
   ·rw[List.range_succ];have hX:(0::X).Perm (List.range pages):=by simpa using hX
    show(0::([]++(pages::X))).Perm (List.range pages++[pages]);have h1:(0::pages::X).Perm (pages::0::X):=List.Perm.swap _ _ _;refine h1.trans ((List.Perm.cons pages hX).trans ?_);have:=List.perm_append_comm (l₁:=[pages]) (l₂:=List.range pages);exact this
  ·have:=(s.nf h.nf).2;rw[q] at this;cases this
 | cons f r =>
  have hf:V.P.free=f:=by rw[h.fr,hfl];rfl
  have hin:=h.flin f (by rw[hfl];simp);have hfls:=h.fls;rw[hfl] at hfls;have hz:=h.zero;rw[hfl] at hz;have hz:A 0=⟨4,f,[]⟩:=hz;have hnx:r.headD 0≤2147483647:=by
   have hpp:=h.flsmall.2;cases r with
   | nil=>exact Nat.zero_le _
   | cons g r=>have:=(h.flin g (by rw[hfl];simp)).2;show g≤_;omega
  refine(calloc_old po (by omega) (by omega) (by rw[h.pg,hf];exact hin.2) (nx:=r.headD 0) hnx (by rw[hf,(hC f hin.2).1,hfls.1,pgX_none]) (by have:=(hC 0 (by omega)).1;rw[hf];rw[hz,pgX_none] at this;exact this)).mono ?_;rintro e w'⟨V',C',s,p1,q1,(⟨rfl,f1,rfl⟩ | ⟨_,q⟩)⟩
  ·rw[hf] at q1;have hrn:∀x∈r,¬x=0:=fun x hx=>by have:=(h.flin x (by rw[hfl];simp[hx])).1;omega
   have hnd:=h.fnd;rw[hfl,List.nodup_cons] at hnd;have hfr:=hnd.1;refine⟨V',f,updA (updA A 0 ⟨4,r.headD 0,[]⟩) f ⟨3,0,[]⟩,r,pages,by rw[hf],⟨⟨_,q1,fun x hx=>?_⟩,by rw[p1,h.pg],f1,?_,?_,fun x hx=>h.flin x (by rw[hfl];simp[hx]),s.nf h.nf,hnd.2⟩,s,⟨fun x h1 h2=>by rw[updA_ne _ _ h2,updA_ne _ _ h1],fun X hX=>?_,hin,by omega,by omega⟩⟩
   ·have h0:((0:Nat):Int)=0:=rfl;rw[wth_nat,←h0,wth_nat];by_cases e:x=f
    ·subst e;rw[if_pos rfl,updA_at,pgX_none];exact⟨rfl,⟨by show 1≤3;omega,by show 3≤5;omega⟩,by show 0≤_;omega,by show 0≤_;omega⟩
    ·rw[if_neg e,updA_ne _ _ e];by_cases e0:x=0
     ·subst e0;rw[if_pos rfl,updA_at,pgX_none];exact⟨rfl,⟨by show 1≤4;omega,by show 4≤5;omega⟩,hnx,by show 0≤_;omega⟩
     ·rw[if_neg e0,updA_ne _ _ e0];exact hC x hx
   ·rw[updA_ne _ _ (by omega),updA_at]
   ·refine flc_congr hfls.2 fun x hx=>?_
    rw[updA_ne _ _ (fun e=>hfr (by rw[←e];exact hx)),updA_ne _ _ (hrn x hx)]
   ·refine List.Perm.trans (List.Perm.cons _ ?_) hX;exact List.perm_middle
  ·have:=(s.nf h.nf).2;rw[q] at this;cases this
theorem cfresh (h:TS w B D Gp V K pk m A fl pages)(hm:m≤40000)(hp:pages<58000)(ht:TB w tb Gp root)(kd:Nat):Calls Tryz.prog 32 #[(.pointer (some ⟨tb,0,none⟩)),.int .i64 (kd:Int)] w fun e w'=>∃(V':PV) (n:Nat) (A':Nat→PgV) (fl':List Nat) (pages' p:Nat),e=.returned (.pointer (some ⟨p,0,none⟩))∧TS w' B D Gp V' K pk (m+2) A' fl' pages'∧St2 w w' B V V'∧AllR A fl pages n A' fl' pages'∧ND w' w.heap.size p ⟨kd,0,[],n,⟨#[]⟩,⟨#[]⟩,0⟩∧w.heap.size≤p:=by
 obtain⟨t0,t1,tlt⟩:=ht.cells;have HA:=hide (h.alloc hm hp);clear h;go_enter Tryz.func32,Tryz.ntmps32;go_wp2_with fail
 refine HA.out.mono ?_;rintro e w1⟨V1,n,A1,fl1,pages1,rfl,k1,k2,k3⟩;have HK:=hide (show TS w1 B D Gp V1 K pk (m+2) A1 fl1 pages1∧St2 w w1 B V V1∧AllR A fl pages n A1 fl1 pages1 from⟨k1,k2,k3⟩);clear k1 k2 k3 HA;go_wp2_with fail
 refine(ccheck _).mono ?_;rintro e w2⟨rfl,hw⟩;rw[hw];clear hw;go_wp2;go_ret;obtain⟨k1,k2,k3⟩:=HK.out;obtain⟨q1,q2⟩:=k1.below (w':=w1.alloc (.cells (ndC ⟨kd,0,[],n,⟨#[]⟩,⟨#[]⟩,0⟩ (.slice none 0 0)) 98)) ((Below.refl _ _).alloc (Nat.le_refl _) _);exact⟨V1,n,A1,fl1,pages1,w1.heap.size,rfl,q1,k2.trans q2,k3,⟨_,World.alloc_heap_new w1 _,rfl,.inl ⟨rfl,rfl⟩⟩,k2.bel.size⟩
theorem TS.wr (h:TS w B D Gp V K pk m A fl pages)(hm:m≤40000)(n:Nat)(v:PgV)(hok:okP v)(h0:0<n)(h1:n<pages)(hf:¬n∈fl):Calls Tryz.prog 74 #[(.pointer (some ⟨Gp,0,none⟩)),.int .i64 (n:Int),.string (pgX v)] w fun e w'=>e=.returned (.int .i64 0)∧∃V',TS w' B D Gp V' K pk (m+1) (updA A n v) fl pages∧St2 w w' B V V':=by
 obtain⟨C,po,hC⟩:=h.po;refine(cwriteP po (by omega) (n:Int) (by omega) (by rw[h.pg];omega) (pgX v) (pgX_size hok)).mono ?_;rintro e w3⟨V3,k1,k2,k3,(⟨rfl,k4⟩ | ⟨rfl,k4,k5⟩)⟩
 ·refine⟨rfl,V3,⟨⟨_,k4,fun x hx=>?_⟩,k2.trans h.pg,k3.trans h.fr,by rw[updA_ne _ _ (by omega)];exact h.zero,flc_congr h.fls fun x hx=>updA_ne _ _ (fun e=>hf (by rw[←e];exact hx)),h.flin,k1.nf h.nf,h.fnd⟩,k1⟩;rw[wth_nat];by_cases e:x=n
  ·rw[if_pos e,e,updA_at];exact⟨rfl,hok⟩
  ·rw[if_neg e,updA_ne _ _ e];exact hC x hx
 ·have:=(k1.nf h.nf).2;rw[k4] at this;cases this
theorem TS.fre (h:TS w B D Gp V K pk m A fl pages)(hm:m≤40000)(n:Nat)(h0:0<n)(h1:n<pages)(hf:¬n∈fl):Calls Tryz.prog 162 #[(.pointer (some ⟨Gp,0,none⟩)),.int .i64 (n:Int)] w fun e w'=>e=.returned (.int .i64 0)∧∃V',TS w' B D Gp V' K pk (m+2) (updA (updA A n ⟨3,fl.headD 0,[]⟩) 0 ⟨4,n,[]⟩) (n::fl) pages∧St2 w w' B V V':=by
 obtain⟨C,po,hC⟩:=h.po;have hfr:=h.fr;have hsm:=h.flsmall;refine(cfree po (by omega) n h0 (by rw[h.pg];omega) (by rw[hfr];exact hsm.1) (by have:=(hC 0 (by omega)).1;rw[h.zero,pgX_none] at this;rw[hfr];exact this)).mono ?_;rintro e w3⟨V3,C3,k1,k2,k3,(⟨rfl,k4,rfl⟩ | ⟨rfl,k4⟩)⟩
 ·refine⟨rfl,V3,⟨⟨_,k3,fun x hx=>?_⟩,k2.trans h.pg,k4,updA_at _ _ _,⟨by rw[updA_ne _ _ (by omega),updA_at],flc_congr h.fls fun x hx=>?_⟩,fun x hx=>?_,k1.nf h.nf,List.nodup_cons.2 ⟨hf,h.fnd⟩⟩,k1⟩
  ·have e0:((0:Nat):Int)=0:=rfl;rw[←e0,wth_nat,wth_nat];by_cases e:x=0
   ·rw[if_pos e,e,updA_at,pgX_none];exact⟨rfl,⟨by show 1≤4;omega,by show 4≤5;omega⟩,by show n≤_;omega,by show 0≤_;omega⟩
   ·rw[if_neg e,updA_ne _ _ e];by_cases e2:x=n
    ·rw[if_pos e2,e2,updA_at,pgX_none,hfr];exact⟨rfl,⟨by show 1≤3;omega,by show 3≤5;omega⟩,hsm.1,by show 0≤_;omega⟩
    ·rw[if_neg e2,updA_ne _ _ e2];exact hC x hx
  ·have:=(h.flin x hx).1;rw[updA_ne _ _ (by omega),updA_ne _ _ (fun e=>hf (by rw[←e];exact hx))]
  ·rcases List.mem_cons.1 hx with rfl|hx
   ·exact⟨h0,h1⟩
   ·exact h.flin x hx
 ·have:=(k1.nf h.nf).2;rw[k4] at this;cases this
theorem ctfree (h:TS w B D Gp V K pk m A fl pages)(hm:m≤40000)(ht:TB w tb Gp root)(n:Nat)(h0:0<n)(h1:n<pages)(hf:¬n∈fl):Calls Tryz.prog 104 #[(.pointer (some ⟨tb,0,none⟩)),.int .i64 (n:Int)] w fun e w'=>e=.returned (.tuple #[])∧∃V',TS w' B D Gp V' K pk (m+2) (updA (updA A n ⟨3,fl.headD 0,[]⟩) 0 ⟨4,n,[]⟩) (n::fl) pages∧St2 w w' B V V':=by
 obtain⟨t0,t1,tlt⟩:=ht.cells;have HF:=hide (h.fre hm n h0 h1 hf);clear h ht;go_enter Tryz.func104,Tryz.ntmps104;go_wp2_with fail
 refine HF.out.mono ?_;rintro e w1⟨rfl,k1⟩;have HK:=hide (k1);clear k1 HF;go_wp2_with fail
 refine(ccheck _).mono ?_;rintro e w2⟨rfl,hw⟩;rw[hw];clear hw;go_wp2;go_end0;exact⟨rfl,HK.out⟩
theorem ctwrite (h:TS w B D Gp V K pk m A fl pages)(hm:m≤40000)(ht:TB w tb Gp root)(hn:NR w p v)(hok:okP (pgN v))(h0:0<v.num)(h1:v.num<pages)(hf:¬v.num∈fl):Calls Tryz.prog 33 #[(.pointer (some ⟨tb,0,none⟩)),(.pointer (some ⟨p,0,none⟩))] w fun e w'=>e=.returned (.tuple #[])∧∃V',TS w' B D Gp V' K pk (m+1) (updA A v.num (pgN v)) fl pages∧St2 w w' B V V':=by
 obtain⟨t0,t1,tlt⟩:=ht.cells;obtain⟨a,c,hn1,hn2⟩:=hn;obtain⟨n0,n1,n2,n3,n4,n5,n6,n7,n8⟩:=hn1.cells;have HSL:=hide (cseal_ok v.kind v.link a v.cells.length c (tx v.cells) w hn2.sta hok.kind hok.link (by rw[used_len];exact hok.used));have HN:=hide (hn1);have HT:=hide (ht);have H:=hide (h);have HV:=hide (show okP (pgN v)∧0<v.num∧v.num<pages∧¬v.num∈fl∧m≤40000 from⟨hok,h0,h1,hf,hm⟩);clear h ht hn1 hn2 hok n4 n5 n6 n7 h0 h1 hf;go_enter Tryz.func33,Tryz.ntmps33;go_wp2_with fail
 refine HSL.out.mono ?_;rintro e w1⟨rfl,hb1⟩;have e1:(⟨(sealed v.kind v.link v.cells.length (tx v.cells)).toArray⟩:ByteArray)=pgX (pgN v):=rfl;rw[e1];clear e1;obtain⟨q1,s1⟩:=H.out.below hb1;obtain⟨u0,u1,ult⟩:=(H.out.stayTB s1 HT.out).cells;obtain⟨x0,x1,x2,x3,x4,x5,x6,x7,x8⟩:=(H.out.stayNB s1 HN.out).cells;have HQ:=hide (q1);have HS1:=hide (s1);have HW:=hide (fun(W:World) (hW:TS W B D Gp V K pk m A fl pages)=>hW.wr HV.out.2.2.2.2 v.num (pgN v) HV.out.1 HV.out.2.1 HV.out.2.2.1 HV.out.2.2.2.1);generalize pgX (pgN v)=px at *;clear q1 s1 HSL t0 t1 n0 n1 n2 n3 hb1 x0 x1 x2 x4 x5 x6 x7 tlt n8;go_wp2_with fail
 refine(ccheck _).mono ?_;rintro e w2⟨rfl,hw⟩;rw[hw];clear hw;go_wp2_with fail
 go_region_with (first | (go_at_call 74;refine(HW.out _ (HQ.out.below ((Below.refl _ _).drew)).1).mono ?_;rintro e w3⟨rfl,k1⟩) | (go_at_call 73;refine(ccheck _).mono ?_;rintro e w4⟨rfl,hw⟩;rw[hw];clear hw))
 all_goals
  go_wp2;go_end0;obtain⟨V',r1,r2⟩:=k1;exact⟨rfl,V',r1,HS1.out.trans ((HQ.out.below ((Below.refl _ _).drew)).2.trans r2)⟩
end
theorem ie_ne {r:ByteArray}(h:0<r.size):r.toList.isEmpty=false:=by
 rw[ByteArray.toList_eq];cases hq:r.data.toList with
 | nil =>
  have:r.data.toList.length=0:=by rw[hq];rfl
  have h2:r.data.size=0:=by simpa using this
  have:r.size=0:=h2;omega
 | cons a l=>rfl
theorem ie_nil:(⟨#[]⟩:ByteArray).toList.isEmpty=true:=by rw[ByteArray.toList_eq];rfl
theorem cisEntry_in (c k r:ByteArray)(w:World)(hk:isKeyedB c=true)(hkb:keyB c=k)(hrb:restB c=r)(hc:kS c≤c.size)(hs:c.size≤240)(h0:0<r.size)(hb:bytS r 0=0)(hr:r.size≤240)(hkz:k.size≤200)(hf:2+k.size+(r.size-1)≤240):Calls Tryz.prog 192 #[.string c] w fun e w'=>e=.returned (.bool true)∧w'=w:=by
 have H1:=hide (fun X=>cisKeyed c X (by omega));rw[hk] at H1;have H2:=hide (fun X=>crestOf c X hc (by omega));have H3:=hide (fun X=>ckeyOf c X hc (by omega));rw[hrb] at H2;rw[hkb] at H3;obtain⟨n,hn⟩:∃n:Nat,r.size=n+1:=⟨r.size-1,by omega⟩;have H4:=hide (fun X=>cfits k n X (by omega) (by omega));rw[decide_eq_true (show 2+k.size+n≤240 by omega)] at H4;have hw:wrap64 ((r.size:Int)-1)=(n:Int):=by unfold wrap64;omega
 have g0:=bytS_get h0;rw[hb] at g0;have he:=ie_ne h0;clear hk hkb hrb hc hf hb;go_enter Tryz.func192,Tryz.ntmps192;go_wp2_with fail
 refine(H1.out _).mono ?_;rintro e w1⟨rfl,hw⟩;rw[hw];clear hw;go_wp2_with fail
 refine(H2.out _).mono ?_;rintro e w2⟨rfl,hw⟩;rw[hw];clear hw;go_wp2_with fail
 refine(H3.out _).mono ?_;rintro e w3⟨rfl,hw⟩;rw[hw];clear hw;go_wp2_with fail
 refine(H2.out _).mono ?_;rintro e w4⟨rfl,hw⟩;rw[hw];clear hw;go_wp2_with fail
 refine(H4.out _).mono ?_;rintro e w5⟨rfl,hw⟩;rw[hw];clear hw;go_wp2_with fail
 go_ret;exact⟨rfl,rfl⟩
theorem cisEntry_long (c k r:ByteArray)(w:World)(hk:isKeyedB c=true)(hkb:keyB c=k)(hrb:restB c=r)(hc:kS c≤c.size)(hs:c.size≤240)(h7:r.size=7)(hb:bytS r 0=1)(hkz:k.size≤200)(n:Nat)(hn:bytS r 1*256+bytS r 2=n)(hn2:n≤3000)(hf:¬2+k.size+n≤240):Calls Tryz.prog 192 #[.string c] w fun e w'=>e=.returned (.bool true)∧Below w.heap.size w w':=by
 have H1:=hide (fun X=>cisKeyed c X (by omega));rw[hk] at H1;have H2:=hide (fun X=>crestOf c X hc (by omega));have H3:=hide (fun X=>ckeyOf c X hc (by omega));have H5:=hide (fun X=>clongSize c X hc (by omega) (by rw[hrb];omega));rw[hrb] at H2 H5;rw[hkb] at H3;rw[hn] at H5;have H4:=hide (fun X=>cfits k n X (by omega) (by omega));rw[decide_eq_false hf] at H4;have g0:=bytS_get (show 0<r.size by omega);rw[hb] at g0;have he:=ie_ne (show 0<r.size by omega);have h73:(r.size:Int)=7:=by omega
 have hn3:(n:Int)≤3000:=by omega
 clear hk hkb hrb hc hf hb hn;go_enter Tryz.func192,Tryz.ntmps192;go_wp2_with fail
 refine(H1.out _).mono ?_;rintro e w1⟨rfl,hw⟩;rw[hw];clear hw;go_wp2_with fail
 refine(H2.out _).mono ?_;rintro e w2⟨rfl,hw⟩;rw[hw];clear hw;go_wp2_with fail
 refine(H3.out _).mono ?_;rintro e w3⟨rfl,hw⟩;rw[hw];clear hw;go_wp2_with fail
 refine(H2.out _).mono ?_;rintro e w4⟨rfl,hw⟩;rw[hw];clear hw;go_wp2_with fail
 refine(H5.out _).mono ?_;rintro e w5⟨rfl,q5,rfl⟩;go_wp2_with fail
 refine(H5.out _).mono ?_;rintro e w6⟨rfl,q6,rfl⟩;go_wp2_with fail
 refine(H4.out _).mono ?_;rintro e w7⟨rfl,hw⟩;rw[hw];clear hw;go_wp2_with fail
 go_ret;exact⟨rfl,⟨rfl,rfl,rfl,Nat.le_refl _,fun _ _=>rfl⟩⟩
theorem cisEntry (i:It)(h:okI i)(w:World):Calls Tryz.prog 192 #[.string (cellI i)] w fun e w'=>e=.returned (.bool true)∧Below w.heap.size w w':=by
 obtain⟨h1,h2,h3,h4⟩:=cellI_key h;have hs:=cellI_sz h;have hk:=h.key;have hpg:=h.pgs;unfold restI at h4;cases hq:i.pgs with
 | nil =>
  rw[hq] at h4 hpg;have hfit:2+i.key.size+i.val.size≤240:=by
   by_cases e:2+i.key.size+i.val.size≤240
   ·exact e
   ·rw[if_neg e] at hpg;simp at hpg;have:=hk.2;omega
  have hz:((⟨#[0]⟩:ByteArray)++i.val).size=1+i.val.size:=by rw[ByteArray.size_append];rfl
  refine(cisEntry_in (cellI i) i.key (⟨#[0]⟩++i.val) w h3 h1 h4 h2 hs (by omega) (bytS_one 0 i.val) (by omega) hk.2 (by omega)).mono ?_;rintro e w'⟨rfl,rfl⟩;exact⟨rfl,Below.refl _ _⟩
 | cons p r =>
  rw[hq] at h4 hpg;have hv:=h.val;have hfit:¬2+i.key.size+i.val.size≤240:=fun e=>by rw[if_pos e] at hpg;simp at hpg
  have hz:((⟨#[1,(i.val.size/256).toUInt8,i.val.size.toUInt8]⟩:ByteArray)++fourB p).size=7:=by rw[ByteArray.size_append,fourB_sz];rfl
  have hb:∀j,j<3→bytS ((⟨#[1,(i.val.size/256).toUInt8,i.val.size.toUInt8]⟩:ByteArray)++fourB p) j=bytS ⟨#[1,(i.val.size/256).toUInt8,i.val.size.toUInt8]⟩ j:=fun j hj=>byt_left (by show j<3;exact hj)
  have e1:bytS ⟨#[1,(i.val.size/256).toUInt8,i.val.size.toUInt8]⟩ 1=i.val.size/256%256:=rfl;have e2:bytS ⟨#[1,(i.val.size/256).toUInt8,i.val.size.toUInt8]⟩ 2=i.val.size%256:=rfl;exact cisEntry_long (cellI i) i.key _ w h3 h1 h4 h2 hs hz (by rw[hb 0 (by omega)];rfl) hk.2 i.val.size (by rw[hb 1 (by omega),hb 2 (by omega),e1,e2];omega) hv hfit
theorem cisChild (k:ByteArray)(n:Nat)(w:World)(hk:okK k):Calls Tryz.prog 194 #[.string (childB k n)] w fun e w'=>e=.returned (.bool true)∧w'=w:=by
 obtain⟨h1,h2,h3,h4⟩:=childB_key hk n;have hs:=childB_sz k n;have hk2:=hk.2;have H1:=hide (fun X=>cisKeyed (childB k n) X (by omega));rw[h3] at H1;have H2:=hide (fun X=>crestOf (childB k n) X h2 (by omega));rw[h4] at H2;have sf:=fourB_sz n;generalize childB k n=c at *;clear h1 h2 h3 h4 hs;go_enter Tryz.func194,Tryz.ntmps194;go_wp2_with fail
 refine(H1.out _).mono ?_;rintro e w1⟨rfl,hw⟩;rw[hw];clear hw;go_wp2_with fail
 refine(H2.out _).mono ?_;rintro e w2⟨rfl,hw⟩;rw[hw];clear hw;go_wp2_with fail
 go_ret;exact⟨rfl,rfl⟩
theorem ckeyN (h:NR w p v)(i:Nat)(hi:i<v.cells.length)(hc:kS (tx v.cells i)≤(tx v.cells i).size)(hs:(tx v.cells i).size≤240):Calls Tryz.prog 144 #[(.pointer (some ⟨p,0,none⟩)),.int .i64 (i:Int)] w fun e w'=>e=.returned (.string (keyB (tx v.cells i)))∧w'=w:=by
 obtain⟨a,c,h1,h2⟩:=h;obtain⟨n0,n1,n2,n3,n4,n5,n6,n7,n8⟩:=h1.cells;rcases h2.sta with h0|⟨b,off,rfl,hb,hcell⟩
 ·omega
 have hx:=hcell i hi;have H1:=hide (fun X=>ckeyOf (tx v.cells i) X hc (by omega));generalize tx v.cells i=ci at *;generalize v.cells.length=len at *;clear hcell h2 h1 n0 n1 n3 n4 n5 n6 n7;go_enter Tryz.func144,Tryz.ntmps144;go_wp2_with fail
 refine(H1.out _).mono ?_;rintro e w1⟨rfl,hw⟩;rw[hw];clear hw;go_wp2_with fail
 go_ret;exact⟨rfl,rfl⟩
theorem callAre (h:NR w p v)(hl:v.cells.length≤1000)(g:Nat)(eg:∀args w,(callFunc g args).run Tryz.prog w=.ok (.enter g args) w)(hg:∀i,i<v.cells.length→∀X,Calls Tryz.prog g #[.string (tx v.cells i)] X fun e w'=>e=.returned (.bool true)∧Below X.heap.size X w'):Calls Tryz.prog 191 #[(.pointer (some ⟨p,0,none⟩)),.func (.func g) #[] #[]] w fun e w'=>e=.returned (.bool true)∧Below w.heap.size w w':=by
 obtain⟨a,c,h1,h2⟩:=h;obtain⟨n0,n1,n2,n3,n4,n5,n6,n7,n8⟩:=h1.cells;have HS:=hide (fun(X:World) (hX:Below w.heap.size w X)=>h2.sta.below hX);have HG:=hide (hg);generalize hL:v.cells.length=L at *;generalize tx v.cells=tc at *;clear h2 h1 n0 n1 n3 n4 n5 n6 n7 hg;go_enter Tryz.func191,Tryz.ntmps191;go_wp2_with fail
 go_loopw [13] (fun x wr=>∃i:Nat,x=.int .i64 (i:Int)∧i≤L∧Hid (Below w.heap.size w wr)) (fun x _=>L-(intOf x).toNat)
 case atStart=>exact⟨0,rfl,by omega,hide (Below.refl _ _)⟩
 case round =>
  obtain⟨i,rfl,hi,HB⟩:=hrel;by_cases h0:i<L
  ·have h0':(i:Int)<(L:Int):=by omega
   rcases HS.out wr HB.out with e|⟨b,off,rfl,hb,hcell⟩
   ·omega
   have hx:=hcell i h0;have HC:=hide (HG.out i h0);clear hcell;go_wp2_with (go_at_fn g;refine(HC.out _).mono ?_;rintro e w'⟨rfl,hb'⟩)
   go_roundw
   case rel=>exact⟨i+1,by go_num,by omega,hide (HB.out.trans (hb'.mono HB.out.size))⟩
   case measure=>simp[intOf];omega
  ·have h0':¬(i:Int)<(L:Int):=by omega
   go_wp2;go_ret;exact⟨rfl,HB.out⟩
structure Ky (v:NV):Prop where
 few:v.cells.length≤1000
 key:∀i,i<v.cells.length→kS (tx v.cells i)≤(tx v.cells i).size∧(tx v.cells i).size≤240
 low:∀i,i<v.cells.length→klt (keyB (tx v.cells i)) v.low=false
 high:∀i,i<v.cells.length→ltB (keyB (tx v.cells i)) v.high
 ord:∀i,i+1<v.cells.length→klt (keyB (tx v.cells i)) (keyB (tx v.cells (i+1)))=true
theorem beq_ne {a b:ByteArray}(h:klt b a=true):(a.toList == b.toList)=false:=str_neq (fun e=>by rw[e,klt_irr] at h;cases h)
theorem cinOrder (h:NR w p v)(hk:Ky v):Calls Tryz.prog 193 #[(.pointer (some ⟨p,0,none⟩))] w fun e w'=>e=.returned (.bool true)∧w'=w:=by
 have HN:=hide (h);have HK:=hide (hk);obtain⟨a,c,h1,h2⟩:=h;obtain⟨n0,n1,n2,n3,n4,n5,n6,n7,n8⟩:=h1.cells;have HKEY:=hide (fun i hi=>ckeyN HN.out i hi (hk.key i hi).1 (hk.key i hi).2);have hfew:=hk.few;generalize hL:v.cells.length=L at *;have HL:=hide (hL);clear h2 h1 n0 n1 n3 n6 n7 hk;go_enter Tryz.func193,Tryz.ntmps193;go_wp2_with fail
 go_loopw [11] (fun x wr=>∃i:Nat,x=.int .i64 (i:Int)∧i≤L∧wr=w) (fun x _=>L-(intOf x).toNat)
 case atStart=>exact⟨0,rfl,by omega,rfl⟩
 case round =>
  obtain⟨i,rfl,hi,hwr⟩:=hrel;rw[hwr];clear hwr;by_cases h0:i<L
  ·have h0':(i:Int)<(L:Int):=by omega
   have f1:Op.bytesLess (keyB (tx v.cells i)).toList v.low.toList=false:=HK.out.low i (by rw[HL.out];exact h0);have f2:=HK.out.high i (by rw[HL.out];exact h0);have HC:=hide (HKEY.out i h0);have HF2:=hide (f2);by_cases hh:v.high=⟨#[]⟩
   ·have e2:v.high.toList.isEmpty=true:=by rw[hh];exact ie_nil
    clear f2 hh;by_cases hz:i=0
    ·have hz':¬(0:Int)<(i:Int):=by omega
     clear hz;generalize keyB (tx v.cells i)=k at *;go_wp2_with fail
     refine HC.out.mono ?_;rintro e w1⟨rfl,hw⟩;rw[hw];clear hw;go_wp2_with fail
     go_roundw
     case rel=>exact⟨i+1,by go_num,by omega,by trivial⟩
     case measure=>simp[intOf];omega
    ·have hz':(0:Int)<(i:Int):=by omega
     obtain⟨j,rfl⟩:∃j,i=j+1:=⟨i-1,by omega⟩;have HC2:=hide (HKEY.out j (by omega));have f3:=HK.out.ord j (by rw[HL.out];exact h0);have f4:Op.bytesLess (keyB (tx v.cells (j+1))).toList (keyB (tx v.cells j)).toList=false:=klt_asy f3;have f5:=beq_ne f3;have hw:wrap64 (((j+1:Nat):Int)-1)=(j:Int):=by unfold wrap64;omega
     clear f3;generalize keyB (tx v.cells (j+1))=k at *;generalize keyB (tx v.cells j)=k0 at *;go_wp2_with fail
     refine HC.out.mono ?_;rintro e w1⟨rfl,hw⟩;rw[hw];clear hw;go_wp2_with fail
     refine HC2.out.mono ?_;rintro e w2⟨rfl,hw⟩;rw[hw];clear hw;go_wp2_with fail
     go_roundw
     case rel=>exact⟨j+1+1,by go_num,by omega,by trivial⟩
     case measure=>simp[intOf];omega
   ·have hsz:0<v.high.size:=by
     rcases Nat.eq_zero_or_pos v.high.size with e|e
     ·exact absurd (by apply ByteArray.ext;exact Array.eq_empty_of_size_eq_zero e) hh
     ·exact e
    have e2:v.high.toList.isEmpty=false:=ie_ne hsz;have e3:Op.bytesLess (keyB (tx v.cells i)).toList v.high.toList=true:=f2.resolve_left hh;clear f2 hh;by_cases hz:i=0
    ·have hz':¬(0:Int)<(i:Int):=by omega
     clear hz;generalize keyB (tx v.cells i)=k at *;go_wp2_with fail
     refine HC.out.mono ?_;rintro e w1⟨rfl,hw⟩;rw[hw];clear hw;go_wp2_with fail
     go_roundw
     case rel=>exact⟨i+1,by go_num,by omega,by trivial⟩
     case measure=>simp[intOf];omega
    ·have hz':(0:Int)<(i:Int):=by omega
     obtain⟨j,rfl⟩:∃j,i=j+1:=⟨i-1,by omega⟩;have HC2:=hide (HKEY.out j (by omega));have f3:=HK.out.ord j (by rw[HL.out];exact h0);have f4:Op.bytesLess (keyB (tx v.cells (j+1))).toList (keyB (tx v.cells j)).toList=false:=klt_asy f3;have f5:=beq_ne f3;have hw:wrap64 (((j+1:Nat):Int)-1)=(j:Int):=by unfold wrap64;omega
     clear f3;generalize keyB (tx v.cells (j+1))=k at *;generalize keyB (tx v.cells j)=k0 at *;go_wp2_with fail
     refine HC.out.mono ?_;rintro e w1⟨rfl,hw⟩;rw[hw];clear hw;go_wp2_with fail
     refine HC2.out.mono ?_;rintro e w2⟨rfl,hw⟩;rw[hw];clear hw;go_wp2_with fail
     go_roundw
     case rel=>exact⟨j+1+1,by go_num,by omega,by trivial⟩
     case measure=>simp[intOf];omega
  ·have h0':¬(i:Int)<(L:Int):=by omega
   go_wp2;go_ret;exact⟨rfl,rfl⟩
theorem cisSound1 (h:NR w p v)(hk:Ky v)(h1:v.kind=1)(hc:∀i,i<v.cells.length→∀X,Calls Tryz.prog 192 #[.string (tx v.cells i)] X fun e w'=>e=.returned (.bool true)∧Below X.heap.size X w'):Calls Tryz.prog 164 #[(.pointer (some ⟨p,0,none⟩))] w fun e w'=>e=.returned (.bool true)∧Below w.heap.size w w':=by
 have eg:∀args w,(callFunc 192 args).run Tryz.prog w=.ok (.enter 192 args) w:=fun args w=>by go_simp
 have HA:=hide (fun(X:World) (hX:Below w.heap.size w X)=>callAre (w:=X) (p:=p) (v:=v) (by
  obtain⟨a,c,q1,q2⟩:=h;refine⟨a,c,(hX.block p (Array.getElem?_eq_some_iff.1 q1).1).trans q1,?_⟩;rcases q2 with q2|⟨b,off,cur,e,hb,hc⟩
  ·exact .inl q2
  ·exact .inr ⟨b,off,cur,e,(hX.block b (Array.getElem?_eq_some_iff.1 hb).1).trans hb,hc⟩) hk.few 192 eg hc)
 have HI:=hide (fun(X:World) (hX:Below w.heap.size w X)=>cinOrder (w:=X) (p:=p) (v:=v) (by
  obtain⟨a,c,q1,q2⟩:=h;refine⟨a,c,(hX.block p (Array.getElem?_eq_some_iff.1 q1).1).trans q1,?_⟩;rcases q2 with q2|⟨b,off,cur,e,hb,hc⟩
  ·exact .inl q2
  ·exact .inr ⟨b,off,cur,e,(hX.block b (Array.getElem?_eq_some_iff.1 hb).1).trans hb,hc⟩) hk)
 obtain⟨a,c,q1,q2⟩:=h;obtain⟨n0,n1,n2,n3,n4,n5,n6,n7,n8⟩:=q1.cells;rw[h1] at n0;clear eg q1 q2 hk hc n1 n2 n3 n4 n5 n6 n7 h1;go_enter Tryz.func164,Tryz.ntmps164;go_wp2_with fail
 refine(HA.out _ (Below.refl _ _)).mono ?_;rintro e w1⟨rfl,hb1⟩;have HB1:=hide (hb1);clear hb1;go_wp2_with fail
 refine(HI.out _ HB1.out).mono ?_;rintro e w2⟨rfl,hw⟩;rw[hw];clear hw;go_wp2_with fail
 go_ret;exact⟨rfl,HB1.out⟩
theorem cisSound2 (h:NR w p v)(hk:Ky v)(h1:v.kind=2)(hc:∀i,i<v.cells.length→∀X,Calls Tryz.prog 194 #[.string (tx v.cells i)] X fun e w'=>e=.returned (.bool true)∧Below X.heap.size X w')(h0:0<v.cells.length)(hlow:klt v.low (keyB (tx v.cells 0))=true):Calls Tryz.prog 164 #[(.pointer (some ⟨p,0,none⟩))] w fun e w'=>e=.returned (.bool true)∧Below w.heap.size w w':=by
 have eg:∀args w,(callFunc 194 args).run Tryz.prog w=.ok (.enter 194 args) w:=fun args w=>by go_simp
 have hN:∀(X:World) (hX:Below w.heap.size w X),NR X p v:=fun X hX=>by
  obtain⟨a,c,q1,q2⟩:=h;refine⟨a,c,(hX.block p (Array.getElem?_eq_some_iff.1 q1).1).trans q1,?_⟩;rcases q2 with q2|⟨b,off,cur,e,hb,hc⟩
  ·exact .inl q2
  ·exact .inr ⟨b,off,cur,e,(hX.block b (Array.getElem?_eq_some_iff.1 hb).1).trans hb,hc⟩
 have HA:=hide (fun(X:World) (hX:Below w.heap.size w X)=>callAre (hN X hX) hk.few 194 eg hc);have HI:=hide (fun(X:World) (hX:Below w.heap.size w X)=>cinOrder (hN X hX) hk);have HK:=hide (fun(X:World) (hX:Below w.heap.size w X)=>ckeyN (hN X hX) 0 h0 (hk.key 0 h0).1 (hk.key 0 h0).2);have HN:=hide (fun(X:World) (hX:Below w.heap.size w X)=>(show ∃a c,X.cell? ⟨p,2,none⟩=some (.slice a v.cells.length c)∧X.cell? ⟨p,4,none⟩=some (.string v.low)∧p<X.heap.size from by
  obtain⟨a,c,q1,q2⟩:=hN X hX;obtain⟨n0,n1,n2,n3,n4,n5,n6,n7,n8⟩:=q1.cells;exact⟨a,c,n2,n4,n8⟩))
 obtain⟨a,c,q1,q2⟩:=h;obtain⟨n0,n1,n2,n3,n4,n5,n6,n7,n8⟩:=q1.cells;rw[h1] at n0;have f1:Op.bytesLess (keyB (tx v.cells 0)).toList v.low.toList=false:=klt_asy hlow;have f2:=beq_ne hlow;have hlen:(0:Int)<(v.cells.length:Int):=by omega
 generalize keyB (tx v.cells 0)=k0 at *;generalize v.cells.length=L at *;clear eg q1 q2 hk hc n1 n3 n4 n5 n6 n7 h1 hN hlow;go_enter Tryz.func164,Tryz.ntmps164;go_wp2_with fail
 go_region_with (first | (go_at_call 191;refine(HA.out _ ((Below.refl _ _).drew)).mono ?_;rintro e w1⟨rfl,hb1⟩;have HB1:=hide (((Below.refl w.heap.size w).drew).trans (hb1.mono (Nat.le_refl _)));obtain⟨a1,c1,x2,x4,x8⟩:=HN.out _ HB1.out;clear hb1) | (go_at_call 193;refine(HI.out _ HB1.out).mono ?_;rintro e w2⟨rfl,hw⟩;rw[hw];clear hw) | (go_at_call 144;refine(HK.out _ HB1.out).mono ?_;rintro e w3⟨rfl,hw⟩;rw[hw];clear hw))
 all_goals
  go_wp2;go_ret;exact⟨rfl,HB1.out⟩
def nvT (d:Nat)(x:T d)(lo hi:ByteArray)(tk:Nat):NV:=⟨kindT d,linkT d x,cellsT d x,numT d x,lo,hi,tk⟩
def keysT:(d:Nat)→T d→List ByteArray
 | 0,t=>t.its.map (·.key)
 | _+1,t=>t.kids.tail.map (·.1)
theorem keys_len (d:Nat)(x:T d):(keysT d x).length=(cellsT d x).length:=by cases d<;>simp[keysT,cellsT]
theorem tx_get {i:Nat}(h:i<l.length):tx l i=l[i]:=by simp[tx,h]
theorem cells_key (d:Nat){x:T d}(h:Bnd d lo hi x)(i:Nat)(hi':i<(cellsT d x).length):keyB (tx (cellsT d x) i)=tx (keysT d x) i∧kS (tx (cellsT d x) i)≤(tx (cellsT d x) i).size∧okK (tx (keysT d x) i)∧∀X,Calls Tryz.prog (match d with | 0=>192 | _+1=>194) #[.string (tx (cellsT d x) i)] X fun e w'=>e=.returned (.bool true)∧Below X.heap.size X w':=by
 cases d with
 | zero =>
  have hl:i<x.its.length:=by simpa[cellsT] using hi'
  have e1:tx (cellsT 0 x) i=cellI x.its[i]:=by rw[tx_get hi'];simp[cellsT]
  have e2:tx (keysT 0 x) i=x.its[i].key:=by rw[tx_get (by rw[keys_len];exact hi')];simp[keysT]
  have hok:=(BI_mem h _ (List.getElem_mem hl)).1;rw[e1,e2];exact⟨(cellI_key hok).1,(cellI_key hok).2.1,hok.key,fun X=>cisEntry _ hok X⟩
 | succ d =>
  obtain⟨⟨p,r,e,hp⟩,hb⟩:=h;have hl:i<x.kids.tail.length:=by simpa[cellsT] using hi'
  have e1:tx (cellsT (d+1) x) i=childB x.kids.tail[i].1 (numT d x.kids.tail[i].2):=by rw[tx_get hi'];simp only[cellsT,List.getElem_map]
  have e2:tx (keysT (d+1) x) i=x.kids.tail[i].1:=by rw[tx_get (by rw[keys_len];exact hi')];simp only[keysT,List.getElem_map]
  have hok:okK x.kids.tail[i].1:=by
   have hm:x.kids.tail[i]∈r:=by
    have:=List.getElem_mem hl;have e3:x.kids.tail=r:=by rw[e];rfl
    rw[←e3];exact this
   rw[e] at hb;exact hb.2.2.1 _ hm
  rw[e1,e2];refine⟨(childB_key hok _).1,(childB_key hok _).2.1,hok,fun X=>(cisChild _ _ X hok).mono ?_⟩;rintro e w'⟨rfl,rfl⟩;exact⟨rfl,Below.refl _ _⟩
theorem keys_sort:∀(d:Nat) {lo hi:ByteArray} {x:T d},Bnd d lo hi x→(∀k∈keysT d x,klt k lo=false∧ltB k hi)∧(keysT d x).Pairwise (fun a b=>klt a b=true)∧(0<d→∀k∈keysT d x,klt lo k=true)
 | 0, lo, hi, x, h => by
  refine⟨fun k hk=>?_,?_,fun h=>absurd h (Nat.lt_irrefl 0)⟩
  ·obtain⟨i,hi',rfl⟩:=List.mem_map.1 hk;exact⟨(BI_mem h i hi').2.1,(BI_mem h i hi').2.2⟩
  ·show(x.its.map (·.key)).Pairwise _;have h:BI lo x.its hi:=h
   revert h
   induction x.its with
   | nil=>intro _;exact List.Pairwise.nil
   | cons i r ih =>
    rintro⟨h1,h2,h3,h4,h5⟩;refine List.Pairwise.cons (fun k hk=>?_) (ih h5);obtain⟨j,hj,rfl⟩:=List.mem_map.1 hk;exact h4 j hj
 | d + 1, lo, hi, x, ⟨⟨p, r, e, hp⟩, hb⟩ => by
  have e3:keysT (d+1) x=r.map (·.1):=by show x.kids.tail.map _=_;rw[e];rfl
  have key:∀(s:List (ByteArray×T d)) (q:ByteArray×T d),BS (Bnd d) (q::s) hi→(∀k∈s.map (·.1),klt q.1 k=true∧ltB k hi)∧(s.map (·.1)).Pairwise (fun a b=>klt a b=true):=by
   intro s
   induction s with
   | nil=>intro q _;exact⟨by simp,List.Pairwise.nil⟩
   | cons u s ih =>
    rintro q⟨h1,h2,h3,h4⟩;obtain⟨g1,g2⟩:=ih u h4;have hqu:klt q.1 u.1=true:=ltB_ne h1 (h3 u (List.mem_cons_self ..));refine⟨fun k hk=>?_,List.Pairwise.cons (fun k hk=>(g1 k hk).1) g2⟩;rcases List.mem_cons.1 hk with rfl|hk
    ·exact⟨hqu,bs_ltB d (u::s) hi h4 (List.cons_ne_nil _ _)⟩
    ·exact⟨klt_tr hqu (g1 k hk).1,(g1 k hk).2⟩
  rw[e] at hb;obtain⟨g1,g2⟩:=key r p hb;rw[hp] at g1;rw[e3];exact⟨fun k hk=>⟨klt_asy (g1 k hk).1,(g1 k hk).2⟩,g2,fun _ k hk=>(g1 k hk).1⟩
theorem Ky_of {x:T d}(h:Bnd d lo hi x)(hl:(cellsT d x).length≤1000)(tk:Nat):Ky (nvT d x lo hi tk):=by
 obtain⟨g1,g2,g3⟩:=keys_sort d h;have hm:∀i,i<(cellsT d x).length→tx (keysT d x) i∈keysT d x:=fun i hi=>by rw[tx_get (by rw[keys_len];exact hi)];exact List.getElem_mem _
 refine⟨hl,fun i hi'=>⟨(cells_key d h i hi').2.1,?_⟩,fun i hi'=>?_,fun i hi'=>?_,fun i hi'=>?_⟩
 ·have hi':i<(cellsT d x).length:=hi';have:tx (cellsT d x) i∈cellsT d x:=by rw[tx_get hi'];exact List.getElem_mem _
  exact cells_sz d h _ this
 ·rw[show(nvT d x lo hi tk).cells=cellsT d x from rfl,(cells_key d h i hi').1];exact(g1 _ (hm i hi')).1
 ·rw[show(nvT d x lo hi tk).cells=cellsT d x from rfl,(cells_key d h i hi').1];exact(g1 _ (hm i hi')).2
 ·have hi':i+1<(cellsT d x).length:=hi';rw[show(nvT d x lo hi tk).cells=cellsT d x from rfl,(cells_key d h i (by omega)).1,(cells_key d h (i+1) hi').1];rw[tx_get (by rw[keys_len];omega),tx_get (by rw[keys_len];omega)];exact List.pairwise_iff_getElem.1 g2 i (i+1) (by rw[keys_len];omega) (by rw[keys_len];omega) (by omega)
theorem csound {x:T d}(h:Bnd d lo hi x)(hl:(cellsT d x).length≤1000)(hs:d=0∨¬cellsT d x=[])(hn:NR w p (nvT d x lo hi 0)):Calls Tryz.prog 164 #[(.pointer (some ⟨p,0,none⟩))] w fun e w'=>e=.returned (.bool true)∧Below w.heap.size w w':=by
 cases d with
 | zero=>exact cisSound1 hn (Ky_of h hl 0) rfl (fun i hi'=>(cells_key 0 h i hi').2.2.2)
 | succ d =>
  have hs:=List.length_pos_iff.2 (hs.resolve_left (by omega));refine cisSound2 hn (Ky_of h hl 0) rfl (fun i hi'=>(cells_key (d+1) h i hi').2.2.2) hs ?_;rw[show(nvT (d+1) x lo hi 0).cells=cellsT (d+1) x from rfl,(cells_key (d+1) h 0 hs).1];exact(keys_sort (d+1) h).2.2 (by omega) _ (by rw[tx_get (by rw[keys_len];exact hs)];exact List.getElem_mem _)
section
variable {pk:Nat}
theorem used_few (h:usedC l≤1012):l.length≤1000:=by
 have:=used_len l;omega
theorem cload (h:TS w B D Gp V K pk m A fl pages)(hm:m≤40000)(ht:TB w tb Gp root){x:T d}(hn:numT d x<pages)(hA:A (numT d x)=pgT d x)(hb:Bnd d lo hi x)(hs:d=0∨¬cellsT d x=[]):Calls Tryz.prog 105 #[(.pointer (some ⟨tb,0,none⟩)),.int .i64 (numT d x:Int),.string lo,.string hi] w fun e w'=>∃(V':PV) (p:Nat),e=.returned (.pointer (some ⟨p,0,none⟩))∧TS w' B D Gp V' K pk m A fl pages∧St2 w w' B V V'∧ND w' w.heap.size p (nvT d x lo hi 0)∧w.heap.size≤p:=by
 obtain⟨t0,t1,tlt⟩:=ht.cells;have hu:usedC (cellsT d x)≤1012:=by
  obtain⟨C,_,hC⟩:=h.po;have:=(hC _ hn).2.used;rw[hA] at this;exact this
 have HR:=hide (ctread h (by omega) ht _ hn);rw[hA] at HR;have HSND:=hide (fun(X:World) (p:Nat) (hN:NR X p (nvT d x lo hi 0))=>csound hb (used_few hu) hs hN);have HSZ:=hide (h.lo);clear h hA hb hs ht hn hu;go_enter Tryz.func105,Tryz.ntmps105;go_wp2_with fail
 refine HR.out.mono ?_;rintro e w1⟨V1,s,rfl,k1,k2,k3⟩;obtain⟨a,c,rfl,-⟩:=StB.own (l:=(pgT d x).cells) k3;obtain⟨q1,q2⟩:=k1.below (w':=w1.alloc (.cells (ndC (nvT d x lo hi 0) (.slice a (cellsT d x).length c)) 98)) ((Below.refl _ _).alloc (Nat.le_refl _) _);have hnd:ND (w1.alloc (.cells (ndC (nvT d x lo hi 0) (.slice a (cellsT d x).length c)) 98)) w.heap.size w1.heap.size (nvT d x lo hi 0):=⟨_,World.alloc_heap_new w1 _,own_below k3 ((Below.refl _ _).alloc (Nat.le_refl _) _)⟩;have HND:=hide (hnd);have HQ:=hide (show TS (w1.alloc (.cells (ndC (nvT d x lo hi 0) (.slice a (cellsT d x).length c)) 98)) B D Gp V1 K pk m A fl pages∧St2 w (w1.alloc (.cells (ndC (nvT d x lo hi 0) (.slice a (cellsT d x).length c)) 98)) B V V1∧w.heap.size≤w1.heap.size from⟨q1,k2.trans q2,k2.bel.size⟩);have HS2:=hide (HSND.out _ _ hnd.nr);have he:(w1.alloc (.cells (ndC (nvT d x lo hi 0) (.slice a (cellsT d x).length c)) 98))=w1.alloc (.cells #[.int .i64 ((pgT d x).kind:Int),.int .i64 ((pgT d x).link:Int),.slice a (pgT d x).cells.length c,.int .i64 (numT d x:Int),.string lo,.string hi,.int .i64 0] 98):=rfl;rw[he] at HND HQ HS2;generalize (pgT d x).kind=kd at *;generalize (pgT d x).link=lk at *;generalize hcl:(pgT d x).cells.length=cl at *;clear k1 k2 k3 q1 q2 hnd HR HSND he hcl;go_wp2_with fail
 refine HS2.out.mono ?_;rintro e w2⟨rfl,hb2⟩;have HB2:=hide (hb2);clear hb2;go_wp2_with fail
 go_ret;obtain⟨q1,q2,q3⟩:=HQ.out;obtain⟨r1,r2⟩:=q1.below HB2.out;exact⟨V1,w1.heap.size,rfl,r1,q2.trans r2,q1.stayND r2 HND.out,q3⟩
end
theorem frm_cells (s1:List (ByteArray×T d))(k:ByteArray)(x:T d)(s2:List (ByteArray×T d)):cellsT (d+1) (frm num s1 k x s2)=(s1++(k,x)::s2).tail.map fun p=>childB p.1 (numT d p.2):=rfl
theorem frm_at {s1 s2:List (ByteArray×T d)}{x:T d}(h:0<s1.length):s1.length-1<(cellsT (d+1) (frm num s1 k x s2)).length∧tx (cellsT (d+1) (frm num s1 k x s2)) (s1.length-1)=childB k (numT d x):=by
 rw[frm_cells];cases s1 with
 | nil=>simp at h
 | cons p r =>
  have hl:r.length<((r++(k,x)::s2).map fun p=>childB p.1 (numT d p.2)).length:=by simp
  refine⟨by simp,?_⟩;show tx ((r++(k,x)::s2).map fun p=>childB p.1 (numT d p.2)) r.length=_;rw[tx_get hl];simp
theorem frm_len {s1 s2:List (ByteArray×T d)}{x:T d}:(cellsT (d+1) (frm num s1 k x s2)).length=s1.length+s2.length:=by
 rw[frm_cells];simp
theorem frm_next {s1 s2:List (ByteArray×T d)}{k':ByteArray}{x y:T d}:tx (cellsT (d+1) (frm num s1 k x ((k',y)::s2))) s1.length=childB k' (numT d y):=by
 have hl:s1.length<(cellsT (d+1) (frm num s1 k x ((k',y)::s2))).length:=by rw[frm_len];simp
 rw[tx_get hl];simp only[frm_cells];cases s1 with
 | nil=>simp
 | cons p r=>simp
section
variable {pk:Nat}
theorem NR.at (h:NR w p v):∃a c,w.cell? ⟨p,1,none⟩=some (.int .i64 (v.link:Int))∧w.cell? ⟨p,2,none⟩=some (.slice a v.cells.length c)∧w.cell? ⟨p,4,none⟩=some (.string v.low)∧w.cell? ⟨p,5,none⟩=some (.string v.high)∧p<w.heap.size∧∀i,i<v.cells.length→∃b off,a=some ⟨b,off,none⟩∧b<w.heap.size∧w.cell? ⟨b,off+i,none⟩=some (.string (tx v.cells i)):=by
 obtain⟨a,c,q1,q2⟩:=h;obtain⟨n0,n1,n2,n3,n4,n5,n6,n7,n8⟩:=q1.cells;refine⟨a,c,n1,n2,n4,n5,n8,fun i hi=>?_⟩;rcases q2.sta with e|⟨b,off,e,hb,hc⟩
 ·omega
 ·exact⟨b,off,e,hb,hc i hi⟩
theorem cchildN (h:TS w B D Gp V K pk m A fl pages)(hm:m≤40000)(ht:TB w tb Gp root){s1 s2:List (ByteArray×T d)}{x:T d}{tk:Nat}(hN:NR w p (nvT (d+1) (frm num s1 k x s2) lo hi tk))(hB:Bnd (d+1) lo hi (frm num s1 k x s2))(hl:(cellsT (d+1) (frm num s1 k x s2)).length≤1000)(hn:numT d x<pages)(hA:A (numT d x)=pgT d x)(hs:d=0∨¬cellsT d x=[]):Calls Tryz.prog 103 #[(.pointer (some ⟨tb,0,none⟩)),(.pointer (some ⟨p,0,none⟩)),.int .i64 (s1.length:Int)] w fun e w'=>∃(V':PV) (q:Nat),e=.returned (.pointer (some ⟨q,0,none⟩))∧TS w' B D Gp V' K pk m A fl pages∧St2 w w' B V V'∧ND w' w.heap.size q (nvT d x k (nxt s2 hi) 0)∧w.heap.size≤q:=by
 have hbs:BS (Bnd d) (s1++(k,x)::s2) hi:=hB.2;obtain⟨⟨p0,r0,e0,hp0⟩,-⟩:=hB;have e0:s1++(k,x)::s2=p0::r0:=e0;rw[BS_app] at hbs;obtain⟨-,⟨-,hbx,hok2,-⟩,hok1⟩:=hbs;have hbx:Bnd d k (nxt s2 hi) x:=hbx;have hpg:=h.flsmall.2;have HLD:=hide (fun(X:World) (hX:Below w.heap.size w X)=>cload (h.below hX).1 hm ((h.stayTB (h.below hX).2 ht)) hn hA hbx hs);have HKB:=hide (fun(X:World) (hX:Below w.heap.size w X)=>(h.below hX).2);obtain⟨a,c,n1,n2,n4,n5,n8,hcell⟩:=hN.at
 replace n1:w.cell? ⟨p,1,none⟩=some (.int .i64 (linkT (d+1) (frm num s1 k x s2):Int)):=n1
 replace n2:w.cell? ⟨p,2,none⟩=some (.slice a (cellsT (d+1) (frm num s1 k x s2)).length c):=n2
 replace n4:w.cell? ⟨p,4,none⟩=some (.string lo):=n4
 replace n5:w.cell? ⟨p,5,none⟩=some (.string hi):=n5
 have hlen:=frm_len (num:=num) (s1:=s1) (s2:=s2) (k:=k) (x:=x)
 replace hcell:∀i,i<(cellsT (d+1) (frm num s1 k x s2)).length→∃b off,a=some ⟨b,off,none⟩∧b<w.heap.size∧w.cell? ⟨b,off+i,none⟩=some (.string (tx (cellsT (d+1) (frm num s1 k x s2)) i)):=hcell
 rw[hlen] at n2 hcell hl;by_cases hz:s1=[]
 ·cases s2 with
  | nil =>
   obtain rfl:s1=[]:=hz;have hk:k=lo:=by simp at e0;rw[←hp0,←e0.1]
   have hlk:linkT (d+1) (frm num [] k x [])=numT d x:=rfl;rw[hlk] at n1;rw[hk] at HLD;have HKE:=hide (hk);clear hlk hok1 e0 hp0;simp only[List.length_nil,Nat.zero_add,Int.natCast_zero] at n2 hcell hl ⊢;have hn2:nxt ([]:List (ByteArray×T d)) hi=hi:=rfl;rw[hn2] at HLD;clear hcell;go_enter Tryz.func103,Tryz.ntmps103;go_wp2_with fail
   go_quiet (fail)
   go_wp2_with fail
   refine(HLD.out _ (by first | exact drawnB w _ | exact(drawnB w _).drew)).mono ?_;rintro e w9⟨V9,q9,rfl,z1,z2,z3,z4⟩;have HK:=hide (show TS w9 B D Gp V9 K pk m A fl pages∧St2 w w9 B V V9∧ND w9 w.heap.size q9 (nvT d x lo hi 0)∧w.heap.size≤q9 from⟨z1,(HKB.out _ (by first | exact drawnB w _ | exact(drawnB w _).drew)).trans z2,z3,z4⟩);clear z1 z2 z3 z4 HLD;go_wp2_with fail
   go_ret;exact⟨V9,q9,rfl,by rw[HKE.out];exact HK.out⟩
  | cons qq s2 =>
   obtain⟨k2,y2⟩:=qq;obtain rfl:s1=[]:=hz;have hk:k=lo:=by simp at e0;rw[←hp0,←e0.1]
   have hlk:linkT (d+1) (frm num [] k x ((k2,y2)::s2))=numT d x:=rfl;rw[hlk] at n1;rw[hk] at HLD;have HKE:=hide (hk);clear hlk hok1 e0 hp0;simp only[List.length_nil,Nat.zero_add,Int.natCast_zero] at n2 hcell hl ⊢;have hn2:nxt ((k2,y2)::s2) hi=k2:=rfl;rw[hn2] at HLD;have hokk2:okK k2:=hok2 (k2,y2) (List.mem_cons_self ..);obtain⟨u1,u2,u3,u4⟩:=childB_key hokk2 (numT d y2);have usz:=childB_sz k2 (numT d y2);have hkk2:=hokk2.2;obtain⟨b',off',hab',hbl',hx2⟩:=hcell 0 (by simp);rw[show tx (cellsT (d+1) (frm num [] k x ((k2,y2)::s2))) 0=childB k2 (numT d y2) from frm_next] at hx2;have HKO2:=hide (fun(X:World)=>ckeyOf (childB k2 (numT d y2)) X u2 (by omega));rw[u1] at HKO2;generalize childB k2 (numT d y2)=cc2 at *;clear u1 u2 u3 u4 usz hokk2;subst hab';obtain⟨L,hL⟩:∃L,L=((k2,y2)::s2).length:=⟨_,rfl⟩;rw[←hL] at n2;have hi2:(0:Int)<(L:Int):=by rw[hL];simp<;>omega
   rw[Nat.add_zero] at hx2;clear hcell hL;go_enter Tryz.func103,Tryz.ntmps103;go_wp2_with fail
   go_quiet (fail)
   go_wp2_with fail
   refine(HKO2.out _).mono ?_;rintro e w5⟨rfl,hw⟩;rw[hw];clear hw;go_wp2_with fail
   refine(HLD.out _ (by first | exact drawnB w _ | exact(drawnB w _).drew)).mono ?_;rintro e w9⟨V9,q9,rfl,z1,z2,z3,z4⟩;have HK:=hide (show TS w9 B D Gp V9 K pk m A fl pages∧St2 w w9 B V V9∧ND w9 w.heap.size q9 (nvT d x lo k2 0)∧w.heap.size≤q9 from⟨z1,(HKB.out _ (by first | exact drawnB w _ | exact(drawnB w _).drew)).trans z2,z3,z4⟩);clear z1 z2 z3 z4 HLD;go_wp2_with fail
   go_ret;exact⟨V9,q9,rfl,by rw[HKE.out];exact HK.out⟩
 ·cases s2 with
  | nil =>
   have hpos:0<s1.length:=List.length_pos_iff.2 hz;obtain⟨f1,f2⟩:=frm_at (num:=num) (s2:=[]) (k:=k) (x:=x) hpos;obtain⟨b,off,hab,hbl,hx1⟩:=hcell (s1.length-1) (by simp;omega);rw[f2] at hx1;have hokk:okK k:=(hok1.resolve_left hz) (k,x) (List.mem_cons_self ..);obtain⟨c1,c2,c3,c4⟩:=childB_key hokk (numT d x);have csz:=childB_sz k (numT d x);have hk2:=hokk.2;have HPO:=hide (fun(X:World)=>cpageOf (childB k (numT d x)) X (by omega) (by omega));rw[num_child k (by omega)] at HPO;have HKO:=hide (fun(X:World)=>ckeyOf (childB k (numT d x)) X c2 (by omega));rw[c1] at HKO;have HX:=hide (fun(b off:Nat) (hb:a=some ⟨b,off,none⟩) (e:Nat) (he:w.cell? ⟨b,off+(s1.length-1),none⟩=w.cell? ⟨b,off+(s1.length-1),none⟩)=>he);clear HX;generalize childB k (numT d x)=cc at *;clear c1 c2 c3 c4 csz hokk f1 f2 hok1 hz e0 hp0;have hn2:nxt ([]:List (ByteArray×T d)) hi=hi:=rfl;rw[hn2] at HLD;subst hab;obtain⟨j1,hj1⟩:∃j,s1.length=j+1:=⟨s1.length-1,by omega⟩;have hj2:s1.length-1=j1:=by omega
   rw[hj2] at hx1;have hw1:wrap64 (((j1+1:Nat):Int)-1)=(j1:Int):=by unfold wrap64;omega
   have hw2:IntKind.i64.wrap (((j1+1:Nat):Int)-1)=(j1:Int):=by rw[IntKind.wrap_i64];omega
   have hw3:IntKind.i64.wrap (j1:Int)=(j1:Int):=by rw[IntKind.wrap_i64];omega
   obtain⟨L,hL⟩:∃L,L=s1.length+(([]:List (ByteArray×T d))).length:=⟨_,rfl⟩;rw[←hL] at n2;have hlt1:(j1:Int)<(L:Int):=by omega
   have hi0:(0:Int)<(s1.length:Int):=by omega
   have hi2:¬(s1.length:Int)<(L:Int):=by rw[hL];simp
   clear hcell hj2 hpos;generalize s1.length=ii at *;clear hL;subst hj1;go_enter Tryz.func103,Tryz.ntmps103;go_wp2_with fail
   go_quiet (fail)
   go_wp2_with fail
   go_region_with (first | (go_at_call 161;refine(HPO.out _).mono ?_;rintro e w1⟨rfl,hw⟩;rw[hw];clear hw) | (go_at_call 149;refine(HKO.out _).mono ?_;rintro e w2⟨rfl,hw⟩;rw[hw];clear hw))
   all_goals
    go_wp2_with fail
    refine(HLD.out _ (by first | exact drawnB w _ | exact(drawnB w _).drew)).mono ?_;rintro e w9⟨V9,q9,rfl,z1,z2,z3,z4⟩;have HK:=hide (show TS w9 B D Gp V9 K pk m A fl pages∧St2 w w9 B V V9∧ND w9 w.heap.size q9 (nvT d x k hi 0)∧w.heap.size≤q9 from⟨z1,(HKB.out _ (by first | exact drawnB w _ | exact(drawnB w _).drew)).trans z2,z3,z4⟩);clear z1 z2 z3 z4 HLD;go_wp2_with fail
    go_ret;exact⟨V9,q9,rfl,HK.out⟩
  | cons qq s2 =>
   obtain⟨k2,y2⟩:=qq;have hpos:0<s1.length:=List.length_pos_iff.2 hz;obtain⟨f1,f2⟩:=frm_at (num:=num) (s2:=((k2,y2)::s2)) (k:=k) (x:=x) hpos;obtain⟨b,off,hab,hbl,hx1⟩:=hcell (s1.length-1) (by simp;omega);rw[f2] at hx1;have hokk:okK k:=(hok1.resolve_left hz) (k,x) (List.mem_cons_self ..);obtain⟨c1,c2,c3,c4⟩:=childB_key hokk (numT d x);have csz:=childB_sz k (numT d x);have hk2:=hokk.2;have HPO:=hide (fun(X:World)=>cpageOf (childB k (numT d x)) X (by omega) (by omega));rw[num_child k (by omega)] at HPO;have HKO:=hide (fun(X:World)=>ckeyOf (childB k (numT d x)) X c2 (by omega));rw[c1] at HKO;have HX:=hide (fun(b off:Nat) (hb:a=some ⟨b,off,none⟩) (e:Nat) (he:w.cell? ⟨b,off+(s1.length-1),none⟩=w.cell? ⟨b,off+(s1.length-1),none⟩)=>he);clear HX;generalize childB k (numT d x)=cc at *;clear c1 c2 c3 c4 csz hokk f1 f2 hok1 hz e0 hp0;have hn2:nxt ((k2,y2)::s2) hi=k2:=rfl;rw[hn2] at HLD;have hokk2:okK k2:=hok2 (k2,y2) (List.mem_cons_self ..);obtain⟨u1,u2,u3,u4⟩:=childB_key hokk2 (numT d y2);have usz:=childB_sz k2 (numT d y2);have hkk2:=hokk2.2;obtain⟨b',off',hab',hbl',hx2⟩:=hcell s1.length (by simp);rw[show tx (cellsT (d+1) (frm num s1 k x ((k2,y2)::s2))) s1.length=childB k2 (numT d y2) from frm_next] at hx2;have HKO2:=hide (fun(X:World)=>ckeyOf (childB k2 (numT d y2)) X u2 (by omega));rw[u1] at HKO2;generalize childB k2 (numT d y2)=cc2 at *;clear u1 u2 u3 u4 usz hokk2;subst hab;injection hab' with hab';injection hab' with e1 e2 _;subst e1 e2;clear hbl';obtain⟨j1,hj1⟩:∃j,s1.length=j+1:=⟨s1.length-1,by omega⟩;have hj2:s1.length-1=j1:=by omega
   rw[hj2] at hx1;have hw1:wrap64 (((j1+1:Nat):Int)-1)=(j1:Int):=by unfold wrap64;omega
   have hw2:IntKind.i64.wrap (((j1+1:Nat):Int)-1)=(j1:Int):=by rw[IntKind.wrap_i64];omega
   have hw3:IntKind.i64.wrap (j1:Int)=(j1:Int):=by rw[IntKind.wrap_i64];omega
   obtain⟨L,hL⟩:∃L,L=s1.length+((k2,y2)::s2).length:=⟨_,rfl⟩;rw[←hL] at n2;have hlt1:(j1:Int)<(L:Int):=by omega
   have hi0:(0:Int)<(s1.length:Int):=by omega
   have hi2:(s1.length:Int)<(L:Int):=by rw[hL];simp;omega
   clear hcell hj2 hpos;generalize s1.length=ii at *;clear hL;subst hj1;go_enter Tryz.func103,Tryz.ntmps103;go_wp2_with fail
   go_quiet (fail)
   go_wp2_with fail
   go_region_with (first | (go_at_call 161;refine(HPO.out _).mono ?_;rintro e w1⟨rfl,hw⟩;rw[hw];clear hw) | (go_at_call 149;refine(HKO.out _).mono ?_;rintro e w2⟨rfl,hw⟩;rw[hw];clear hw))
   all_goals
    go_wp2_with fail
    refine(HKO2.out _).mono ?_;rintro e w5⟨rfl,hw⟩;rw[hw];clear hw;go_wp2_with fail
    refine(HLD.out _ (by first | exact drawnB w _ | exact(drawnB w _).drew)).mono ?_;rintro e w9⟨V9,q9,rfl,z1,z2,z3,z4⟩;have HK:=hide (show TS w9 B D Gp V9 K pk m A fl pages∧St2 w w9 B V V9∧ND w9 w.heap.size q9 (nvT d x k k2 0)∧w.heap.size≤q9 from⟨z1,(HKB.out _ (by first | exact drawnB w _ | exact(drawnB w _).drew)).trans z2,z3,z4⟩);clear z1 z2 z3 z4 HLD;go_wp2_with fail
    go_ret;exact⟨V9,q9,rfl,HK.out⟩
theorem ctop (h:TS w B D Gp V K pk m A fl pages)(hm:m≤40000){x:T d}(ht:TB w tb Gp (numT d x))(hn:numT d x<pages)(hA:A (numT d x)=pgT d x)(hb:Bnd d ⟨#[]⟩ ⟨#[]⟩ x)(hs:d=0∨¬cellsT d x=[]):Calls Tryz.prog 60 #[(.pointer (some ⟨tb,0,none⟩))] w fun e w'=>∃(V':PV) (p:Nat),e=.returned (.pointer (some ⟨p,0,none⟩))∧TS w' B D Gp V' K pk m A fl pages∧St2 w w' B V V'∧ND w' w.heap.size p (nvT d x ⟨#[]⟩ ⟨#[]⟩ 0)∧w.heap.size≤p:=by
 obtain⟨t0,t1,tlt⟩:=ht.cells;have HL:=hide (cload h hm ht hn hA hb hs);clear h ht hA hb hs;go_enter Tryz.func60,Tryz.ntmps60;go_wp2_with fail
 refine HL.out.mono ?_;rintro e w1⟨V1,p,rfl,k⟩;have HK:=hide (k);clear k HL;go_wp2_with fail
 go_ret;exact⟨V1,p,rfl,HK.out⟩
end
end Go.Proofs.YtiaibgfhigdgdaaGreat
