/- package tree: nodes: which cells are sound, keys in order -/
import Derived.Test.YtmgjdjjfeapcdaaGreatMgAM
namespace Go.Proofs.YtmgjdjjfeapcdaaGreat
open Go.RowKit Go.Lib Go.Maps Go.Sort
attribute [local go_sem ↓] Go.wp_at_zero Go.wp_at_succ
theorem ie_ne {r:ByteArray} (h:0<r.size):r.toList.isEmpty=false:=by
  rw [ByteArray.toList_eq]
  cases hq:r.data.toList with
  | nil =>
    have:r.data.toList.length=0:=by rw [hq];rfl
    have h2:r.data.size=0:=by simpa using this
    have:r.size=0:=h2
    omega
  | cons a l=>rfl
theorem ie_nil:(⟨#[]⟩:ByteArray).toList.isEmpty=true:=by rw [ByteArray.toList_eq];rfl
set_option maxRecDepth 20000 in
theorem cisEntry_in (c k r:ByteArray) (w:World) (hk:isKeyedB c=true) (hkb:keyB c=k) (hrb:restB c=r) (hc:kS c≤c.size) (hs:c.size≤240) (h0:0<r.size) (hb:bytS r 0=0) (hr:r.size≤240) (hkz:k.size≤200) (hf:2+k.size+(r.size - 1)≤240) :
    Calls Tryz.prog 192 #[.string c] w fun e w'=>e=.returned (.bool true)∧w'=w:=by
  have H1:=hide (fun X=>cisKeyed c X (by omega))
  rw [hk] at H1
  have H2:=hide (fun X=>crestOf c X hc (by omega))
  have H3:=hide (fun X=>ckeyOf c X hc (by omega))
  rw [hrb] at H2
  rw [hkb] at H3
  obtain ⟨n,hn⟩:∃ n:Nat,r.size=n+1:=⟨r.size - 1,by omega⟩
  have H4:=hide (fun X=>cfits k n X (by omega) (by omega))
  rw [decide_eq_true (show 2+k.size+n≤240 by omega)] at H4
  have hw:wrap64 ((r.size:Int) - 1)=(n:Int):=by unfold wrap64;omega
  have g0:=bytS_get h0
  rw [hb] at g0
  have he:=ie_ne h0
  clear hk hkb hrb hc hf hb
  go_enter Tryz.func192,Tryz.ntmps192
  go_wp2_with fail
  refine (H1.out _).mono ?_
  rintro e w1 ⟨rfl,hw⟩;rw [hw];clear hw
  go_wp2_with fail
  refine (H2.out _).mono ?_
  rintro e w2 ⟨rfl,hw⟩;rw [hw];clear hw
  go_wp2_with fail
  refine (H3.out _).mono ?_
  rintro e w3 ⟨rfl,hw⟩;rw [hw];clear hw
  go_wp2_with fail
  refine (H2.out _).mono ?_
  rintro e w4 ⟨rfl,hw⟩;rw [hw];clear hw
  go_wp2_with fail
  refine (H4.out _).mono ?_
  rintro e w5 ⟨rfl,hw⟩;rw [hw];clear hw
  go_wp2_with fail
  go_ret
  exact ⟨rfl,rfl⟩
set_option maxRecDepth 20000 in
theorem cisEntry_long (c k r:ByteArray) (w:World) (hk:isKeyedB c=true) (hkb:keyB c=k) (hrb:restB c=r) (hc:kS c≤c.size) (hs:c.size≤240) (h7:r.size=7) (hb:bytS r 0=1) (hkz:k.size≤200) (n:Nat) (hn:bytS r 1 * 256+bytS r 2=n) (hn2:n≤3000) (hf:¬ 2+k.size+n≤240) :
    Calls Tryz.prog 192 #[.string c] w fun e w'=>e=.returned (.bool true)∧Below w.heap.size w w':=by
  have H1:=hide (fun X=>cisKeyed c X (by omega))
  rw [hk] at H1
  have H2:=hide (fun X=>crestOf c X hc (by omega))
  have H3:=hide (fun X=>ckeyOf c X hc (by omega))
  have H5:=hide (fun X=>clongSize c X hc (by omega) (by rw [hrb];omega))
  rw [hrb] at H2 H5
  rw [hkb] at H3
  rw [hn] at H5
  have H4:=hide (fun X=>cfits k n X (by omega) (by omega))
  rw [decide_eq_false hf] at H4
  have g0:=bytS_get (show 0<r.size by omega)
  rw [hb] at g0
  have he:=ie_ne (show 0<r.size by omega)
  have h73:(r.size:Int)=7:=by omega
  have hn3:(n:Int)≤3000:=by omega
  clear hk hkb hrb hc hf hb hn
  go_enter Tryz.func192,Tryz.ntmps192
  go_wp2_with fail
  refine (H1.out _).mono ?_
  rintro e w1 ⟨rfl,hw⟩;rw [hw];clear hw
  go_wp2_with fail
  refine (H2.out _).mono ?_
  rintro e w2 ⟨rfl,hw⟩;rw [hw];clear hw
  go_wp2_with fail
  refine (H3.out _).mono ?_
  rintro e w3 ⟨rfl,hw⟩;rw [hw];clear hw
  go_wp2_with fail
  refine (H2.out _).mono ?_
  rintro e w4 ⟨rfl,hw⟩;rw [hw];clear hw
  go_wp2_with fail
  refine (H5.out _).mono ?_
  rintro e w5 ⟨rfl,q5,rfl⟩
  go_wp2_with fail
  refine (H5.out _).mono ?_
  rintro e w6 ⟨rfl,q6,rfl⟩
  go_wp2_with fail
  refine (H4.out _).mono ?_
  rintro e w7 ⟨rfl,hw⟩;rw [hw];clear hw
  go_wp2_with fail
  go_ret
  exact ⟨rfl,⟨rfl,rfl,rfl,Nat.le_refl _,fun _ _=>rfl⟩⟩
theorem cisEntry (i:It) (h:okI i) (w:World):Calls Tryz.prog 192 #[.string (cellI i)] w fun e w'=>e=.returned (.bool true)∧Below w.heap.size w w':=by
  obtain ⟨h1,h2,h3,h4⟩:=cellI_key h
  have hs:=cellI_sz h
  have hk:=h.key
  have hpg:=h.pgs
  unfold restI at h4
  cases hq:i.pgs with
  | nil =>
    rw [hq] at h4 hpg
    have hfit:2+i.key.size+i.val.size≤240:=by
      by_cases e:2+i.key.size+i.val.size≤240
      · exact e
      · rw [if_neg e] at hpg;simp at hpg;have:=hk.2;omega
    have hz:((⟨#[0]⟩:ByteArray) ++ i.val).size=1+i.val.size:=by rw [ByteArray.size_append];rfl
    refine (cisEntry_in (cellI i) i.key (⟨#[0]⟩ ++ i.val) w h3 h1 h4 h2 hs (by omega) (bytS_one 0 i.val) (by omega) hk.2 (by omega)).mono ?_
    rintro e w' ⟨rfl,rfl⟩
    exact ⟨rfl,Below.refl _ _⟩
  | cons p r =>
    rw [hq] at h4 hpg
    have hv:=h.val
    have hfit:¬ 2+i.key.size+i.val.size≤240:=fun e=>by rw [if_pos e] at hpg;simp at hpg
    have hz:((⟨#[1,(i.val.size / 256).toUInt8,i.val.size.toUInt8]⟩:ByteArray) ++ fourB p).size=7:=by rw [ByteArray.size_append,fourB_sz];rfl
    have hb:∀ j,j<3→bytS ((⟨#[1,(i.val.size / 256).toUInt8,i.val.size.toUInt8]⟩:ByteArray) ++ fourB p) j=bytS ⟨#[1,(i.val.size / 256).toUInt8,i.val.size.toUInt8]⟩ j:=fun j hj=>byt_left (by show j<3;exact hj)
    have e1:bytS ⟨#[1,(i.val.size / 256).toUInt8,i.val.size.toUInt8]⟩ 1=i.val.size / 256 % 256:=rfl
    have e2:bytS ⟨#[1,(i.val.size / 256).toUInt8,i.val.size.toUInt8]⟩ 2=i.val.size % 256:=rfl
    exact cisEntry_long (cellI i) i.key _ w h3 h1 h4 h2 hs hz (by rw [hb 0 (by omega)];rfl) hk.2 i.val.size (by rw [hb 1 (by omega),hb 2 (by omega),e1,e2];omega) hv hfit
set_option maxRecDepth 20000 in
theorem cisChild (k:ByteArray) (n:Nat) (w:World) (hk:okK k):Calls Tryz.prog 194 #[.string (childB k n)] w fun e w'=>e=.returned (.bool true)∧w'=w:=by
  obtain ⟨h1,h2,h3,h4⟩:=childB_key hk n
  have hs:=childB_sz k n
  have hk2:=hk.2
  have H1:=hide (fun X=>cisKeyed (childB k n) X (by omega))
  rw [h3] at H1
  have H2:=hide (fun X=>crestOf (childB k n) X h2 (by omega))
  rw [h4] at H2
  have sf:=fourB_sz n
  generalize childB k n=c at *
  clear h1 h2 h3 h4 hs
  go_enter Tryz.func194,Tryz.ntmps194
  go_wp2_with fail
  refine (H1.out _).mono ?_
  rintro e w1 ⟨rfl,hw⟩;rw [hw];clear hw
  go_wp2_with fail
  refine (H2.out _).mono ?_
  rintro e w2 ⟨rfl,hw⟩;rw [hw];clear hw
  go_wp2_with fail
  go_ret
  exact ⟨rfl,rfl⟩
set_option maxRecDepth 20000 in
theorem ckeyN {w:World} {p:Nat} {v:NV} (h:NR w p v) (i:Nat) (hi:i<v.cells.length) (hc:kS (tx v.cells i)≤(tx v.cells i).size) (hs:(tx v.cells i).size≤240) :
    Calls Tryz.prog 144 #[(.pointer (some ⟨p,0,none⟩)),.int .i64 (i:Int)] w fun e w'=>e=.returned (.string (keyB (tx v.cells i)))∧w'=w:=by
  obtain ⟨a,c,h1,h2⟩:=h
  obtain ⟨n0,n1,n2,n3,n4,n5,n6,n7,n8⟩:=h1.cells
  rcases h2.sta with h0 | ⟨b,off,rfl,hb,hcell⟩
  · omega
  have hx:=hcell i hi
  have H1:=hide (fun X=>ckeyOf (tx v.cells i) X hc (by omega))
  generalize tx v.cells i=ci at *
  generalize v.cells.length=len at *
  clear hcell h2 h1 n0 n1 n3 n4 n5 n6 n7
  go_enter Tryz.func144,Tryz.ntmps144
  go_wp2_with fail
  refine (H1.out _).mono ?_
  rintro e w1 ⟨rfl,hw⟩;rw [hw];clear hw
  go_wp2_with fail
  go_ret
  exact ⟨rfl,rfl⟩
/- all cells are of a form -/
set_option maxRecDepth 20000 in
set_option maxHeartbeats 1000000 in
theorem callAre {w:World} {p:Nat} {v:NV} (h:NR w p v) (hl:v.cells.length≤1000) (g:Nat) (eg:∀ args w,(callFunc g args).run Tryz.prog w=.ok (.enter g args) w) (hg:∀ i,i<v.cells.length→∀ X,Calls Tryz.prog g #[.string (tx v.cells i)] X fun e w'=>e=.returned (.bool true)∧Below X.heap.size X w') :
    Calls Tryz.prog 191 #[(.pointer (some ⟨p,0,none⟩)),.func (.func g) #[] #[]] w fun e w'=>e=.returned (.bool true)∧Below w.heap.size w w':=by
  obtain ⟨a,c,h1,h2⟩:=h
  obtain ⟨n0,n1,n2,n3,n4,n5,n6,n7,n8⟩:=h1.cells
  have HS:=hide (fun (X:World) (hX:Below w.heap.size w X)=>h2.sta.below hX)
  have HG:=hide (hg)
  generalize hL:v.cells.length=L at *
  generalize tx v.cells=tc at *
  clear h2 h1 n0 n1 n3 n4 n5 n6 n7 hg
  go_enter Tryz.func191,Tryz.ntmps191
  go_wp2_with fail
  go_loopw [13] (fun x wr=>∃ i:Nat,x=.int .i64 (i:Int)∧i≤L∧Hid (Below w.heap.size w wr)) (fun x _=>L - (intOf x).toNat)
  case atStart=>exact ⟨0,rfl,by omega,hide (Below.refl _ _)⟩
  case round =>
    obtain ⟨i,rfl,hi,HB⟩:=hrel
    by_cases h0:i<L
    · have h0':(i:Int)<(L:Int):=by omega
      rcases HS.out wr HB.out with e | ⟨b,off,rfl,hb,hcell⟩
      · omega
      have hx:=hcell i h0
      have HC:=hide (HG.out i h0)
      clear hcell
      go_wp2_with (go_at_fn g;refine (HC.out _).mono ?_;rintro e w' ⟨rfl,hb'⟩)
      go_roundw
      case rel=>exact ⟨i+1,by go_num,by omega,hide (HB.out.trans (hb'.mono HB.out.size))⟩
      case measure=>simp [intOf];omega
    · have h0':¬ (i:Int)<(L:Int):=by omega
      go_wp2
      go_ret
      exact ⟨rfl,HB.out⟩
/- the keys of a node's cells -/
structure Ky (v:NV):Prop where
  few:v.cells.length≤1000
  key:∀ i,i<v.cells.length→kS (tx v.cells i)≤(tx v.cells i).size∧(tx v.cells i).size≤240
  low:∀ i,i<v.cells.length→klt (keyB (tx v.cells i)) v.low=false
  high:∀ i,i<v.cells.length→ltB (keyB (tx v.cells i)) v.high
  ord:∀ i,i+1<v.cells.length→klt (keyB (tx v.cells i)) (keyB (tx v.cells (i+1)))=true
theorem beq_ne {a b:ByteArray} (h:klt b a=true):(a.toList == b.toList)=false:=str_neq (fun e=>by rw [e,klt_irr] at h;cases h)
set_option maxRecDepth 20000 in
set_option maxHeartbeats 1000000 in
theorem cinOrder {w:World} {p:Nat} {v:NV} (h:NR w p v) (hk:Ky v) :
    Calls Tryz.prog 193 #[(.pointer (some ⟨p,0,none⟩))] w fun e w'=>e=.returned (.bool true)∧w'=w:=by
  have HN:=hide (h)
  have HK:=hide (hk)
  obtain ⟨a,c,h1,h2⟩:=h
  obtain ⟨n0,n1,n2,n3,n4,n5,n6,n7,n8⟩:=h1.cells
  have HKEY:=hide (fun i hi=>ckeyN HN.out i hi (hk.key i hi).1 (hk.key i hi).2)
  have hfew:=hk.few
  generalize hL:v.cells.length=L at *
  have HL:=hide (hL)
  clear h2 h1 n0 n1 n3 n6 n7 hk
  go_enter Tryz.func193,Tryz.ntmps193
  go_wp2_with fail
  go_loopw [11] (fun x wr=>∃ i:Nat,x=.int .i64 (i:Int)∧i≤L∧wr=w) (fun x _=>L - (intOf x).toNat)
  case atStart=>exact ⟨0,rfl,by omega,rfl⟩
  case round =>
    obtain ⟨i,rfl,hi,hwr⟩:=hrel
    rw [hwr]
    clear hwr
    by_cases h0:i<L
    · have h0':(i:Int)<(L:Int):=by omega
      have f1:Op.bytesLess (keyB (tx v.cells i)).toList v.low.toList=false:=HK.out.low i (by rw [HL.out];exact h0)
      have f2:=HK.out.high i (by rw [HL.out];exact h0)
      have HC:=hide (HKEY.out i h0)
      have HF2:=hide (f2)
      by_cases hh:v.high=⟨#[]⟩
      · have e2:v.high.toList.isEmpty=true:=by rw [hh];exact ie_nil
        clear f2 hh
        by_cases hz:i=0
        · have hz':¬ (0:Int)<(i:Int):=by omega
          clear hz
          generalize keyB (tx v.cells i)=k at *
          go_wp2_with fail
          refine HC.out.mono ?_
          rintro e w1 ⟨rfl,hw⟩;rw [hw];clear hw
          go_wp2_with fail
          go_roundw
          case rel=>exact ⟨i+1,by go_num,by omega,by trivial⟩
          case measure=>simp [intOf];omega
        · have hz':(0:Int)<(i:Int):=by omega
          obtain ⟨j,rfl⟩:∃ j,i=j+1:=⟨i - 1,by omega⟩
          have HC2:=hide (HKEY.out j (by omega))
          have f3:=HK.out.ord j (by rw [HL.out];exact h0)
          have f4:Op.bytesLess (keyB (tx v.cells (j+1))).toList (keyB (tx v.cells j)).toList=false:=klt_asy f3
          have f5:=beq_ne f3
          have hw:wrap64 (((j+1:Nat):Int) - 1)=(j:Int):=by unfold wrap64;omega
          clear f3
          generalize keyB (tx v.cells (j+1))=k at *
          generalize keyB (tx v.cells j)=k0 at *
          go_wp2_with fail
          refine HC.out.mono ?_
          rintro e w1 ⟨rfl,hw⟩;rw [hw];clear hw
          go_wp2_with fail
          refine HC2.out.mono ?_
          rintro e w2 ⟨rfl,hw⟩;rw [hw];clear hw
          go_wp2_with fail
          go_roundw
          case rel=>exact ⟨j+1+1,by go_num,by omega,by trivial⟩
          case measure=>simp [intOf];omega
      · have hsz:0<v.high.size:=by
          rcases Nat.eq_zero_or_pos v.high.size with e | e
          · exact absurd (by apply ByteArray.ext;exact Array.eq_empty_of_size_eq_zero e) hh
          · exact e
        have e2:v.high.toList.isEmpty=false:=ie_ne hsz
        have e3:Op.bytesLess (keyB (tx v.cells i)).toList v.high.toList=true:=f2.resolve_left hh
        clear f2 hh
        by_cases hz:i=0
        · have hz':¬ (0:Int)<(i:Int):=by omega
          clear hz
          generalize keyB (tx v.cells i)=k at *
          go_wp2_with fail
          refine HC.out.mono ?_
          rintro e w1 ⟨rfl,hw⟩;rw [hw];clear hw
          go_wp2_with fail
          go_roundw
          case rel=>exact ⟨i+1,by go_num,by omega,by trivial⟩
          case measure=>simp [intOf];omega
        · have hz':(0:Int)<(i:Int):=by omega
          obtain ⟨j,rfl⟩:∃ j,i=j+1:=⟨i - 1,by omega⟩
          have HC2:=hide (HKEY.out j (by omega))
          have f3:=HK.out.ord j (by rw [HL.out];exact h0)
          have f4:Op.bytesLess (keyB (tx v.cells (j+1))).toList (keyB (tx v.cells j)).toList=false:=klt_asy f3
          have f5:=beq_ne f3
          have hw:wrap64 (((j+1:Nat):Int) - 1)=(j:Int):=by unfold wrap64;omega
          clear f3
          generalize keyB (tx v.cells (j+1))=k at *
          generalize keyB (tx v.cells j)=k0 at *
          go_wp2_with fail
          refine HC.out.mono ?_
          rintro e w1 ⟨rfl,hw⟩;rw [hw];clear hw
          go_wp2_with fail
          refine HC2.out.mono ?_
          rintro e w2 ⟨rfl,hw⟩;rw [hw];clear hw
          go_wp2_with fail
          go_roundw
          case rel=>exact ⟨j+1+1,by go_num,by omega,by trivial⟩
          case measure=>simp [intOf];omega
    · have h0':¬ (i:Int)<(L:Int):=by omega
      go_wp2
      go_ret
      exact ⟨rfl,rfl⟩
set_option maxRecDepth 20000 in
set_option maxHeartbeats 1000000 in
theorem cisSound1 {w:World} {p:Nat} {v:NV} (h:NR w p v) (hk:Ky v) (h1:v.kind=1) (hc:∀ i,i<v.cells.length→∀ X,Calls Tryz.prog 192 #[.string (tx v.cells i)] X fun e w'=>e=.returned (.bool true)∧Below X.heap.size X w') :
    Calls Tryz.prog 164 #[(.pointer (some ⟨p,0,none⟩))] w fun e w'=>e=.returned (.bool true)∧Below w.heap.size w w':=by
  have eg:∀ args w,(callFunc 192 args).run Tryz.prog w=.ok (.enter 192 args) w:=fun args w=>by go_simp
  have HA:=hide (fun (X:World) (hX:Below w.heap.size w X)=>callAre (w:=X) (p:=p) (v:=v) (by
    obtain ⟨a,c,q1,q2⟩:=h
    refine ⟨a,c,(hX.block p (Array.getElem?_eq_some_iff.1 q1).1).trans q1,?_⟩
    rcases q2 with q2 | ⟨b,off,cur,e,hb,hc⟩
    · exact .inl q2
    · exact .inr ⟨b,off,cur,e,(hX.block b (Array.getElem?_eq_some_iff.1 hb).1).trans hb,hc⟩) hk.few 192 eg hc)
  have HI:=hide (fun (X:World) (hX:Below w.heap.size w X)=>cinOrder (w:=X) (p:=p) (v:=v) (by
    obtain ⟨a,c,q1,q2⟩:=h
    refine ⟨a,c,(hX.block p (Array.getElem?_eq_some_iff.1 q1).1).trans q1,?_⟩
    rcases q2 with q2 | ⟨b,off,cur,e,hb,hc⟩
    · exact .inl q2
    · exact .inr ⟨b,off,cur,e,(hX.block b (Array.getElem?_eq_some_iff.1 hb).1).trans hb,hc⟩) hk)
  obtain ⟨a,c,q1,q2⟩:=h
  obtain ⟨n0,n1,n2,n3,n4,n5,n6,n7,n8⟩:=q1.cells
  rw [h1] at n0
  clear eg q1 q2 hk hc n1 n2 n3 n4 n5 n6 n7 h1
  go_enter Tryz.func164,Tryz.ntmps164
  go_wp2_with fail
  refine (HA.out _ (Below.refl _ _)).mono ?_
  rintro e w1 ⟨rfl,hb1⟩
  have HB1:=hide (hb1)
  clear hb1
  go_wp2_with fail
  refine (HI.out _ HB1.out).mono ?_
  rintro e w2 ⟨rfl,hw⟩;rw [hw];clear hw
  go_wp2_with fail
  go_ret
  exact ⟨rfl,HB1.out⟩
set_option maxRecDepth 20000 in
set_option maxHeartbeats 1000000 in
theorem cisSound2 {w:World} {p:Nat} {v:NV} (h:NR w p v) (hk:Ky v) (h1:v.kind=2) (hc:∀ i,i<v.cells.length→∀ X,Calls Tryz.prog 194 #[.string (tx v.cells i)] X fun e w'=>e=.returned (.bool true)∧Below X.heap.size X w') (h0:0<v.cells.length) (hlow:klt v.low (keyB (tx v.cells 0))=true) :
    Calls Tryz.prog 164 #[(.pointer (some ⟨p,0,none⟩))] w fun e w'=>e=.returned (.bool true)∧Below w.heap.size w w':=by
  have eg:∀ args w,(callFunc 194 args).run Tryz.prog w=.ok (.enter 194 args) w:=fun args w=>by go_simp
  have hN:∀ (X:World) (hX:Below w.heap.size w X),NR X p v:=fun X hX=>by
    obtain ⟨a,c,q1,q2⟩:=h
    refine ⟨a,c,(hX.block p (Array.getElem?_eq_some_iff.1 q1).1).trans q1,?_⟩
    rcases q2 with q2 | ⟨b,off,cur,e,hb,hc⟩
    · exact .inl q2
    · exact .inr ⟨b,off,cur,e,(hX.block b (Array.getElem?_eq_some_iff.1 hb).1).trans hb,hc⟩
  have HA:=hide (fun (X:World) (hX:Below w.heap.size w X)=>callAre (hN X hX) hk.few 194 eg hc)
  have HI:=hide (fun (X:World) (hX:Below w.heap.size w X)=>cinOrder (hN X hX) hk)
  have HK:=hide (fun (X:World) (hX:Below w.heap.size w X)=>ckeyN (hN X hX) 0 h0 (hk.key 0 h0).1 (hk.key 0 h0).2)
  have HN:=hide (fun (X:World) (hX:Below w.heap.size w X)=>(show ∃ a c,X.cell? ⟨p,2,none⟩=some (.slice a v.cells.length c)∧X.cell? ⟨p,4,none⟩=some (.string v.low)∧p<X.heap.size from by
    obtain ⟨a,c,q1,q2⟩:=hN X hX
    obtain ⟨n0,n1,n2,n3,n4,n5,n6,n7,n8⟩:=q1.cells
    exact ⟨a,c,n2,n4,n8⟩))
  obtain ⟨a,c,q1,q2⟩:=h
  obtain ⟨n0,n1,n2,n3,n4,n5,n6,n7,n8⟩:=q1.cells
  rw [h1] at n0
  have f1:Op.bytesLess (keyB (tx v.cells 0)).toList v.low.toList=false:=klt_asy hlow
  have f2:=beq_ne hlow
  have hlen:(0:Int)<(v.cells.length:Int):=by omega
  generalize keyB (tx v.cells 0)=k0 at *
  generalize v.cells.length=L at *
  clear eg q1 q2 hk hc n1 n3 n4 n5 n6 n7 h1 hN hlow
  go_enter Tryz.func164,Tryz.ntmps164
  go_wp2_with fail
  go_region_with (first | (go_at_call 191;refine (HA.out _ ((Below.refl _ _).drew)).mono ?_;rintro e w1 ⟨rfl,hb1⟩;have HB1:=hide (((Below.refl w.heap.size w).drew).trans (hb1.mono (Nat.le_refl _)));obtain ⟨a1,c1,x2,x4,x8⟩:=HN.out _ HB1.out;clear hb1) | (go_at_call 193;refine (HI.out _ HB1.out).mono ?_;rintro e w2 ⟨rfl,hw⟩;rw [hw];clear hw) | (go_at_call 144;refine (HK.out _ HB1.out).mono ?_;rintro e w3 ⟨rfl,hw⟩;rw [hw];clear hw))
  all_goals
    go_wp2
    go_ret
    exact ⟨rfl,HB1.out⟩
end Go.Proofs.YtmgjdjjfeapcdaaGreat
