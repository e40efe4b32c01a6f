/- package tree: cells as texts: a key behind its length, what stands behind it -/
import Derived.Test.YtmgjdjjfeapcdaaGreatMgAA
namespace Go.Proofs.YtmgjdjjfeapcdaaGreat
open Go.RowKit Go.Lib
attribute [local go_sem ↓] Go.wp_at_zero Go.wp_at_succ
def kS (c:ByteArray):Nat:=1+bytS c 0
theorem kS_in (c:ByteArray):1≤kS c∧kS c≤256:=by have:=bytS_lt c 0;unfold kS;omega
def keyB (c:ByteArray):ByteArray:=c.extract 1 (kS c)
def restB (c:ByteArray):ByteArray:=c.extract (kS c) c.size
set_option maxRecDepth 20000 in
theorem ckeySize (c:ByteArray) (w:World) (hc:0<c.size) (hs:c.size≤1099511627776):Calls Tryz.prog 178 #[.string c] w fun e w'=>e=.returned (.int .i64 (kS c:Nat))∧w'=w:=by
  have h2:(0:Int)<(c.size:Int):=by omega
  have b0:=bytS_lt c 0
  have g0:=bytS_get hc
  have hk:((kS c:Nat):Int)=1+(bytS c 0:Int):=by unfold kS;omega
  rw [hk]
  go_enter Tryz.func178,Tryz.ntmps178
  go_wp2
  go_ret
  exact ⟨rfl,rfl⟩
set_option maxRecDepth 20000 in
theorem ckeyOf (c:ByteArray) (w:World) (hc:kS c≤c.size) (hs:c.size≤1099511627776):Calls Tryz.prog 149 #[.string c] w fun e w'=>e=.returned (.string (keyB c))∧w'=w:=by
  have hk:=kS_in c
  have hsl:=fun X=>slice_lit c 1 (kS c) hk.1 hc X
  go_enter Tryz.func149,Tryz.ntmps149
  go_wp2_with fail
  refine (ckeySize c _ (by omega) hs).mono ?_
  rintro e w1 ⟨rfl,rfl⟩
  go_wp2_with fail
  go_ret
  exact ⟨rfl,rfl⟩
set_option maxRecDepth 20000 in
theorem crestOf (c:ByteArray) (w:World) (hc:kS c≤c.size) (hs:c.size≤1099511627776):Calls Tryz.prog 176 #[.string c] w fun e w'=>e=.returned (.string (restB c))∧w'=w:=by
  have hk:=kS_in c
  go_enter Tryz.func176,Tryz.ntmps176
  go_wp2_with fail
  refine (ckeySize c _ (by omega) hs).mono ?_
  rintro e w1 ⟨rfl,rfl⟩
  go_wp2_with fail
  go_ret
  exact ⟨rfl,rfl⟩
theorem cfourT (n:Nat) (w:World):Calls Tryz.prog 183 #[.int .i64 n] w fun e w'=>e=.returned (.string (fourB n))∧Below w.heap.size w w':=by
  have ht:=four_text w n
  go_enter Tryz.func183,Tryz.ntmps183
  go_wp2
  go_ret
  exact ⟨rfl,(Below.refl _ _).alloc (Nat.le_refl _) _⟩
theorem cmayBe (k:ByteArray) (w:World) (hs:k.size≤1099511627776):Calls Tryz.prog 50 #[.string k] w fun e w'=>e=.returned (.bool (decide (0<k.size∧k.size≤200)))∧w'=w:=by
  by_cases h1:0<k.size
  · have k1:(0:Int)<(k.size:Int):=by omega
    by_cases h2:k.size≤200
    · have k2:(k.size:Int)≤200:=by omega
      rw [decide_eq_true ⟨h1,h2⟩]
      go_enter Tryz.func50,Tryz.ntmps50
      go_wp2
      go_ret
      exact ⟨rfl,rfl⟩
    · have k2:¬ (k.size:Int)≤200:=by omega
      rw [decide_eq_false (fun h=>h2 h.2)]
      go_enter Tryz.func50,Tryz.ntmps50
      go_wp2
      go_ret
      exact ⟨rfl,rfl⟩
  · have k1:¬ (0:Int)<(k.size:Int):=by omega
    rw [decide_eq_false (fun h=>h1 h.1)]
    go_enter Tryz.func50,Tryz.ntmps50
    go_wp2
    go_ret
    exact ⟨rfl,rfl⟩
theorem cfits (k:ByteArray) (n:Nat) (w:World) (hs:k.size≤1099511627776) (hn:n≤1099511627776):Calls Tryz.prog 152 #[.string k,.int .i64 (n:Int)] w fun e w'=>e=.returned (.bool (decide (2+k.size+n≤240)))∧w'=w:=by
  by_cases h1:2+k.size+n≤240
  · have k1:(2:Int)+(k.size:Int)+(n:Int)≤240:=by omega
    rw [decide_eq_true h1]
    go_enter Tryz.func152,Tryz.ntmps152
    go_wp2
    go_ret
    exact ⟨rfl,rfl⟩
  · have k1:¬ (2:Int)+(k.size:Int)+(n:Int)≤240:=by omega
    rw [decide_eq_false h1]
    go_enter Tryz.func152,Tryz.ntmps152
    go_wp2
    go_ret
    exact ⟨rfl,rfl⟩
set_option maxRecDepth 20000 in
theorem cpageOf (c:ByteArray) (w:World) (hc:4≤c.size) (hs:c.size≤1099511627776):Calls Tryz.prog 161 #[.string c] w fun e w'=>e=.returned (.int .i64 (numB c (c.size - 4):Nat))∧w'=w:=by
  obtain ⟨p,hp⟩:∃ p,c.size=p+4:=⟨c.size - 4,by omega⟩
  have hp2:c.size - 4=p:=by omega
  have hp3:wrap64 ((c.size:Int) - 4)=(p:Int):=by unfold wrap64;omega
  rw [hp2]
  go_enter Tryz.func161,Tryz.ntmps161
  go_wp2
  go_loop [3,4] (fun x y=>∃ i:Nat,x=.int .i64 (numK c p i:Nat)∧y=.int .i64 ((p+i:Nat):Int)∧i≤4) (fun _ y=>p+4 - (intOf y).toNat)
  case atStart=>exact ⟨0,rfl,by go_num,by omega⟩
  case round =>
    obtain ⟨k,rfl,rfl,hk⟩:=hrel
    by_cases h0:k<4
    · have h1:((p+k:Nat):Int)<(c.size:Int):=by omega
      have hks:p+k<c.size:=by omega
      have b0:=bytS_lt c (p+k)
      have g0:=bytS_get hks
      have u0:=numK_7 c p (show k≤4 by omega)
      have h3:numK c p (k+1)=numK c p k * 256+bytS c (p+k):=rfl
      have hj:=join_i64 (numK c p k) (bytS c (p+k)) b0 u0
      go_wp2
      go_round
      case rel=>exact ⟨k+1,by rw [h3];first | rfl | go_num,by go_num,by omega⟩
      case measure=>simp [intOf];omega
    · obtain rfl:k=4:=by omega
      have h1:¬ ((p+4:Nat):Int)<(c.size:Int):=by omega
      go_wp2
      go_ret
      exact ⟨rfl,rfl⟩
def isKeyedB (c:ByteArray):Bool:=decide (0<c.size∧0<bytS c 0∧bytS c 0≤200∧kS c≤c.size)
set_option maxRecDepth 20000 in
theorem cisKeyed (c:ByteArray) (w:World) (hs:c.size≤1099511627776):Calls Tryz.prog 212 #[.string c] w fun e w'=>e=.returned (.bool (isKeyedB c))∧w'=w:=by
  unfold isKeyedB
  by_cases h1:0<c.size
  · have k1:(0:Int)<(c.size:Int):=by omega
    have g0:=bytS_get h1
    have b0:=bytS_lt c 0
    by_cases h2:0<bytS c 0
    · have k2:(0:Int)<(bytS c 0:Int):=by omega
      by_cases h3:bytS c 0≤200
      · have k3:(bytS c 0:Int)≤200:=by omega
        by_cases h4:kS c≤c.size
        · have k4:((kS c:Nat):Int)≤(c.size:Int):=by omega
          rw [decide_eq_true ⟨h1,h2,h3,h4⟩]
          go_enter Tryz.func212,Tryz.ntmps212
          go_wp2_with fail
          refine (ckeySize c _ h1 hs).mono ?_
          rintro e w1 ⟨rfl,rfl⟩
          go_wp2_with fail
          go_ret
          exact ⟨rfl,rfl⟩
        · have k4:¬ ((kS c:Nat):Int)≤(c.size:Int):=by omega
          rw [decide_eq_false (fun h=>h4 h.2.2.2)]
          go_enter Tryz.func212,Tryz.ntmps212
          go_wp2_with fail
          refine (ckeySize c _ h1 hs).mono ?_
          rintro e w1 ⟨rfl,rfl⟩
          go_wp2_with fail
          go_ret
          exact ⟨rfl,rfl⟩
      · have k3:¬ (bytS c 0:Int)≤200:=by omega
        rw [decide_eq_false (fun h=>h3 h.2.2.1)]
        go_enter Tryz.func212,Tryz.ntmps212
        go_wp2_with fail
        go_ret
        exact ⟨rfl,rfl⟩
    · have k2:¬ (0:Int)<(bytS c 0:Int):=by omega
      rw [decide_eq_false (fun h=>h2 h.2.1)]
      go_enter Tryz.func212,Tryz.ntmps212
      go_wp2_with fail
      go_ret
      exact ⟨rfl,rfl⟩
  · have k1:¬ (0:Int)<(c.size:Int):=by omega
    rw [decide_eq_false (fun h=>h1 h.1)]
    go_enter Tryz.func212,Tryz.ntmps212
    go_wp2_with fail
    go_ret
    exact ⟨rfl,rfl⟩
end Go.Proofs.YtmgjdjjfeapcdaaGreat
