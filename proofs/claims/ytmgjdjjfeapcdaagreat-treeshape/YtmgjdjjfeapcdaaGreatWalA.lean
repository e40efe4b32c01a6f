/- package wal: Open -/
import Derived.Test.YtmgjdjjfeapcdaaGreatWal9
namespace Go.Proofs.YtmgjdjjfeapcdaaGreat
open Go.RowKit Go.Lib
attribute [local go_sem ↓] Go.wp_at_zero Go.wp_at_succ
def newW (Y:World) (D:Nat) (c:Cm):World:=(((Y.alloc (.cells #[.int .i64 c.slot,.int .i64 c.number,.int .i64 c.frames,.int .i64 c.pages] 122)).alloc (.map #[] 0)).alloc (.map #[] 0)).alloc (.cells #[(.pointer (some ⟨D,0,none⟩)),.int .i64 c.slot,.int .i64 c.number,.int .i64 c.frames,.int .i64 c.pages,.int .i64 c.frames,.map (some (Y.heap.size+1)),.map (some (Y.heap.size+1+1))] 127)
theorem newW_below (Y:World) (D:Nat) (c:Cm):Below Y.heap.size Y (newW Y D c):=((((Below.refl _ _).alloc (Nat.le_refl _) _).alloc (by simp) _).alloc (by simp;omega) _).alloc (by simp;omega) _
theorem plNew (Y:World) (B D:Nat) (S:DS) (c:Cm) (h:PDs Y B D S) (hB:B≤Y.heap.size):PL (newW Y D c) B D (Y.heap.size+1+1+1) (Y.heap.size+1) (Y.heap.size+1+1) 0 ⟨c,c.frames,fun _=>none,fun _=>none⟩ S:=by
  have s1:(Y.alloc (.cells #[.int .i64 c.slot,.int .i64 c.number,.int .i64 c.frames,.int .i64 c.pages] 122)).heap.size=Y.heap.size+1:=by simp
  have s2:((Y.alloc (.cells #[.int .i64 c.slot,.int .i64 c.number,.int .i64 c.frames,.int .i64 c.pages] 122)).alloc (.map #[] 0)).heap.size=Y.heap.size+1+1:=by simp
  have s3:(((Y.alloc (.cells #[.int .i64 c.slot,.int .i64 c.number,.int .i64 c.frames,.int .i64 c.pages] 122)).alloc (.map #[] 0)).alloc (.map #[] 0)).heap.size=Y.heap.size+1+1+1:=by simp
  refine ⟨?_,⟨by omega,by omega,by omega⟩,by omega,?_,?_,h.below (newW_below Y D c)⟩
  · have:=heap_alloc_new (((Y.alloc (.cells #[.int .i64 c.slot,.int .i64 c.number,.int .i64 c.frames,.int .i64 c.pages] 122)).alloc (.map #[] 0)).alloc (.map #[] 0)) (.cells #[(.pointer (some ⟨D,0,none⟩)),.int .i64 c.slot,.int .i64 c.number,.int .i64 c.frames,.int .i64 c.pages,.int .i64 c.frames,.map (some (Y.heap.size+1)),.map (some (Y.heap.size+1+1))] 127)
    rw [s3] at this
    exact this
  · have:=MI.made (Y.alloc (.cells #[.int .i64 c.slot,.int .i64 c.number,.int .i64 c.frames,.int .i64 c.pages] 122))
    rw [s1] at this
    exact this.keep ((heap_alloc_old _ _ (by rw [s3];omega)).trans (heap_alloc_old _ _ (by rw [s2];omega)))
  · have:=MI.made ((Y.alloc (.cells #[.int .i64 c.slot,.int .i64 c.number,.int .i64 c.frames,.int .i64 c.pages] 122)).alloc (.map #[] 0))
    rw [s2] at this
    exact this.keep (heap_alloc_old _ _ (by rw [s3];omega))
set_option maxRecDepth 20000 in
set_option maxHeartbeats 1000000 in
theorem copen_new (X:World) (B D k:Nat) (S S1 S2 S3 S4:DS) (h:PDs X B D S) (hB:B≤X.heap.size) (ho:okS S k) (hk:k≤800000) (hd:S.down=false) (hl:lastC (S.lb 2)=cm0) (pg:Nat) (hpg:pg=(S.lb 0).length / 1024) (hS:Beg S S1 S2 S3 S4 pg) :
    Calls Tryz.prog 25 #[(.pointer (some ⟨D,0,none⟩))] X fun e w'=>∃ G bp bf,e=.returned (.tuple #[(.pointer (some ⟨G,0,none⟩)),.int .i64 0])∧PL w' B D G bp bf 0 ⟨⟨0,1,0,pg⟩,0,fun _=>none,fun _=>none⟩ S4∧BelT tyP B X w':=by
  have hlen:=h.len 2 (by decide)
  have HP:Hid (PDs X B D S):=h
  have hmm:=@run_makeMap Tryz.prog
  clear h
  go_enter Tryz.func25,Tryz.ntmps25
  go_wp2_with fail
  refine (clastC _ B D S HP.out hd hlen).mono ?_
  rintro e w1 ⟨rfl,hb1⟩
  rw [hl]
  have HN:Hid (PL (newW w1 D cm0) B D (w1.heap.size+1+1+1) (w1.heap.size+1) (w1.heap.size+1+1) 0 ⟨cm0,0,fun _=>none,fun _=>none⟩ S):=plNew w1 B D S cm0 (HP.out.below hb1) (Nat.le_trans hB hb1.size)
  have HW:Hid (Below X.heap.size X (newW w1 D cm0)):=keepBelow hb1 (newW_below _ _ _)
  have HX1:Hid (X.heap.size≤w1.heap.size):=hb1.size
  have HC:Hid (Calls Tryz.prog 62 #[(.pointer (some ⟨w1.heap.size+1+1+1,0,none⟩))] (newW w1 D cm0) fun e w'=>e=.returned (.int .i64 0)∧PL w' B D (w1.heap.size+1+1+1) (w1.heap.size+1) (w1.heap.size+1+1) 0 ⟨⟨0,1,0,pg⟩,0,fun _=>none,fun _=>none⟩ S4∧BelT tyP B X w'):=by
    refine (cbegin_ok (newW w1 D cm0) B D (w1.heap.size+1+1+1) (w1.heap.size+1) (w1.heap.size+1+1) 0 k ⟨cm0,0,fun _=>none,fun _=>none⟩ S S1 S2 S3 S4 HN.out (Nat.le_trans hB HW.out.size) ho hk hd pg hpg hS).mono ?_
    rintro e w' ⟨h1,h2,h3⟩
    have hx:=HX1.out
    exact ⟨h1,h2,(HW.out.mono hB).trans h3.toBelow,fun b hb hf=>(h3.far b (Nat.lt_of_lt_of_le hb HW.out.size) (hf.of (HW.out.block b hb)) (by omega) (by omega) (by omega)).trans (HW.out.block b hb),(KpU.below HW.out).trans h3.u HW.out.size⟩
  clear hb1 HN HW HX1 hl hS ho hk hpg hd hlen
  simp only [cmV,cm0]
  go_wp2_with fail
  refine HC.out.mono ?_
  rintro e w2 ⟨rfl,hp2,hb2⟩
  have HL2:Hid _:=hp2
  have HB2:Hid _:=hb2
  clear hp2 hb2 HC
  go_wp2
  go_ret2
  exact ⟨_,_,_,rfl,HL2.out,HB2.out⟩
end Go.Proofs.YtmgjdjjfeapcdaaGreat
