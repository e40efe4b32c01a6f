/- with and share, leaves and inner nodes alike -/
import Derived.Test.YtmgjdjjfeapcdaaGreatMgAP
namespace Go.Proofs.YtmgjdjjfeapcdaaGreat
open Go.RowKit Go.Lib Go.Maps Go.Sort
/- the cells of both: an inner node's first child gets a cell with the key between -/
def withL (kd:Nat) (l1:List ByteArray) (k:ByteArray) (link:Nat) (l2:List ByteArray):List ByteArray:=if kd=1 then l1 ++ l2 else l1 ++ childB k link :: l2
theorem cwithN {w:World} {pl pr:Nat} {vl vr:NV} (hl:NRs w pl vl) (hr:NRs w pr vr) (hkl:vl.kind=1∨vl.kind=2) (h1:vl.cells.length≤1000) (h2:vr.cells.length≤1000) (k:ByteArray) (hk:k.size≤200) :
    Calls Tryz.prog 186 #[(.pointer (some ⟨pl,0,none⟩)),(.pointer (some ⟨pr,0,none⟩)),.string k] w fun e w'=>∃ v',e=.returned v'∧w'.ownsRow w.heap.size 9 1 v' (withL vl.kind vl.cells k vr.link vr.cells).length (valsS (withL vl.kind vl.cells k vr.link vr.cells))∧Below w.heap.size w w':=by
  unfold withL
  rcases hkl with e | e
  · rw [if_pos e]
    exact cwith1 hl hr e h1 h2 k
  · rw [if_neg (by omega)]
    exact cwith2 hl hr e h1 h2 k hk
/- what is left of the row in the left node's page, what in the right one's -/
def shrL (kd link:Nat) (l:List ByteArray):PgV:=⟨kd,link,l.take (midC l)⟩
def shrR (kd link:Nat) (l:List ByteArray):PgV:=if kd=1 then ⟨1,link,l.drop (midC l)⟩ else ⟨2,numB (tx l (midC l)) ((tx l (midC l)).size - 4),l.drop (midC l+1)⟩
/- where a row of such cells can be parted -/
structure ShrOk (kd:Nat) (l:List ByteArray):Prop where
  len:l.length≤1000
  used:usedC l≤1500
  mid:midC l+(kd - 1)<l.length
  four:kd=2→4≤(tx l (midC l)).size
  key:kS (tx l (midC l))≤(tx l (midC l)).size∧(tx l (midC l)).size≤240
section
variable {w w':World} {B D Gp:Nat} {V V':PV} {K:Pgs} {pk m:Nat} {A:Nat→PgV} {fl:List Nat} {pages tb root:Nat}
theorem cshare (h:TS w B D Gp V K pk m A fl pages) (hm:m≤39000) (ht:TB w tb Gp root) {b pl pr:Nat} {vl vr:NV} {sl sr:Value} {g off cap:Nat} {l:List ByteArray}
    (hl:NB w pl vl sl) (hr:NB w pr vr sr) (hbl:b≤pl) (hbr:b≤pr) (hne:¬ pl=pr) (hst:StB w (some ⟨g,off,none⟩) l) (hcap:l.length≤cap)
    (kd:Nat) (hkd:kd=1∨kd=2) (hkl:vl.kind=kd) (hkr:vr.kind=kd) (hok:ShrOk kd l) (hsl:∃ x y z,sl=.slice x y z) (hsr:∃ x y z,sr=.slice x y z)
    (h1:okP (shrL kd vl.link l)) (h2:okP (shrR kd vr.link l)) (hn1:0<vl.num∧vl.num<pages∧¬ vl.num ∈ fl) (hn2:0<vr.num∧vr.num<pages∧¬ vr.num ∈ fl) :
    Calls Tryz.prog 184 #[(.pointer (some ⟨tb,0,none⟩)),(.pointer (some ⟨pl,0,none⟩)),(.pointer (some ⟨pr,0,none⟩)),.slice (some ⟨g,off,none⟩) l.length cap] w fun e w'=>e=.returned (.string (keyB (tx l (midC l))))∧∃ V',TS w' B D Gp V' K pk (m+2) (updA (updA A vl.num (shrL kd vl.link l)) vr.num (shrR kd vr.link l)) fl pages∧TF b B w w' V V'∧NR w' pr { vr with link:=(shrR kd vr.link l).link,cells:=(shrR kd vr.link l).cells }:=by
  rcases hkd with rfl | rfl
  · have e2:shrR 1 vr.link l=⟨1,vr.link,l.drop (midC l)⟩:=if_pos rfl
    rw [e2] at h2 ⊢
    exact cshare1 h hm ht hl hr hbl hbr hne hst hcap hok.len hok.used hkl hkr (by have:=hok.mid;omega) hsl hsr h1 h2 hn1 hn2 hok.key
  · have e2:shrR 2 vr.link l=⟨2,numB (tx l (midC l)) ((tx l (midC l)).size - 4),l.drop (midC l+1)⟩:=if_neg (by decide)
    rw [e2] at h2 ⊢
    exact cshare2 h hm ht hl hr hbl hbr hne hst hcap hok.len hok.used hkl hkr (by have:=hok.mid;omega) hsl hsr _ rfl (hok.four rfl) h1 h2 hn1 hn2 hok.key
theorem csplit (h:TS w B D Gp V K pk m A fl pages) (hm:m≤36000) (hpg:pages<58000) (ht:TB w tb Gp root) {b0 b1 p0 pn:Nat} {v0 vn:NV} {g off cap:Nat} {l:List ByteArray} {X:List Nat}
    (hp:NDb w b0 b1 p0 v0) (htk:v0.taken≤v0.cells.length) (hl0:v0.cells.length≤1000) (hn:NB w pn vn (.slice (some ⟨g,off,none⟩) l.length cap)) (hbn:b1≤pn) (hst:StB w (some ⟨g,off,none⟩) l) (hcap:l.length≤cap)
    (kd:Nat) (hkd:kd=1∨kd=2) (hkn:vn.kind=kd) (hok:ShrOk kd l)
    (h1:∀ n,n≤60000→okP (shrL kd (if kd=1 then n else vn.link) l)) (h2:okP (shrR kd vn.link l)) (hX:(0 :: (fl ++ X)).Perm (List.range pages)) (hnX:vn.num ∈ X) (hks:(keyB (tx l (midC l))).size≤200) :
    Calls Tryz.prog 156 #[(.pointer (some ⟨tb,0,none⟩)),(.pointer (some ⟨p0,0,none⟩)),(.pointer (some ⟨pn,0,none⟩))] w fun e w'=>e=.returned (.tuple #[])∧splPost w B D Gp V K pk m A fl pages b0 p0 v0 vn.num (fun n=>shrL kd (if kd=1 then n else vn.link) l) (shrR kd vn.link l) (keyB (tx l (midC l))) w':=by
  rcases hkd with rfl | rfl
  · have e2:shrR 1 vn.link l=⟨1,vn.link,l.drop (midC l)⟩:=if_pos rfl
    rw [e2] at h2 ⊢
    exact csplit1 h hm hpg ht hp htk hl0 hn hbn hst hcap hok.len hok.used hkn (by have:=hok.mid;omega) h1 h2 hX hnX hok.key hks
  · have e2:shrR 2 vn.link l=⟨2,numB (tx l (midC l)) ((tx l (midC l)).size - 4),l.drop (midC l+1)⟩:=if_neg (by decide)
    rw [e2] at h2 ⊢
    exact csplit2 h hm hpg ht hp htk hl0 hn hbn hst hcap hok.len hok.used hkn (by have:=hok.mid;omega) _ rfl (hok.four rfl) (h1 0 (by omega)) h2 hX hnX hok.key hks
end
end Go.Proofs.YtmgjdjjfeapcdaaGreat
