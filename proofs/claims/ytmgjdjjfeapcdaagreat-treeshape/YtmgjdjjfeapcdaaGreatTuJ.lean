/- relstorekeep: (*shape).node of any tree -/
import Derived.Test.YtmgjdjjfeapcdaaGreatTuG
import Derived.Test.YtmgjdjjfeapcdaaGreatTuH
import Derived.Test.YtmgjdjjfeapcdaaGreatMgAX
namespace Go.Proofs.YtmgjdjjfeapcdaaGreat
open Go.RowKit Go.Lib Go.Maps Go.Sort
section
variable {w:World} {B D Gp:Nat} {V:PV} {K:Pgs} {pk m:Nat} {A:Nat→PgV} {fl:List Nat} {pages sp k:Nat} {va vb vc:Value} {lv ln:List Nat} {ks:List ByteArray}
theorem nod_ok (hm:m≤50000) (hB:B≤sp):∀ d,d≤1000→NodOk B D Gp K pk m A fl pages sp d
  | 0,_=>fun _ _ _ _ _ _ _ _ _ _ _ _ h hp hb hf hA hs hk hL=>cnode0 h hm hp hB hb hf.2 false (.inr hf.1) hA hs hk hL
  | d+1,hd=>fun _ _ _ _ _ _ _ _ _ x _ _ h hp hb hf hA hs hk hL=>cnode1 (nod_ok hm hB d (by omega)) h hm hp hB hb (by omega) hf.1.2 (fun e=>by
      have:=hf.1.1
      rw [e] at this
      exact absurd this (by decide)) hf.2 false (.inr hf.1.1) hA hs hk hL
theorem nod_root {d:Nat} {t:T d} {es:List Ent} (h:TS w B D Gp V K pk m A fl pages) (hm:m≤50000) (hp:Sp w sp V k va vb vc lv ln ks true) (hB:B≤sp) (hT:Tr A fl pages [] t es) (hd:d≤1000) (hk:k+(nodT d t).length≤pages) (hL:lv.length+(lvsT d t).length≤1000000∧ln.length+(lvsT d t).length≤1000000∧ks.length+(entT d t).length≤1000000) :
    Calls Tryz.prog 21 #[(.pointer (some ⟨sp,0,none⟩)),(.pointer (some ⟨Gp,0,none⟩)),.int .i64 (numT d t:Int),.string ⟨#[]⟩,.string ⟨#[]⟩,.bool true] w (nodP w sp B D Gp V K pk m A fl pages k vc lv ln ks (d+1) (nodT d t).length (lvsT d t) (entT d t)):=by
  have F:=hT.facts
  cases d with
  | zero=>exact cnode0 h hm hp hB F.bnd hT.ok.high true (.inl rfl) F.all F.num hk hL
  | succ d=>exact cnode1 (nod_ok hm hB d (by omega)) h hm hp hB F.bnd (by omega) hT.ok.high (hT.ok.some.resolve_left (by omega)) hT.ok.kids true (.inl rfl) F.all F.num hk hL
end
end Go.Proofs.YtmgjdjjfeapcdaaGreat
