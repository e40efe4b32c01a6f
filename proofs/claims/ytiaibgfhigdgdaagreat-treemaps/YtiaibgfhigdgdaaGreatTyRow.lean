/- TreeMaps stands: the call of relstorelaw.TreeMaps answers true for every script, and the script reads as it did. -/
import Derived.Test.YtiaibgfhigdgdaaGreatRows
import Derived.Test.YtiaibgfhigdgdaaGreatM23
import Derived.Below
import Derived.Lib.SmallJoins
set_option maxRecDepth 100000
set_option maxHeartbeats 8000000
namespace Go.Proofs.YtiaibgfhigdgdaaGreat
open Tryz
set_option maxRecDepth 100000
set_option maxHeartbeats 8000000
open Tryz
open Go.ChangeShapes Go.WideShapes Go.ChangeAt Go.RowKit Go.Joins
theorem liftedTyRow (os:Os)(started:os.Started)(H:Type)(enc:TypeId×Value->H) :ReturnsInHanded {} Tryz.checked os 3 .any (Rows.treeMapsSpec.pre6 enc prog Tryz.f3 Rows.treeMapsRow.domain false) (Rows.treeMapsSpec.post enc prog Tryz.f3 false true false false) :=by
 refine returnsInHanded_of_change_sized (C:=Tryz.checked) ownTyRow started (by kernel_rfl) func3
 (ChangeSpec.witness6 (enc:=enc) (C:=Tryz.checked) false ⟨#[],#[.slice none 0 0],[]⟩ 8 (by kernel_rfl) (by kernel_rfl) (by kernel_rfl) (by kernel_rfl)) ?_
 intro W base args ds gs before hval0 hW _ hsz0 _;have hval:∀(j:Nat) t v,Tryz.f3.params[j]?=some t->args[j]?=some v->Value.okWide prog W .any base t v:=hval0;have hW':=hW;obtain⟨p,q,hA0,hV,rfl,_,_⟩:=hW;have hA:DataW.TrodAll enc prog W 0 (λ_=>true) true Tryz.f3.params.toList args.toList ds p:=hA0;have hsz:(DataW.weightsEach prog (Tryz.f3.params.toList++Rows.treeMapsSpec.plain.varTypes prog) (ds++gs)).all (·<=reachBytes)=true:=hsz0;rw[Tryz.params3] at hA hval hsz;obtain⟨v0,vs0,d0,ds0,p0,q0,hargs,rfl,rfl,h0,r0⟩:=trodAll_cons hA;obtain⟨rfl,rfl,rfl⟩:=trodAll_nil r0;obtain rfl:args=#[v0]:=by cases args;simp_all
 obtain⟨rfl,rfl⟩:=trodVars_none hV;have lt0:∀x∈p0,x.block<W.heap.size:=by obtain⟨m,hm⟩:=h0;exact DataW.trod_lt m _ _ _ hm
 obtain⟨a0,len0,cap0,rfl⟩:=okWide_slice underlying22 (hval 0 22 v0 rfl rfl);have hz:∀n∈d0.weights prog 22,n<=reachBytes:=λn hn=>by
 have:=List.all_eq_true.1 hsz _ (DataW.weights_mem_each (j:=0) (t:=22) rfl rfl n hn);simpa using this
 obtain⟨⟨A,hl⟩,hc,ha,hn⟩:=open_actsM h0 hz;clear hA0 hval0;refine(ltreemaps a0 len0 cap0 A W hl (by unfold reachBytes at hn;omega) hc ha).mono λe W' ⟨he,bel⟩=>?_
 subst he;exact⟨_,rfl,_,_,_,[],_,[],hW',trodAll_mk1 (shut_bool underlying4 _),(trodAll_cons_mk (Below.trod laidOutTyRow (by kernel_rfl) (of_decide_eq_true (by kernel_rfl)) h0 bel lt0) trodAll_mk0),rfl,bel.frame _,λh=>by cases h⟩
#print axioms treeMaps_holds
end Go.Proofs.YtiaibgfhigdgdaaGreat
