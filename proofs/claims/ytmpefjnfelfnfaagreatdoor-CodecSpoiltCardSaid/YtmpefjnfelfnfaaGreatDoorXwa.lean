/- Made books as values: made, spoiled, loaded. -/
import Derived.Test.YtmpefjnfelfnfaaGreatDoorLawb
import Derived.Test.YtmpefjnfelfnfaaGreatDoorSall
import Derived.Test.YtmpefjnfelfnfaaGreatDoorCdall
namespace Go.Proofs.YtmpefjnfelfnfaaGreatDoor
open Go.RowKit
set_option linter.unusedVariables false
set_option linter.unusedSimpArgs false
theorem frB_names (x:Bk):∀ a ∈ (frB x).C,a.name.size≤30:=fun a ha=>((chkA_ok (frC_chk x.chart)).2 a ha).2.1
theorem made_ne {x:Bk} {vs:List Jm} (h8:∀ j ∈ x.journals,j.lines.length≤8) (h:vs.map jOf=makeJ x):∀ p ∈ vs,p.2.2≠[]:=by
 intro p hp h0
 obtain ⟨_,b,_,_⟩:=stJ_ok x h8 x.journals.length (Nat.le_refl _)
 have hm:jOf p ∈ makeJ x:=by rw [← h];exact List.mem_map_of_mem hp
 have hk:=(b (jOf p) hm).1.chk
 unfold jOf chkJ at hk
 rw [h0] at hk
 simp only [List.length_nil] at hk
 split at hk
 ·omega
 ·omega
theorem spoil_mk {x:Bk} {w:World} {v:Value} (h:MkB x w v) (hT:lightB x=true) (wh at_:Nat) (by_:Int) (hwh:wh<256) (hat:at_<256) (hby : -9223372036854775808≤by_∧by_≤9223372036854775807) :
 Calls Tryz.prog 18 #[v,.int .u8 (wh:Int),.int .u8 (at_:Int),.int .i64 by_] w fun e w'=>∃ v,e = .returned v∧AnyB w.heap.size w' v∧Below w.heap.size w w':=by
 obtain ⟨vC,vU,vS,vJ,vs,rfl,hM⟩:=h
 have hl:=light_of hT
 obtain ⟨a,b⟩:=made_lens hl.1 (by have:=hl.2.2.2.2;omega) hM.js
 exact spoil_c (frB x) vC vU vS vJ vs wh at_ by_ w hM.fr (frB_in x) (frC_made x.chart).2.2 (frU_ok x.units).2.2.2 (frC_made x.chart).1.rise (frB_names x) hM.jr (by have:=hl.2.2.2.2;omega) (fun p hp=>by have:=b p hp;omega) (made_ne hl.1 hM.js) hwh hat hby
end Go.Proofs.YtmpefjnfelfnfaaGreatDoor
