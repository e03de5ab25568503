/- Arguments of law 6: slices of four small numbers, slices of accounts, an account. -/
import Derived.Test.YtmpefjnfelfnfaaGreatDoorBb
import Derived.Test.YtmpefjnfelfnfaaGreatDoorCall
import Derived.Test.YtmpefjnfelfnfaaGreatDoorChecked
import Derived.Deep.Slices
set_option maxRecDepth 100000
namespace Go.Proofs.YtmpefjnfelfnfaaGreatDoor
open Go.ChangeShapes Go.WideShapes Go.ChangeAt Go.RowKit Go.Joins
set_option linter.unusedVariables false
set_option linter.unusedSimpArgs false
theorem u8_nat {a:Int} (h:(Lit.int .u8 a).wf=true):∃ n:Nat,a=(n:Int)∧n<256:=by
 have b:0≤a∧a<256:=by simp [Lit.wf,IntKind.min,IntKind.max,IntKind.bits,IntKind.signed] at h;omega
 exact ⟨a.toNat,by omega,by omega⟩
section
variable {H:Type} {enc:TypeId × Value→H}
theorem qt_cells {W:World} {base fuel:Nat} {sp:Nat→Bool} {held:Bool} {cs:List Value} {x:DataW H × List MemPlace} (h:DataW.trod enc Tryz.prog W base sp held fuel 148 cs=some x):∃ q:Qt,cs=qc q:=by
 have c1:Tryz.prog.cellsOf 148=4:=by kernel_rfl
 have c2:Tryz.prog.cellsOf 5=1:=by kernel_rfl
 obtain ⟨xs,n,_,_,hl,hxl,hf⟩:=DataW.trod_struct Tryz.underlying148 h
 rw [c1] at hl
 match cs,hl with
 | [v0,v1,v2,v3],_ =>
  match xs,hxl with
  | [y0,y1,y2,y3],_ =>
   have h0:=hf 0 _ rfl
   have h1:=hf 1 _ rfl
   have h2:=hf 2 _ rfl
   have h3:=hf 3 _ rfl
   simp [c2] at h0 h1 h2 h3
   obtain ⟨a,ea,_,wa⟩:=DataW.trod_int Tryz.underlying5 h0
   obtain ⟨b,eb,_,wb⟩:=DataW.trod_int Tryz.underlying5 h1
   obtain ⟨c,ec,_,wc⟩:=DataW.trod_int Tryz.underlying5 h2
   obtain ⟨d,ed,_,wd⟩:=DataW.trod_int Tryz.underlying5 h3
   cases ea
   cases eb
   cases ec
   cases ed
   obtain ⟨a,rfl,ba⟩:=u8_nat wa
   obtain ⟨b,rfl,bb⟩:=u8_nat wb
   obtain ⟨c,rfl,bc⟩:=u8_nat wc
   obtain ⟨d,rfl,bd⟩:=u8_nat wd
   exact ⟨⟨a,b,c,d,ba,bb,bc,bd⟩,rfl⟩
end
end Go.Proofs.YtmpefjnfelfnfaaGreatDoor
