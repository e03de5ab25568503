/- Arguments: slices of bytes. -/
import Derived.Test.YtjgmbjfijpmhdaaGreatDoorZGxx
import Derived.Test.YtjgmbjfijpmhdaaGreatDoorZJall
import Derived.Test.YtjgmbjfijpmhdaaGreatDoorZIall
import Derived.Test.YtjgmbjfijpmhdaaGreatDoorChecked
import Derived.Test.YtjgmbjfijpmhdaaGreatDoorZCall
import Derived.Deep.Slices
import Derived.Test.YtjgmbjfijpmhdaaGreatDoorZXfh
set_option maxRecDepth 100000
namespace Go.Proofs.YtjgmbjfijpmhdaaGreatDoor
open Go.ChangeShapes Go.WideShapes Go.ChangeAt Go.RowKit Go.Joins
set_option linter.unusedVariables false
set_option linter.unusedSimpArgs false
section
variable {H:Type} {enc:TypeId × Value→H} {P:Program}
end
theorem i16_in {a:Int} (h:(Lit.int .i16 a).wf=true) : -32768≤a∧a≤32767:=by
 simp [Lit.wf,IntKind.min,IntKind.max,IntKind.bits,IntKind.signed] at h;omega
theorem i64_in {a:Int} (h:(Lit.int .i64 a).wf=true) : -9223372036854775808≤a∧a≤9223372036854775807:=by
 simp [Lit.wf,IntKind.min,IntKind.max,IntKind.bits,IntKind.signed] at h;omega
section
variable {H:Type} {enc:TypeId × Value→H} {P:Program}
end
section
variable {H:Type} {enc:TypeId × Value→H}
end
theorem u8_nat {a:Int} (h:(Lit.int .u8 a).wf=true):∃ n:Nat,a=(n:Int)∧n<256:=by
 have b:0≤a∧a<256:=by simp [Lit.wf,IntKind.min,IntKind.max,IntKind.bits,IntKind.signed] at h;omega
 exact ⟨a.toNat,by omega,by omega⟩
section
variable {H:Type} {enc:TypeId × Value→H}
theorem qt_cells {W:World} {base fuel:Nat} {sp:Nat→Bool} {held:Bool} {cs:List Value} {x:DataW H × List MemPlace} (h:DataW.trod enc Tryz.prog W base sp held fuel 116 cs=some x):∃ q:Qt,cs=qc q:=by
 have c1:Tryz.prog.cellsOf 116=4:=by kernel_rfl
 have c2:Tryz.prog.cellsOf 5=1:=by kernel_rfl
 obtain ⟨xs,n,_,_,hl,hxl,hf⟩:=DataW.trod_struct Tryz.underlying116 h
 rw [c1] at hl
 match cs,hl with
 | [v0,v1,v2,v3],_ =>
  match xs,hxl with
  | [y0,y1,y2,y3],_ =>
   have h0:=hf 0 _ rfl
   have h1:=hf 1 _ rfl
   have h2:=hf 2 _ rfl
   have h3:=hf 3 _ rfl
   simp [c2] at h0 h1 h2 h3
   obtain ⟨a,ea,_,wa⟩:=DataW.trod_int Tryz.underlying5 h0
   obtain ⟨b,eb,_,wb⟩:=DataW.trod_int Tryz.underlying5 h1
   obtain ⟨c,ec,_,wc⟩:=DataW.trod_int Tryz.underlying5 h2
   obtain ⟨d,ed,_,wd⟩:=DataW.trod_int Tryz.underlying5 h3
   cases ea
   cases eb
   cases ec
   cases ed
   obtain ⟨a,rfl,ba⟩:=u8_nat wa
   obtain ⟨b,rfl,bb⟩:=u8_nat wb
   obtain ⟨c,rfl,bc⟩:=u8_nat wc
   obtain ⟨d,rfl,bd⟩:=u8_nat wd
   exact ⟨⟨a,b,c,d,ba,bb,bc,bd⟩,rfl⟩
end
section
variable {H:Type} {enc:TypeId × Value→H}
theorem sm_cells {W:World} {base fuel:Nat} {sp:Nat→Bool} {held:Bool} {cs:List Value} {x:DataW H × List MemPlace} (h:DataW.trod enc Tryz.prog W base sp held fuel 123 cs=some x):∃ q:Sm,cs=smc q:=by
 have c1:Tryz.prog.cellsOf 123=4:=by kernel_rfl
 have c2:Tryz.prog.cellsOf 5=1:=by kernel_rfl
 have c4:Tryz.prog.cellsOf 2=1:=by kernel_rfl
 obtain ⟨xs,n,_,_,hl,hxl,hf⟩:=DataW.trod_struct Tryz.underlying123 h
 rw [c1] at hl
 match cs,hl with
 | [v0,v1,v2,v3],_ =>
  match xs,hxl with
  | [y0,y1,y2,y3],_ =>
   have h0:=hf 0 _ rfl
   have h1:=hf 1 _ rfl
   have h2:=hf 2 _ rfl
   have h3:=hf 3 _ rfl
   simp [c2,c4] at h0 h1 h2 h3
   obtain ⟨a,ea,_,wa⟩:=DataW.trod_int Tryz.underlying5 h0
   obtain ⟨b,eb,_,wb⟩:=DataW.trod_int Tryz.underlying5 h1
   obtain ⟨c,ec,_,wc⟩:=DataW.trod_int Tryz.underlying5 h2
   obtain ⟨d,ed,_,wd⟩:=DataW.trod_int Tryz.underlying2 h3
   cases ea
   cases eb
   cases ec
   cases ed
   obtain ⟨a,rfl,ba⟩:=u8_nat wa
   obtain ⟨b,rfl,bb⟩:=u8_nat wb
   obtain ⟨c,rfl,bc⟩:=u8_nat wc
   exact ⟨⟨a,b,c,d,ba,bb,bc,i64_in wd⟩,rfl⟩
theorem jn_cells {W:World} {base fuel:Nat} {held:Bool} {cs:List Value} {x:DataW H × List MemPlace} (h:DataW.trod enc Tryz.prog W base (fun _=>true) held fuel 88 cs=some x):∃ q:Jp,cs=jnc q∧Recs smc 4 W q.2 q.1.lines:=by
 have c1:Tryz.prog.cellsOf 88=2:=by kernel_rfl
 have c2:Tryz.prog.cellsOf 5=1:=by kernel_rfl
 have c3:Tryz.prog.cellsOf 86=1:=by kernel_rfl
 obtain ⟨xs,n,_,_,hl,hxl,hf⟩:=DataW.trod_struct Tryz.underlying88 h
 rw [c1] at hl
 match cs,hl with
 | [v0,v1],_ =>
  match xs,hxl with
  | [y0,y1],_ =>
   have h0:=hf 0 _ rfl
   have h1:=hf 1 _ rfl
   simp [c2,c3] at h0 h1
   obtain ⟨a,ea,_,wa⟩:=DataW.trod_int Tryz.underlying5 h0
   obtain ⟨v,zs,ev,hR,_⟩:=recs_trod (Q:=fun _=>True) smc_len (by omega) Tryz.underlying86 (by kernel_rfl) h1 (fun {fuel cs x} hc=>by obtain ⟨q,e⟩:=sm_cells hc;exact ⟨q,e,trivial⟩)
   cases ea
   cases ev
   obtain ⟨a,rfl,ba⟩:=u8_nat wa
   exact ⟨(⟨a,zs,ba⟩,v1),rfl,hR⟩
theorem bk_cells {W:World} {base fuel:Nat} {held:Bool} {cs:List Value} {x:DataW H × List MemPlace} (h:DataW.trod enc Tryz.prog W base (fun _=>true) held fuel 28 cs=some x) :
 ∃ (x:Bk) (vCh vUn vLo vJs:Value) (js:List Jp),cs=[vCh,vUn,.int .i16 x.first,vLo,vJs]∧BkM x vCh vUn vLo vJs js W:=by
 have c1:Tryz.prog.cellsOf 28=5:=by kernel_rfl
 have c2:Tryz.prog.cellsOf 22=1:=by kernel_rfl
 have c3:Tryz.prog.cellsOf 23=1:=by kernel_rfl
 have c4:Tryz.prog.cellsOf 24=1:=by kernel_rfl
 have c5:Tryz.prog.cellsOf 25=1:=by kernel_rfl
 have c6:Tryz.prog.cellsOf 26=1:=by kernel_rfl
 obtain ⟨xs,n,_,_,hl,hxl,hf⟩:=DataW.trod_struct Tryz.underlying28 h
 rw [c1] at hl
 match cs,hl with
 | [v0,v1,v2,v3,v4],_ =>
  match xs,hxl with
  | [y0,y1,y2,y3,y4],_ =>
   have h0:=hf 0 _ rfl
   have h1:=hf 1 _ rfl
   have h2:=hf 2 _ rfl
   have h3:=hf 3 _ rfl
   have h4:=hf 4 _ rfl
   simp [c2,c3,c4,c5,c6] at h0 h1 h2 h3 h4
   obtain ⟨a,za,ea,ha,_⟩:=recs_trod (Q:=fun _=>True) qc_len (by omega) Tryz.underlying22 (by kernel_rfl) h0 (fun {fuel cs x} hc=>by obtain ⟨q,e⟩:=qt_cells hc;exact ⟨q,e,trivial⟩)
   obtain ⟨b,zb,eb,hb,_⟩:=recs_trod (Q:=fun _=>True) uc_len (by omega) Tryz.underlying23 (by kernel_rfl) h1 (fun {fuel cs x} hc=>by
    obtain ⟨n,e,_,wn⟩:=DataW.trod_int Tryz.underlying77 hc
    obtain ⟨m,rfl,_⟩:=u16_nat wn
    exact ⟨m,e,trivial⟩)
   obtain ⟨c,ec,_,wc⟩:=DataW.trod_int Tryz.underlying24 h2
   obtain ⟨d,zd,ed,hd,_⟩:=recs_trod (Q:=fun _=>True) u8c_len (by omega) Tryz.underlying25 (by kernel_rfl) h3 (fun {fuel cs x} hc=>by
    obtain ⟨n,e,_,wn⟩:=DataW.trod_int Tryz.underlying5 hc
    obtain ⟨m,rfl,_⟩:=u8_nat wn
    exact ⟨m,e,trivial⟩)
   obtain ⟨e,ze,ee,he,hq⟩:=recs_trod (Q:=fun q:Jp=>Recs smc 4 W q.2 q.1.lines) jnc_len (by omega) Tryz.underlying26 (by kernel_rfl) h4 (fun {fuel cs x} hc=>jn_cells hc)
   cases ea
   cases eb
   cases ec
   cases ed
   cases ee
   exact ⟨⟨za,zb,c,zd,ze.map (·.1),i16_in wc⟩,v0,v1,v3,v4,ze,rfl,⟨ha,hb,hd,he,hq,rfl⟩⟩
theorem bk_open {W:World} {r:Reach} {b0 base:Nat} {held:Bool} {v:Value} {d:DataW H} {p:List MemPlace} (hv:Value.okWide Tryz.prog W r b0 28 v) (h:DataW.Trod enc Tryz.prog W base (fun _=>true) held 28 v d p) :
 ∃ (x:Bk) (vCh vUn vLo vJs:Value) (js:List Jp),v=bV vCh vUn x.first vLo vJs∧BkM x vCh vUn vLo vJs js W:=by
 obtain ⟨cs,rfl,_⟩:=okWide_struct Tryz.underlying28 hv
 obtain ⟨fuel,hf⟩:=h
 obtain ⟨x,a,b,c,d,js,hk,hM⟩:=bk_cells hf
 refine ⟨x,a,b,c,d,js,?_,hM⟩
 have:cs.toList=_:=hk
 unfold bV
 congr 1
 apply Array.ext'
 rw [this]
end
