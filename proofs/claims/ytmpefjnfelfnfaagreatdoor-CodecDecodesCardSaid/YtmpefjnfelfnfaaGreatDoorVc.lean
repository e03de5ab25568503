/- Contracts of package key's keys: Pack, Unpack, Compare; the closures that hand on a key of a place. -/
import Derived.Test.YtmpefjnfelfnfaaGreatDoorChecked
import Derived.Test.YtmpefjnfelfnfaaGreatDoorVab
import Derived.Test.YtmpefjnfelfnfaaGreatDoorOne
import Derived.WalkKit
import Derived.Lib.Hide
import Derived.BigQuiet
import Derived.Shelf.SlSortCmp.QuietGrown
set_option maxRecDepth 100000
namespace Go.Proofs.YtmpefjnfelfnfaaGreatDoor
open Go.RowKit Go.Sort
set_option linter.unusedVariables false
set_option linter.unusedSimpArgs false
def Grew (w w':World):Prop:=∃ q os,w'=grow (w.drewN q) os
theorem Grew.refl (w:World):Grew w w:=⟨0,#[],by rw [grow_empty];rfl⟩
theorem Grew.trans {a b c:World} (h:Grew a b) (k:Grew b c):Grew a c:=by
 obtain ⟨q,os,rfl⟩:=h
 obtain ⟨q',os',rfl⟩:=k
 exact ⟨q+q',os ++ os',by show grow (grow ((a.drewN q).drewN q') os) os'=_;rw [grow_grow,World.drewN_drewN]⟩
theorem Grew.one (w:World) (o:Obj):Grew w (w.alloc o):=⟨0,#[o],by rw [alloc_eq_grow];rfl⟩
theorem Grew.alloc {a w:World} (h:Grew a w) (o:Obj):Grew a (w.alloc o):=h.trans (Grew.one w o)
theorem Grew.drewN {a w:World} (h:Grew a w) (n:Nat):Grew a (w.drewN n):=h.trans ⟨n,#[],by rw [grow_empty]⟩
theorem Grew.below {w w':World} (h:Grew w w'):Below w.heap.size w w':=by
 obtain ⟨q,os,rfl⟩:=h
 exact ⟨rfl,rfl,rfl,by simp [grow,World.drewN],fun k hk=>by simp [grow,World.drewN,Array.getElem?_append,hk]⟩
theorem Grew.cell {w w':World} (h:Grew w w') {a:Addr} {v:Value} (hc:w.cell? a=some v):w'.cell? a=some v:=by
 rw [h.below.cell (World.block_lt_of_cell? w a hc)];exact hc
theorem or_join16 {x y:Int} (hx:0≤x) (hx':x<281474976710656) (hy:0≤y) (hy':y<65536):bits .or .u64 (x * 65536) y=x * 65536+y:=by
 obtain ⟨n,rfl⟩:=Int.eq_ofNat_of_zero_le hx
 obtain ⟨m,rfl⟩:=Int.eq_ofNat_of_zero_le hy
 have:=u64_or_nat (n * 65536) m (by omega) (by omega)
 rw [show ((n:Int) * 65536)=((n * 65536:Nat):Int) by omega,this,nat_join 16 (n * 65536) m (by omega) (by omega)]
 omega
theorem pack_k (x:Kt) (w:World):Calls Tryz.prog 184 #[kv x] w fun e w'=>e = .returned (.int .u64 (x.num:Int))∧Grew w w':=by
 have h1:=x.ha;have h2:=x.he;have h3:=x.hp
 have e1:bits .or .u64 ((x.a:Int) * 4294967296) ((x.e:Int) * 65536)=(x.a:Int) * 4294967296+(x.e:Int) * 65536:=or_join (by omega) (by omega) (by omega) (by omega)
 have e2:bits .or .u64 ((x.a:Int) * 4294967296+(x.e:Int) * 65536) (x.p:Int)=(x.num:Int):=by
  rw [show (x.a:Int) * 4294967296+(x.e:Int) * 65536=((x.a:Int) * 65536+(x.e:Int)) * 65536 by omega,or_join16 (by omega) (by omega) (by omega) (by omega)]
  unfold Kt.num;omega
 have HG:=Lib.hid (Grew.one w (.cells #[.int .u32 (x.a:Int),.int .u16 (x.e:Int),.int .u16 (x.p:Int)] 235))
 unfold kv
 generalize x.num=n at *
 generalize x.a=a at *
 generalize x.e=b at *
 generalize x.p=c at *
 go_enter Tryz.func184,Tryz.ntmps184
 go_wp2
 go_ret
 exact ⟨rfl,HG.out⟩
def Kt.of (n:Nat):Kt:=⟨n / 4294967296 % 4294967296,n / 65536 % 65536,n % 65536,by omega,by omega,by omega⟩
end Go.Proofs.YtmpefjnfelfnfaaGreatDoor
