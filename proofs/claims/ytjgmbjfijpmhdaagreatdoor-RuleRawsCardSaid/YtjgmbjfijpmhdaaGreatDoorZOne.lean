/- Plain arithmetic on wide numbers: a wide number is an integer modulo 2^128; its high half is read with a sign, its low half without one. -/
import Derived.WalkKit
import Derived.Laws.Bits64
import Derived.Laws.BitsAllLaws
import Derived.Test.YtjgmbjfijpmhdaaGreatDoorChecked
import Derived.Lib.Hide
import Derived.Below
import Derived.Outline
import Derived.Deep.RegionHeld3
import Derived.WalkSmall
namespace Go.Proofs.YtjgmbjfijpmhdaaGreatDoor
open Go.RowKit
set_option linter.unusedVariables false
set_option linter.unusedSimpArgs false
def hiW (a:Int):Int:=IntKind.i64.wrap (a / 18446744073709551616)
def loW (a:Int):Int:=a % 18446744073709551616
theorem i64w (n:Int):IntKind.i64.wrap n=(n+9223372036854775808) % 18446744073709551616-9223372036854775808:=by
 simp only [IntKind.wrap,IntKind.bits,IntKind.signed];simp;omega
theorem w64w (n:Int):wrap64 n=(n+9223372036854775808) % 18446744073709551616-9223372036854775808:=by
 unfold wrap64;simp
theorem wf_bd_i64 {n:Int} (h:(Lit.int .i64 n).wf=true) : -9223372036854775808≤n∧n<9223372036854775808:=by
 simp [Lit.wf,IntKind.min,IntKind.max,IntKind.signed,IntKind.bits] at h;omega
theorem size_neg {n:Int} (h:(Lit.int .i64 n).wf=true) (h0:n<0):IntKind.u64.wrap (-IntKind.u64.wrap n)=n.natAbs:=by
 have:=wf_bd_i64 h
 simp only [IntKind.wrap_u64];omega
theorem size_pos {n:Int} (h:(Lit.int .i64 n).wf=true) (h0:0≤n):IntKind.u64.wrap n=n.natAbs:=by
 have:=wf_bd_i64 h
 simp only [IntKind.wrap_u64];omega
theorem add_plain {a b:Int} (h:¬ loW (a+b)<loW a):wrap64 (hiW a+hiW b)=hiW (a+b):=by
 unfold loW at h;unfold hiW;simp only [i64w,w64w];omega
theorem int_int {k:IntKind} {a b:Int} (h:a=b):Value.int k a=Value.int k b:=by rw [h]
theorem ret_int {k:IntKind} {a b:Int} (h:a=b):Ending.returned (.int k a) = .returned (.int k b):=by rw [h]
theorem size_any (n:Int) (w:World) (hn:(Lit.int .i64 n).wf=true) :
 Calls Tryz.prog 290 #[.int .i64 n] w fun e w'=>e = .returned (.int .u64 n.natAbs)∧w=w':=by
 have h1:n<0→IntKind.u64.wrap (-IntKind.u64.wrap n)=n.natAbs:=fun h=>size_neg hn h
 have h2:0≤n→IntKind.u64.wrap n=n.natAbs:=fun h=>size_pos hn h
 go_enter Tryz.func290,Tryz.ntmps290
 go_wp2
 ·have:=h1 (by assumption)
  go_ret
  exact ⟨rfl,rfl⟩
 ·have:=h2 (by assumption)
  go_ret
  exact ⟨rfl,rfl⟩
