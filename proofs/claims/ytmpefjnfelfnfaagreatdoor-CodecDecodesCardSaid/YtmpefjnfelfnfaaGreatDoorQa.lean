/- What law 5 asks of package key's keys, as one word; law 5's Awake, less; law KeyUnpacks. -/
import Derived.Test.YtmpefjnfelfnfaaGreatDoorKall
set_option maxRecDepth 100000
namespace Go.Proofs.YtmpefjnfelfnfaaGreatDoor
open Go.RowKit
set_option linter.unusedVariables false
set_option linter.unusedSimpArgs false
def keyV (a e p:Int):Value:=.agg #[.int .u32 a,.int .u16 e,.int .u16 p]
def packN (a e p:Int):Int:=a * 4294967296+e * 65536+p
def IsKey (a e p:Int):Prop:=(0≤a∧a<4294967296)∧(0≤e∧e<65536)∧(0≤p∧p<65536)
structure KeyC (I:World→Prop):Prop where
 pack:∀ (a e p:Int) (w:World),I w→IsKey a e p→Calls Tryz.prog 184 #[keyV a e p] w fun r w'=>r = .returned (.int .u64 (packN a e p))∧Below w.heap.size w w'
theorem pack_a:packN 1 2 3=4295098371:=by decide
theorem awake5_any {I:World→Prop} (C:AllotC) (D:DayC I) (K:KeyC I) (w:World) (hI:I w) :
 Calls Tryz.prog 172 #[] w fun e w'=>e = .returned (.bool true)∧Below w.heap.size w w':=by
 have K1:=Lib.hid (K.pack 1 2 3 w hI ⟨by omega,by omega,by omega⟩)
 rw [pack_a] at K1
 unfold keyV at K1
 go_enter Tryz.func172,Tryz.ntmps172
 go_wp2_with (first
  | (go_at_call 185;refine (awake4_any C D _ (D.stay hI hb1)).mono ?_;rintro e w2 ⟨rfl,hb2⟩)
  | (go_at_call 184;refine K1.out.mono ?_;rintro e w1 ⟨rfl,hb1⟩))
 go_ret
 exact ⟨by simp,hb1.trans (hb2.mono hb1.size)⟩
end Go.Proofs.YtmpefjnfelfnfaaGreatDoor
