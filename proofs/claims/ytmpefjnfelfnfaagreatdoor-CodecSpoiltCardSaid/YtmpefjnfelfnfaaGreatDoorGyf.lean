/- Law 11's CodecSpoilt in the row's order of arguments. -/
import Derived.Test.YtmpefjnfelfnfaaGreatDoorCjg
import Derived.Test.YtmpefjnfelfnfaaGreatDoorCjall
import Derived.Test.YtmpefjnfelfnfaaGreatDoorGall
import Derived.Test.YtmpefjnfelfnfaaGreatDoorNall
import Derived.Test.YtmpefjnfelfnfaaGreatDoorJall
import Derived.Test.YtmpefjnfelfnfaaGreatDoorIall
import Derived.Test.YtmpefjnfelfnfaaGreatDoorUall
import Derived.Test.YtmpefjnfelfnfaaGreatDoorVpk
import Derived.Test.YtmpefjnfelfnfaaGreatDoorKall
import Derived.Test.YtmpefjnfelfnfaaGreatDoorPall
namespace Go.Proofs.YtmpefjnfelfnfaaGreatDoor
open Go.RowKit
set_option linter.unusedVariables false
theorem codecspoilt_row (x:Bk) (vCh vUn vLo vJs:Value) (js:List Jp) (a b:Int) (vm:Value) (ms:List Nat) (c d:Int) (w:World) (hI:InI w) (hM:BkM x vCh vUn vLo vJs js w) (ha:(Lit.int .u16 a).wf=true) (hb:(Lit.int .u8 b).wf=true) (hm:Recs u8c 1 w vm ms ∧ ∀ z ∈ ms,z<256) (hc:(Lit.int .u8 c).wf=true) (hd:(Lit.int .i64 d).wf=true) :
 Calls Tryz.prog 5 #[bV vCh vUn x.first vLo vJs,.int .u16 a,.int .u8 b,vm,.int .u8 c,.int .i64 d] w fun e w'=>e = .returned (.bool true)∧Below w.heap.size w w':=by
 obtain ⟨n,rfl,hn⟩:=u16_nat ha
 obtain ⟨k,rfl,hk⟩:=u8_nat hb
 obtain ⟨q,rfl,hq⟩:=u8_nat hc
 exact codecspoilt_any allotC dayC keyC unitC calC entryC bookC codecC (decC dayC bookC) (fun vb l w hI hR hb=>ldecode_c dayC bookC vb l w hI hR hb) x vCh vUn vLo vJs js n k vm ms q d hn hk hm.2 hq (i64_in hd) w hI hM hm.1
end Go.Proofs.YtmpefjnfelfnfaaGreatDoor
