/- The frame of a law's row that lists the library's tables: what the listed table of the powers of ten gives; the law makes memory and turns nothing that was there. -/
import Derived.Test.YtjgmbjfijpmhdaaGreatDoorRows
import Derived.Test.YtjgmbjfijpmhdaaGreatDoorTie
import Derived.Test.YtjgmbjfijpmhdaaGreatDoorCards
import Derived.Test.YtjgmbjfijpmhdaaGreatDoorZTwo
import Derived.WalkKit
import Derived.ProofKit
import Derived.OpenShut
import Derived.Below
import Derived.Lay
import Derived.Lib.SmallJoins
import Derived.Lib.LaidU8
import Derived.Stop.LaidErr
import Derived.Stop.Joined
import Derived.SevenTiedAt
import Derived.Test.YtjgmbjfijpmhdaaGreatDoorZThree
import Derived.Carry
import Derived.Test.YtjgmbjfijpmhdaaGreatDoorZKall
namespace Go.Proofs.YtjgmbjfijpmhdaaGreatDoor
open Go.ChangeShapes Go.WideShapes Go.ChangeAt Go.RowKit Go.Joins
set_option linter.unusedVariables false
set_option linter.unusedSimpArgs false
theorem own:ownKnob Tryz.prog.godebug=none:=by kernel_rfl
theorem powData {H:Type}:(Rows.laid_internal_strconv_uint64pow10:DataW H)=Lib.tabData .u64 Lib.pow10Tab:=by rfl
theorem pow_of_tail {W : World} {r : List (String × DataW Unit)} (h : laidMet Tryz.prog (("internal/strconv.uint64pow10", Rows.laid_internal_strconv_uint64pow10) :: r) W) : Pow W := by
 rw [powData] at h
 exact Lib.tabIs_of_head (g:=6) (t:=323) (e:=205) (n:=20) (by kernel_rfl) (by kernel_rfl) Tryz.underlying323 Tryz.underlying205 (by kernel_rfl) (by kernel_rfl) h
theorem Pow.size {W:World} (h:Pow W):6<W.heap.size :=
 World.block_lt_of_cell? W ⟨6,0,none⟩ (Lib.TabIs.cell h (by kernel_rfl) 0 (by decide))
section
variable {H:Type} {enc:TypeId × Value→H} {P:Program}
end
section
variable {H:Type} {enc:TypeId × Value→H} {P:Program}
theorem trodAll_below (hl:laidOutB P=true) {W W':World} (hb:Below W.heap.size W W'):∀ {ts:List TypeId} {vs:List Value} {ds:List (DataW H)} {ps:List MemPlace},
 (∀ t ∈ ts,P.readableRec t=true∧t<P.types.size)→DataW.TrodAll enc P W 0 (fun _=>true) true ts vs ds ps→(∀ x ∈ ps,x.block<W.heap.size) →
 DataW.TrodAll enc P W' 0 (fun b=>decide (b<W.heap.size)) true ts vs ds ps
 | [],vs,ds,ps,_,h,_=>by
  obtain ⟨rfl,rfl,rfl⟩:=trodAll_nil h
  exact trodAll_mk0
 | t :: ts,vs,ds,ps,ht,h,hlt=>by
  obtain ⟨v,vs',d,ds',p,q,rfl,rfl,rfl,h1,h2⟩:=trodAll_cons h
  have a:=ht t (by simp)
  exact trodAll_cons_mk (h1.elim fun _ _=>Below.trod hl a.1 a.2 h1 hb (fun x hx=>hlt x (List.mem_append_left _ hx))) (trodAll_below hl hb (fun t' h'=>ht t' (List.mem_cons_of_mem _ h')) h2 (fun x hx=>hlt x (List.mem_append_right _ hx)))
theorem law_end {f:Func} {s:ChangeSpec} {apart fresh handsOn:Bool} {W W':World} {args:Array Value} {v:Value} {ds:List (DataW H)} {before:List MemPlace}
 (hl:laidOutB P=true) (ht:(f.params.toList.all fun t=>P.readableRec t && decide (t<P.types.size))=true)
 (hW:DataW.Whole enc P f.params.toList s.vars apart W args.toList ds [] before) (hA:DataW.TrodAll enc P W 0 (fun _=>true) true f.params.toList args.toList ds before)
 (hvs:s.vars=[]) (hargs:(s.fn H ds).args=ds) (hvars:(s.fn H ds).vars=[])
 (hres:∀ (b:Nat) (sp:Nat→Bool) (hd:Bool),DataW.TrodAll enc P W' b sp hd f.resultTypes.toList (v.resultList f.resultTypes.size) (s.fn H ds).results [])
 (hb:Below W.heap.size W W'):s.post enc P f apart fresh handsOn false W args v W':=by
 refine ⟨ds,[],before,[],before,[],hW,?_,?_,?_,hb.frame _,fun h=>by cases h⟩
 ·rw [List.append_nil];exact hres _ _ _
 ·rw [List.append_nil,hargs]
  refine trodAll_below hl hb (fun t h=>?_) hA (fun x hx=>hW.lt x hx)
  have:=List.all_eq_true.1 ht t h
  simpa using this
 ·rw [List.append_nil,hvars,hvs];rfl
theorem spot_none {w:World} {a:Addr} {v:Value} (h:w.cell? a=some v):a=⟨a.block,a.off,none⟩:=by
 obtain ⟨b,o,s⟩:=a
 cases s with
 | none=>rfl
 | some x =>
  unfold World.cell? at h
  split at h
  ·simp at h
  ·cases h
end
theorem laidOut:laidOutB Tryz.prog=true:=by kernel_rfl
theorem laid_drop {P:Program} {W:World}:∀ (n:Nat) {l:List (String × DataW Unit)},laidMet P l W→laidMet P (l.drop n) W
 | 0,_,h=>h
 | _+1,[],h=>h
 | n+1,_ :: _,h=>laid_drop n h.tail
theorem lenData {H:Type}:(Rows.laid_transposal_day_lengths:DataW H)=Lib.tabData .i64 lens:=by rfl
theorem len_of_head {W : World} {r : List (String × DataW Unit)} (h : laidMet Tryz.prog (("transposal/day.lengths", Rows.laid_transposal_day_lengths) :: r) W) : LenTab W := by
 rw [lenData] at h
 exact Lib.tabIs_of_head (g:=0) (t:=263) (e:=3) (n:=12) (by kernel_rfl) (by kernel_rfl) Tryz.underlying263 Tryz.underlying3 (by kernel_rfl) (by kernel_rfl) h
theorem ini_of {W:World} {l:List (String × DataW Unit)} (hn:(l.all fun x=>x.2.handleName?.isNone)=true) (h:laidMetH Tryz.prog l W) (i j:Nat) {r1 r2:List (String × DataW Unit)}
 (e1 : l.drop i = ("internal/strconv.uint64pow10", Rows.laid_internal_strconv_uint64pow10) :: r1) (e2 : l.drop j = ("transposal/day.lengths", Rows.laid_transposal_day_lengths) :: r2) : InI W := by
 rw [MakeChecks.laidMetH_plain _ _ _ hn] at h
 have h1:=laid_drop i h
 have h2:=laid_drop j h
 rw [e1] at h1
 rw [e2] at h2
 have hp:=pow_of_tail h1
 exact inI hp hp.size (len_of_head h2)
