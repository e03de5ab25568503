/- Tables of texts: what a listed array of strings holds; package script's words and links. -/
import Derived.Test.YtjgmbjfijpmhdaaGreatDoorZMsa
import Derived.Test.YtjgmbjfijpmhdaaGreatDoorZKall
import Derived.Lib.LaidTab
import Derived.Test.YtjgmbjfijpmhdaaGreatDoorZLall
namespace Go.Proofs.YtjgmbjfijpmhdaaGreatDoor
open Go.ChangeShapes Go.WideShapes Go.ChangeAt Go.RowKit Go.Lib
set_option linter.unusedVariables false
set_option linter.unusedSimpArgs false
def strData {H:Type} (ss:List (List UInt8)):DataW H:=.agg (ss.map fun s=>.lit (.string s))
def StrTab (P:Program) (w:World) (name:String) (ss:List (List UInt8)):Prop:=w.var? P name=some (ss.map strV).toArray
theorem cells_of_strs {H:Type} {enc:TypeId × Value→H} {P:Program} {w:World} {base:Nat} {sp:Nat→Bool} {held:Bool} {fuel:Nat} {t e:TypeId} {n:Nat} {cs:List Value} {ss:List (List UInt8)} {p:List MemPlace}
 (ht:P.underlying t=some (.array n e)) (he:P.underlying e=some .string) (hce:P.cellsOf e=1) (hct:P.cellsOf t=n)
 (h:DataW.trod enc P w base sp held fuel t cs=some (strData ss,p)):cs=ss.map strV:=by
 cases fuel with
 | zero=>simp [DataW.trod] at h
 | succ fuel =>
  simp only [DataW.trod,ht,hce,hct,Nat.mul_one] at h
  split at h
  ·rename_i hl
   obtain ⟨xs,hm,hx⟩:=Option.map_eq_some_iff.1 h
   have hxs:xs.map (·.1)=ss.map fun z=>(DataW.lit (.string z):DataW H):=by
    have:=congrArg Prod.fst hx
    simpa [strData] using this
   have hxl:xs.length=n:=by simpa using mapM_length hm
   have hzl:ss.length=n:=by
    have:=congrArg List.length hxs
    simp at this
    omega
   apply List.ext_getElem?
   intro i
   by_cases hi:i<n
   ·obtain ⟨b,hb,hf⟩:=mapM_at hm i i (by simp [hi])
    obtain ⟨z,hc,rfl,_⟩:=DataW.trod_string he hf
    have h1:cs[i]?=some (.string z):=by
     have:=congrArg (·[0]?) hc
     simpa [List.getElem?_take,List.getElem?_drop] using this
    have h2:(xs.map (·.1))[i]?=some (DataW.lit (.string z.data.toList):DataW H):=by simp [hb]
    rw [hxs] at h2
    simp only [List.getElem?_map,Option.map_eq_some_iff,DataW.lit.injEq,Lit.string.injEq] at h2
    obtain ⟨z',hz',e'⟩:=h2
    rw [h1,List.getElem?_map,hz',e']
    simp [strV]
   ·rw [List.getElem?_eq_none (by omega),List.getElem?_eq_none (by simp;omega)]
  ·cases h
theorem strTab_of_head {P:Program} {W:World} {name:String} {ss:List (List UInt8)} {rest:List (String × DataW Unit)} {g:Nat} {t e:TypeId} {n:Nat}
 (hg:P.globalNamed name=some g) (hty:(P.globals[g]?).map (·.type)=some t) (ht:P.underlying t=some (.array n e)) (he:P.underlying e=some .string) (hce:P.cellsOf e=1) (hct:P.cellsOf t=n)
 (h:laidMet P ((name,strData ss) :: rest) W):StrTab P W name ss:=by
 obtain ⟨ps,⟨g',t',cs,fuel,p,q,hg',ht',hvar,hd,_,_⟩,_⟩:=h
 obtain rfl:=Option.some.inj (hg.symm.trans hg')
 obtain rfl:=Option.some.inj (hty.symm.trans ht')
 unfold StrTab
 rw [hvar,← cells_of_strs ht he hce hct hd]
theorem StrTab.stay {P:Program} {w w':World} {name:String} {ss:List (List UInt8)} {g:Nat} (hg:P.globalNamed name=some g) (h:StrTab P w name ss) (hb:Below w.heap.size w w'):StrTab P w' name ss:=by
 unfold StrTab World.var? at *
 rw [hg] at h ⊢
 simp only [Option.bind_some] at h ⊢
 have hlt:g<w.heap.size:=by
  rcases Nat.lt_or_ge g w.heap.size with h' | h'
  ·exact h'
  ·rw [Array.getElem?_eq_none h'] at h;cases h
 rw [hb.block g hlt]
 exact h
def wordsL:List (List UInt8):=[wordK 0,wordK 1,wordK 2,wordK 3,wordK 4,wordK 5,wordK 6,wordK 7]
def linksL:List (List UInt8):=[linkK 0,linkK 1,linkK 2,linkK 3,linkK 4,linkK 5,linkK 6,linkK 7]
structure WordTab (w:World):Prop where
 words : StrTab Tryz.prog w "transposal/script.words" wordsL
 links : StrTab Tryz.prog w "transposal/script.links" linksL
theorem WordTab.stay {w w':World} (h:WordTab w) (hb:Below w.heap.size w w'):WordTab w':=⟨h.words.stay (g:=2) (by kernel_rfl) hb,h.links.stay (g:=1) (by kernel_rfl) hb⟩
theorem strTab_cell {w:World} {name:String} {ss:List (List UInt8)} {g:Nat} (hg:Tryz.prog.globalNamed name=some g) (h:StrTab Tryz.prog w name ss) {i:Nat} {s:List UInt8} (hi:ss[i]?=some s):w.cell? ⟨g,i,none⟩=some (strV s):=by
 have:=World.var?_cell hg h i
 rw [this]
 simp [hi]
theorem WordTab.word {w:World} (h:WordTab w):∀ k:Fin 8,w.cell? ⟨2,k.val,none⟩=some (strV (wordK k.val)):=fun k=>strTab_cell (by kernel_rfl) h.words (by revert k;decide)
def InS (w:World):Prop:=InI w∧WordTab w
theorem InS.stay {w w':World} (h:InS w) (hb:Below w.heap.size w w'):InS w':=⟨h.1.stay hb,h.2.stay hb⟩
end Go.Proofs.YtjgmbjfijpmhdaaGreatDoor
namespace Go.Proofs.YtjgmbjfijpmhdaaGreatDoor
open Go.ChangeShapes Go.WideShapes Go.ChangeAt Go.RowKit Go.Joins
set_option linter.unusedVariables false
set_option linter.unusedSimpArgs false
theorem wordsData {H:Type}:(Rows.laid_transposal_script_words:DataW H)=strData wordsL:=by rfl
theorem linksData {H:Type}:(Rows.laid_transposal_script_links:DataW H)=strData linksL:=by rfl
theorem ins_of {W:World} {l:List (String × DataW Unit)} (hn:(l.all fun x=>x.2.handleName?.isNone)=true) (h:laidMetH Tryz.prog l W) (i j a b:Nat) {r1 r2 r3 r4:List (String × DataW Unit)}
 (e1 : l.drop i = ("internal/strconv.uint64pow10", Rows.laid_internal_strconv_uint64pow10) :: r1) (e2 : l.drop j = ("transposal/day.lengths", Rows.laid_transposal_day_lengths) :: r2)
 (e3 : l.drop a = ("transposal/script.words", Rows.laid_transposal_script_words) :: r3) (e4 : l.drop b = ("transposal/script.links", Rows.laid_transposal_script_links) :: r4) : InS W := by
 refine ⟨ini_of hn h i j e1 e2,?_,?_⟩
 ·rw [MakeChecks.laidMetH_plain _ _ _ hn] at h
  have h1:=laid_drop a h
  rw [e3,wordsData] at h1
  exact strTab_of_head (g:=2) (t:=271) (e:=9) (n:=8) (by kernel_rfl) (by kernel_rfl) Tryz.underlying271 Tryz.underlying9 (by kernel_rfl) (by kernel_rfl) h1
 ·rw [MakeChecks.laidMetH_plain _ _ _ hn] at h
  have h1:=laid_drop b h
  rw [e4,linksData] at h1
  exact strTab_of_head (g:=1) (t:=271) (e:=9) (n:=8) (by kernel_rfl) (by kernel_rfl) Tryz.underlying271 Tryz.underlying9 (by kernel_rfl) (by kernel_rfl) h1
