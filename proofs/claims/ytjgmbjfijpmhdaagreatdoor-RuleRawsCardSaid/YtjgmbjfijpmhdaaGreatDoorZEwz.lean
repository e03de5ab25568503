/- A copy of a string. -/
import Derived.Test.YtjgmbjfijpmhdaaGreatDoorChecked
import Derived.Test.YtjgmbjfijpmhdaaGreatDoorZShelf
import Derived.Lib.Hide
import Derived.WalkKit
import Derived.Outline
import Derived.Test.YtjgmbjfijpmhdaaGreatDoorZEwall
import Derived.Test.YtjgmbjfijpmhdaaGreatDoorZNall
import Derived.Test.YtjgmbjfijpmhdaaGreatDoorZMtl
namespace Go.Proofs.YtjgmbjfijpmhdaaGreatDoor
open Go.RowKit Go.Lib
set_option linter.unusedVariables false
set_option linter.unusedSimpArgs false
theorem clone_s (s:ByteArray) (w:World) (hs:s.size≤281474976710656):Calls Tryz.prog 107 #[.string s] w fun e w'=>e = .returned (.string s)∧Below w.heap.size w w':=by
 have KK:=hid (fun (W':World)=>Tryz.stringslite_Clone s W' hs)
 go_enter Tryz.func107,Tryz.ntmps107
 go_wp2_with (go_at_call 155;refine (KK.out _).mono ?_;rintro e w1 ⟨rfl,h1⟩;have HB:=hid h1;clear h1)
 go_ret
 exact ⟨rfl,HB.out⟩
end Go.Proofs.YtjgmbjfijpmhdaaGreatDoor
namespace Go.Proofs.YtjgmbjfijpmhdaaGreatDoor
open Go Go.RowKit Go.Lib Ev
set_option linter.unusedVariables false
def spS:FuncId→List Value→St→Option (Value × St):=fun f args s=>match args with
 | [.string b]=>match Nat.beq f 107 && Nat.ble b.size 281474976710656 with
  | true=>some (.string b,s)
  | false=>none
 | [.string b,.string ⟨⟨[c]⟩⟩]=>match Nat.beq f 195 with
  | true=>some (.bool (decide (0≤Lib.indexByte b.data.toList c)),s)
  | false=>none
 | _=>none
theorem spS_ok:CallOk Tryz.prog spS:=by
 intro f args s v s' h ρ M base w0 w args' hI hG hF hA
 unfold spS at h
 split at h
 ·rename_i b
  split at h
  ·rename_i hb
   simp only [Bool.and_eq_true,Nat.beq_eq,Nat.ble_eq] at hb
   cases h
   rw [hb.1,flat_args hA rfl]
   refine (clone_s b w hb.2).mono ?_
   rintro e w' ⟨rfl,hw⟩
   exact ⟨_,rfl,DoneC.later hI hw (.string _)⟩
  ·cases h
 ·rename_i b c
  split at h
  ·rename_i hb
   have hb:=Nat.eq_of_beq_eq_true hb
   cases h
   rw [hb,flat_args hA rfl]
   refine (Tryz.strings_Contains_one b c w).mono ?_
   rintro e w' ⟨rfl,rfl⟩
   exact ⟨_,rfl,DoneC.later hI (Below.refl _ _) (.bool _)⟩
  ·cases h
 ·cases h
def spJ:FuncId→List Value→St→Option (Value × St):=fun f args s=>match args with
 | [.slice (some a) n c,.string sep]=>match Nat.beq f 112,cellsOf s 1 (.slice (some a) n c) n with
  | true,some xs=>match strsOf xs with
   | some l=>match Nat.ble (Lib.join (l.map (·.data.toList)) sep.data.toList).length 1000000 && Nat.ble n 1000000 with
    | true=>some (.string ⟨(Lib.join (l.map (·.data.toList)) sep.data.toList).toArray⟩,s)
    | false=>none
   | none=>none
  | _,_=>none
 | _=>none
theorem two_args {ρ:Ren} {x y:Value} {a:Array Value} (h:VRl ρ [x,y] a.toList):∃ x' y',a=#[x',y']∧VR ρ x x'∧VR ρ y y':=by
 obtain ⟨l⟩:=a
 obtain ⟨h1,h2⟩:=h
 match l,h1,h2 with
 | [x',y'],_,h2=>exact ⟨x',y',rfl,h2 0 _ _ rfl rfl,h2 1 _ _ rfl rfl⟩
theorem spJ_ok:CallOk Tryz.prog spJ:=by
 intro f args s v s' h ρ M base w0 w args' hI hG hF hA
 unfold spJ at h
 split at h
 ·rename_i a n c sep
  split at h
  ·rename_i xs hb hc
   have hb:=Nat.eq_of_beq_eq_true hb
   split at h
   ·rename_i l hl
    have hx:=strsOf_spec _ _ hl
    split at h
    ·rename_i hz
     simp only [Bool.and_eq_true,Nat.ble_eq] at hz
     cases h
     obtain ⟨y,t,rfl,hy,ht⟩:=two_args hA
     cases ht
     obtain ⟨h1,g,off,c',rfl,h2,h3,h4⟩:=cells_see hI hc (by rw [hx];exact flat_strs l) hy
     have hn:n=l.length:=by rw [← h1,hx,List.length_map]
     subst hn
     rw [hb]
     refine (Tryz.strings_Join g off c' l sep w (fun j x hj=>h4 j _ (by rw [hx,List.getElem?_map,hj];rfl)) h2 (by omega) h3 (by omega)).mono ?_
     rintro e w' ⟨rfl,hw⟩
     exact ⟨_,rfl,DoneC.later hI hw (.string _)⟩
    ·cases h
   ·cases h
  ·cases h
 ·cases h
def spU:FuncId→List Value→St→Option (Value × St):=fun f args s=>match args with
 | [.slice (some a) n c,.int .u16 (.ofNat k)]=>match Nat.beq f 93,cellsOf s 1 (.slice (some a) n c) n with
  | true,some xs=>match natsOf xs with
   | some l=>match riseB l && Nat.ble n 900 with
    | true=>some (.slice (some ⟨s.c,0,none⟩) (withU l k).length (BIG+1),new s (.cells (((withU l k).map fun (n:Nat)=>Value.int .u16 (n:Int)).map some) 77 true false))
    | false=>none
   | none=>none
  | _,_=>none
 | _=>none
theorem flat_uc:∀ l:List Nat,l.flatMap uc=l.map fun (n:Nat)=>Value.int .u16 (n:Int)
 | []=>rfl
 | a :: r=>by rw [List.flatMap_cons,List.map_cons,flat_uc r];rfl
theorem spU_ok:CallOk Tryz.prog spU:=by
 intro f args s v s' h ρ M base w0 w args' hI hG hF hA
 unfold spU at h
 split at h
 ·rename_i a n c k
  split at h
  ·rename_i xs hb hc
   have hb:=Nat.eq_of_beq_eq_true hb
   split at h
   ·rename_i l hl
    have hx:=natsOf_spec _ _ hl
    split at h
    ·rename_i hz
     simp only [Bool.and_eq_true,Nat.ble_eq] at hz
     cases h
     obtain ⟨y,t,rfl,hy,ht⟩:=two_args hA
     cases ht
     obtain ⟨h1,g,off,c',rfl,h2,h3,h4⟩:=cells_see hI hc (by rw [hx];exact flat_nats l) hy
     have hn:n=l.length:=by rw [← h1,hx,List.length_map]
     subst hn
     rw [hb]
     have hR:Recs uc 1 w (.slice (some ⟨g,off,none⟩) l.length c') l:=.inr ⟨g,off,c',rfl,h2,by omega,h3,fun i x hi j u hj=>by
      have hj0:j=0:=by
       have:=(List.getElem?_eq_some_iff.1 hj).1
       rw [uc_len] at this;omega
      subst hj0
      have e:u = .int .u16 (x:Int):=by simpa [uc] using hj.symm
      rw [e,Nat.mul_one,Nat.add_zero]
      exact h4 i _ (by rw [hx,List.getElem?_map,hi];rfl)⟩
     refine (with_o _ l k w hR (riseB_spec l hz.1) hz.2).mono ?_
     rintro e w' ⟨v',rfl,ho,hw⟩
     rw [flat_uc] at ho
     obtain ⟨q1,q2⟩:=ho
     rcases q2 with ⟨_,q3⟩ | ⟨G,cap,cur,rfl,q3,q4,q5,q6,q7,q8⟩
     ·exfalso
      have:k ∈ withU l k:=withU_mem.2 (.inl rfl)
      rw [List.length_eq_zero_iff.1 q3] at this
      cases this
     ·refine ⟨_,rfl,DoneC.fresh hI hw q3 q4 ?_ rfl (hF s.c (Nat.le_refl _) (Nat.lt_succ_self _)) (fun ρ' hl hp=>VR.slice (k:=(G,_)) 0 none _ _ cap hp q5 (fun hh=>by unfold BIG at hh;omega) (fun _=>?_))⟩
      ·have hlen:(withU l k).length≤cur.size:=by rw [q7];omega
       refine ⟨fun _=>rfl,by simpa using hlen,fun hh=>by simp at hh,fun _ i _=>by simp,fun i v hv=>?_⟩
       rw [List.getElem?_map] at hv
       cases hi:((withU l k).map fun (n:Nat)=>Value.int .u16 (n:Int))[i]? with
       | none=>rw [hi] at hv;cases hv
       | some x =>
        rw [hi] at hv
        have hxv:x=v:=by simpa using hv
        subst hxv
        refine ⟨x,?_,?_⟩
        ·rw [← q8,List.getElem?_take] at hi
         split at hi
         ·rw [Array.getElem?_toList] at hi;exact hi
         ·cases hi
        ·obtain ⟨z,_,rfl⟩:=List.mem_map.1 (List.mem_of_getElem? hi)
         exact .int _ _
      ·show 0+cap * (BIG+1-BIG)=cur.size
       rw [q7,Nat.add_sub_cancel_left];omega
    ·cases h
   ·cases h
  ·cases h
 ·cases h
def sp:FuncId→List Value→St→Option (Value × St):=fun f args s=>match spS f args s with
 | some r=>some r
 | none=>match spJ f args s with
  | some r=>some r
  | none=>spU f args s
theorem sp_ok:CallOk Tryz.prog sp:=by
 intro f args s v s' h
 unfold sp at h
 split at h
 ·rename_i r hr;cases h;exact spS_ok f args s v s' hr
 ·split at h
  ·rename_i r hr;cases h;exact spJ_ok f args s v s' hr
  ·exact spU_ok f args s v s' h
def tabS:Heap:=(2,.cells (wordsL.map fun s=>some (strV s)) 0 false true) :: (1,.cells (linksL.map fun s=>some (strV s)) 0 false true) :: tab
theorem str_br {ss:List (List UInt8)} {c:Array Value} {e:TypeId} {fz:Nat × Nat} (h:c=(ss.map strV).toArray) (ρ:Ren):BR ρ (.cells (ss.map fun s=>some (strV s)) 0 false true) (.cells c e fz):=by
 subst h
 refine ⟨fun e=>(by cases e),by simp,fun _=>by simp,fun e=>(by cases e),fun i v hv=>?_⟩
 rw [List.getElem?_map] at hv
 cases hi:ss[i]? with
 | none=>rw [hi] at hv;cases hv
 | some z =>
  rw [hi] at hv
  cases hv
  exact ⟨strV z,by simp [hi],.string _⟩
theorem var_str {w:World} {name:String} {ss:List (List UInt8)} {g:Nat} (hg:Tryz.prog.globalNamed name=some g) (h:StrTab Tryz.prog w name ss):∃ o,w.heap[g]?=some o ∧ ∀ ρ,BR ρ (.cells (ss.map fun s=>some (strV s)) 0 false true) o:=by
 unfold StrTab World.var? at h
 rw [hg] at h
 simp only [Option.bind_some] at h
 split at h
 ·rename_i cs e fz ho
  exact ⟨_,ho,str_br (Option.some.inj h)⟩
 ·cases h
theorem tabS_ok {w:World} (h:InS w):Tab tabS w:=by
 intro n b hb
 unfold tabS at hb
 simp only [Ev.get] at hb
 split at hb
 ·rename_i hn
  have:=Nat.eq_of_beq_eq_true hn
  subst this
  cases hb
  exact ⟨by decide,rfl,var_str (by kernel_rfl) h.2.words⟩
 ·split at hb
  ·rename_i hn
   have:=Nat.eq_of_beq_eq_true hn
   subst this
   cases hb
   exact ⟨by decide,rfl,var_str (by kernel_rfl) h.2.links⟩
  ·exact tab_ok h.1 n b hb
theorem awake13_ev (w:World) (hI:InS w):Calls Tryz.prog 50 #[] w fun e w'=>e = .returned (.bool true)∧Below w.heap.size w w':=awake mixed sp_ok 100000 (by kernel_rfl) (tabS_ok hI)
