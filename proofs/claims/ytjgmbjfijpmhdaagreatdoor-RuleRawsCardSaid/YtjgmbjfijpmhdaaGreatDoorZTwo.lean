/- The library's FormatUint at base 10: a number's decimal digits, for every unsigned number of 64 bits. -/
import Derived.Test.YtjgmbjfijpmhdaaGreatDoorChecked
import Derived.Test.YtjgmbjfijpmhdaaGreatDoorZShelf
import Derived.WalkKit
import Derived.BigCall
import Derived.BigGuard
import Derived.Below
import Derived.Lib.ItoaMem
import Derived.Lib.ItoaLen
import Derived.Lib.SmallJoins
import Derived.Lib.ItoaNum
import Derived.Test.YtjgmbjfijpmhdaaGreatDoorZOne
import Derived.LoopTactic
set_option maxRecDepth 100000
set_option maxHeartbeats 3200000
namespace Go.Proofs.YtjgmbjfijpmhdaaGreatDoor
open Go.RowKit Go.Sort Go.Lib
set_option linter.unusedVariables false
set_option linter.unusedSimpArgs false
def Pow (w : World) : Prop := Lib.TabIs Tryz.prog w "internal/strconv.uint64pow10" .u64 Lib.pow10Tab
theorem Pow.stay {w w':World} (h:Pow w) (hs:6<w.heap.size) (hb:Below w.heap.size w w'):Pow w':=by
 unfold Pow Lib.TabIs World.var? at *
 have e : Tryz.prog.globalNamed "internal/strconv.uint64pow10" = some 6 := by kernel_rfl
 rw [e] at h ⊢
 simp only [Option.bind_some] at h ⊢
 rw [← h]
 have:=hb.block 6 hs
 simp only [this]
theorem zeros_row (w:World) (T:TypeId) (nd:Nat) (hs:nd≤24):Holds (fun (b:UInt8)=>Value.int .u8 (b.toNat:Int)) (w.alloc (.cells Lib.zeros24 T)) w.heap.size 0 (Array.replicate nd (0:UInt8)):=fun j hj=>by
 have hj':j<nd:=by simpa using hj
 refine ⟨?_,World.frozen?_alloc_new _ _ _ _⟩
 rw [World.cell?_alloc_new,Lib.zeros24_at _ (by omega),getElem!_pos _ j hj]
 simp
theorem below_grow (w:World) (k:Nat) (os:Array Obj):Below w.heap.size w (grow (w.drewN k) os):=by
 refine ⟨rfl,rfl,rfl,?_,fun j hj=>?_⟩
 ·simp [grow]
 ·simp only [grow]
  rw [Array.getElem?_append_left (by simpa using hj)]
  rfl
theorem below_fmt (w:World) (o:Obj) (dk:Array UInt8) (k:Nat):Below w.heap.size w ((putRow (fun (b:UInt8)=>Value.int .u8 (b.toNat:Int)) (w.alloc o) w.heap.size 0 dk).drewN k):=by
 rw [alloc_eq_grow]
 obtain ⟨os',_,e⟩:=putRow_grow_new (fun (b:UInt8)=>Value.int .u8 (b.toNat:Int)) w #[o] w.heap.size 0 dk (Nat.le_refl _)
 rw [e]
 exact below_grow w k os'
theorem fmt_any (u:Nat) (w:World) (hu64:u<18446744073709551616) (htab:Pow w) :
 Calls Tryz.prog 230 #[.int .u64 u,.int .i64 10] w fun e w'=>e = .returned (.string ⟨(Lib.decDigits u).toArray⟩)∧Below w.heap.size w w':=by
 by_cases hs:u<100
 ·have hw:wrap64 (u:Int)=(u:Int):=by unfold wrap64;omega
  have hs':(u:Int)<100:=by omega
  go_enter Tryz.func230,Tryz.ntmps230
  go_wp2_with (go_at_call 250;refine (Tryz.internal_strconv_small u hs _).mono ?_;rintro e w' ⟨rfl,rfl⟩)
  go_ret
  exact ⟨rfl,Below.refl _ _⟩
 ·have hu1:1≤u:=by omega
  have hs':¬ (u:Int)<100:=by omega
  have hnd20:Lib.nDigits u≤20:=Lib.nDigits_le20 u hu64
  have hal:Tryz.prog.arrayLen 307=24:=by kernel_rfl
  have hsl1:∀ W,(Instr.sliceAt 307 (.pointer (some ⟨w.heap.size,0,none⟩)) none (some (.int .i64 (Lib.nDigits u:Int))) none).run Tryz.prog W = .ok (.slice (some ⟨w.heap.size,0,none⟩) (Lib.nDigits u) 24) W:=fun W=>by
   rw [run_sliceAt_array_h W 307 ⟨w.heap.size,0,none⟩ Tryz.underlying307 .i64 (Lib.nDigits u:Int) (by omega) (by rw [hal];omega)]
   go_simp
  have hH0:=zeros_row w 307 (Lib.nDigits u) (by omega)
  have hfmt:=Tryz.internal_strconv_formatBase10 w.heap.size 0 24 u (Array.replicate (Lib.nDigits u) 0) (w.alloc (.cells Lib.zeros24 307)) hH0 (by rw [Array.size_replicate];exact Lib.lt_pow_nDigits u) hu64 (by rw [Array.size_replicate];omega)
  rw [Array.size_replicate] at hfmt
  have HH0:=hid hH0
  clear hH0 hal
  go_enter Tryz.func230,Tryz.ntmps230
  go_wp2_with (first
   | (go_at_call 251;refine (Tryz.internal_strconv_numDigits u hu1 hu64 _ (Lib.tabIs_alloc htab _)).mono ?_;rintro e w' ⟨rfl,rfl⟩))
  go_at_call 252
  refine hfmt.mono ?_
  rintro e w' ⟨rfl,k,v',dk,rfl,hF⟩
  have hcv:(convert 25 9 (.slice (some ⟨w.heap.size,0,none⟩) (Lib.nDigits u) 24)).run Tryz.prog ((putRow (fun (b:UInt8)=>Value.int .u8 (b.toNat:Int)) (w.alloc (.cells Lib.zeros24 307)) w.heap.size 0 dk).drewN k) = .ok (.string ⟨(Lib.decDigits u).toArray⟩) ((putRow (fun (b:UInt8)=>Value.int .u8 (b.toNat:Int)) (w.alloc (.cells Lib.zeros24 307)) w.heap.size 0 dk).drewN k):=by
   have h:=run_convert_bytes_back (P:=Tryz.prog) ((putRow (fun (b:UInt8)=>Value.int .u8 (b.toNat:Int)) (w.alloc (.cells Lib.zeros24 307)) w.heap.size 0 dk).drewN k) 25 9 5 ⟨w.heap.size,0,none⟩ 24 (Lib.decDigits u) Tryz.underlying25 Tryz.underlying5 Tryz.underlying9 (fun j hj=>by
    rw [Lib.row_is_numeral hF j hj,Lib.add_plain,World.cell?_drewN]
    exact cell?_putRow (fun (b:UInt8)=>Value.int .u8 (b.toNat:Int)) _ w.heap.size 0 _ dk HH0.out (by rw [hF.size,Array.size_replicate]) j (by rw [hF.size];rw [Lib.decDigits_length] at hj;exact hj))
   rw [Lib.decDigits_length] at h
   exact h
  go_wp2
  go_ret
  exact ⟨rfl,below_fmt w _ dk k⟩
theorem fmt_pub (u:Nat) (w:World) (hu64:u<18446744073709551616) (htab:Pow w) :
 Calls Tryz.prog 204 #[.int .u64 u,.int .i64 10] w fun e w'=>e = .returned (.string ⟨(Lib.decDigits u).toArray⟩)∧Below w.heap.size w w':=by
 go_enter Tryz.func204,Tryz.ntmps204
 go_wp2_with (go_at_call 230;refine (fmt_any u _ hu64 htab).mono ?_;rintro e w' ⟨rfl,hb⟩)
 go_ret
 exact ⟨rfl,hb⟩
end Go.Proofs.YtjgmbjfijpmhdaaGreatDoor
namespace Go.Proofs.YtjgmbjfijpmhdaaGreatDoor
open Go.Lib Go.RowKit
set_option linter.unusedVariables false
set_option linter.unusedSimpArgs false
def two (c:Nat):List UInt8:=[UInt8.ofNat (48+c / 10),UInt8.ofNat (48+c % 10)]
def textL (n:Int):List UInt8:=(if n<0 then [45] else []) ++ (Lib.decDigits (n.natAbs / 100) ++ 46 :: two (n.natAbs % 100))
theorem decDigits_ten {u:Nat} (h:¬ u<10):Lib.decDigits u=Lib.decDigits (u / 10) ++ [UInt8.ofNat (48+u % 10)]:=by
 rw [Lib.decDigits];simp [h]
theorem hundred_two (c:Nat) (h:c<100):Lib.decDigits (100+c)=49 :: two c:=by
 rw [decDigits_ten (by omega),decDigits_ten (by omega),Lib.decDigits_one (by omega)]
 have e1:(100+c) / 10 / 10=1:=by omega
 have e2:(100+c) / 10 % 10=c / 10:=by omega
 have e3:(100+c) % 10=c % 10:=by omega
 rw [e1,e2,e3]
 rfl
theorem textL_neg {n:Int} (h:n<0):textL n=45 :: (Lib.decDigits (n.natAbs / 100) ++ 46 :: two (n.natAbs % 100)):=by unfold textL;rw [if_pos h];rfl
theorem textL_pos {n:Int} (h:¬ n<0):textL n=Lib.decDigits (n.natAbs / 100) ++ 46 :: two (n.natAbs % 100):=by unfold textL;rw [if_neg h];rfl
theorem bytes_app (a b:List UInt8):(⟨a.toArray⟩:ByteArray) ++ (⟨b.toArray⟩:ByteArray)=⟨(a ++ b).toArray⟩:=by
 apply ByteArray.ext
 simp
def digs (z:Nat):List UInt8→Nat
 | []=>z
 | b :: l=>digs (if 48≤b.toNat∧b.toNat≤57 then (z * 10+(b.toNat-48)) % 18446744073709551616 else z) l
theorem digs_app (z:Nat) (a b:List UInt8):digs z (a ++ b)=digs (digs z a) b:=by
 induction a generalizing z with
 | nil=>rfl
 | cons x a ih=>simp only [List.cons_append,digs];exact ih _
def guessL (l:List UInt8):Int :=
 let n:=wrap64 (digs 0 l)
 if l.head?=some 45 then wrap64 (-n) else n
end Go.Proofs.YtjgmbjfijpmhdaaGreatDoor
namespace Go.Proofs.YtjgmbjfijpmhdaaGreatDoor
open Go.RowKit Go.Lib
set_option linter.unusedVariables false
set_option linter.unusedSimpArgs false
theorem bytes_tail (b:UInt8) (l:List UInt8):(⟨(b :: l).toArray⟩:ByteArray).extract 1 (⟨(b :: l).toArray⟩:ByteArray).size=⟨l.toArray⟩:=by
 apply ByteArray.ext
 apply Array.ext'
 rw [Lib.extract_data]
 have e:(⟨(b :: l).toArray⟩:ByteArray).size=l.length+1:=by simp [ByteArray.size]
 rw [e]
 simp
theorem cents_slice (c:Nat) (h:c<100) (w:World) :
 (Instr.slice 9 (.string ⟨(Lib.decDigits (100+c)).toArray⟩) (some (.int .i64 1)) none none).run Tryz.prog w = .ok (.string ⟨(two c).toArray⟩) w:=by
 rw [hundred_two c h,run_slice_string_l w 9 _ Tryz.underlying9 .i64 1 (by decide) (by simp [ByteArray.size];omega),← bytes_tail 49 (two c)]
 rfl
theorem fmt_int (x:Int) (u:Nat) (hx:x=u) (w:World) (hu64:u<18446744073709551616) (htab:Pow w) :
 Calls Tryz.prog 204 #[.int .u64 x,.int .i64 10] w fun e w'=>e = .returned (.string ⟨(Lib.decDigits u).toArray⟩)∧Below w.heap.size w w':=by
 subst hx;exact fmt_pub u w hu64 htab
theorem size_int (n:Int) (u:Nat) (hu:n.natAbs=u) (w:World) (hn:(Lit.int .i64 n).wf=true) :
 Calls Tryz.prog 290 #[.int .i64 n] w fun e w'=>e = .returned (.int .u64 u)∧w=w':=by
 subst hu;exact size_any n w hn
theorem text_any (n:Int) (w:World) (hn:(Lit.int .i64 n).wf=true) (htab:Pow w) (hw:6<w.heap.size) :
 Calls Tryz.prog 295 #[.int .i64 n] w fun e w'=>e = .returned (.string ⟨(textL n).toArray⟩)∧Below w.heap.size w w':=by
 have hb:=wf_bd_i64 hn
 have hc:n.natAbs % 100<100:=by omega
 have hp:=@textL_pos n
 have hm:=@textL_neg n
 generalize hu:n.natAbs=u at *
 have hu64:u<18446744073709551616:=by omega
 have hsl:=cents_slice (u % 100) hc
 have c1:=fun (w':World) (h:Pow w')=>fmt_int (100+(u:Int) % 100) (100+u % 100) (by omega) w' (by omega) h
 have c2:=fun (w':World) (h:Pow w')=>fmt_int ((u:Int) / 100) (u / 100) (by omega) w' (by omega) h
 have A1:=bytes_app (Lib.decDigits (u / 100)) [46]
 have A2:=bytes_app (Lib.decDigits (u / 100) ++ [46]) (two (u % 100))
 have L1:(Lib.decDigits (u / 100)).length≤20:=by rw [Lib.decDigits_length];exact Lib.nDigits_le20 _ (by omega)
 have L2:(two (u % 100)).length=2:=rfl
 by_cases h0:n<0
 ·have hm':=hm h0
  clear hp hm
  have A3:(⟨#[45]⟩:ByteArray) ++ ⟨(Lib.decDigits (u / 100) ++ 46 :: two (u % 100)).toArray⟩=⟨(textL n).toArray⟩:=by
   rw [hm'];exact bytes_app [45] _
  go_enter Tryz.func295,Tryz.ntmps295
  go_wp2_with (first | (go_at_call 290;refine (size_int n u hu _ hn).mono ?_;rintro e w1 ⟨rfl,rfl⟩) | (go_at_call 204;(first | (refine (c1 _ htab).mono ?_;rintro e w1 ⟨rfl,hb1⟩;have ht1:=htab.stay hw hb1) | (refine (c2 _ ht1).mono ?_;rintro e w2 ⟨rfl,hb2⟩))))
  go_ret
  exact ⟨by rw [hm'];rfl,hb1.trans (hb2.mono hb1.size)⟩
 ·have hp':=hp h0
  clear hm hp
  go_enter Tryz.func295,Tryz.ntmps295
  go_wp2_with (first | (go_at_call 290;refine (size_int n u hu _ hn).mono ?_;rintro e w1 ⟨rfl,rfl⟩) | (go_at_call 204;(first | (refine (c1 _ htab).mono ?_;rintro e w1 ⟨rfl,hb1⟩;have ht1:=htab.stay hw hb1) | (refine (c2 _ ht1).mono ?_;rintro e w2 ⟨rfl,hb2⟩))))
  go_ret
  exact ⟨by rw [hp'];rfl,hb1.trans (hb2.mono hb1.size)⟩
theorem digs_step (s:ByteArray) (i:Nat) (h:i<s.size):digs 0 (s.data.toList.take (i+1))=digs (digs 0 (s.data.toList.take i)) [s[i]]:=by
 have hl:i<s.data.toList.length:=by simpa using h
 rw [List.take_succ_eq_append_getElem hl,digs_app]
 rfl
theorem digs_in (D:Nat) (b:UInt8) (h:((b.toNat:Int)-48) % 256≤9):IntKind.u64.wrap (IntKind.u64.wrap ((D:Int) * 10)+((b.toNat:Int)-48) % 256)=((digs D [b]:Nat):Int):=by
 have hb:b.toNat<256:=b.toNat_lt
 simp only [digs]
 rw [if_pos (by omega)]
 simp only [IntKind.wrap_u64];omega
theorem digs_out (D:Nat) (b:UInt8) (h:9<((b.toNat:Int)-48) % 256):digs D [b]=D:=by
 have hb:b.toNat<256:=b.toNat_lt
 simp only [digs]
 rw [if_neg (by omega)]
theorem minus_head (l:List UInt8):Lib.hasPrefix l [45]=decide (l.head?=some 45):=by
 cases l with
 | nil=>rfl
 | cons b l =>
  have e:Lib.hasPrefix (b :: l) [45]=(45 == b):=by simp [Lib.hasPrefix,List.isPrefixOf]
  rw [e,List.head?_cons]
  by_cases h:b=45
  ·subst h;rfl
  ·rw [decide_eq_false (by simpa using h)];exact beq_eq_false_iff_ne.2 (fun x=>h x.symm)
theorem guess_any (s:ByteArray) (w:World) (hs:s.size≤9223372036854775807) :
 Calls Tryz.prog 304 #[.string s] w fun e w'=>e = .returned (.int .i64 (guessL s.data.toList))∧w=w':=by
 go_enter Tryz.func304,Tryz.ntmps304
 go_wp2
 go_loop [3,9] (fun a d=>∃ (i:Nat),a = .int .u64 (digs 0 (s.data.toList.take i))∧d = .int .i64 i∧i≤s.size) (fun a d=>s.size-(RowKit.intOf d).toNat)
 case atStart=>exact ⟨0,by simp [digs],rfl,Nat.zero_le _⟩
 case round =>
  obtain ⟨i,rfl,rfl,hi⟩:=hrel
  by_cases hlt:i<s.size
  ·have e1:=digs_step s i hlt
   have e2:=digs_in (digs 0 (s.data.toList.take i)) s[i]
   have e3:=digs_out (digs 0 (s.data.toList.take i)) s[i]
   rw [← e1] at e2 e3
   clear e1
   go_wp2
   ·have:=e2 (by assumption)
    refine ⟨⟨i+1,by first | rfl | rw [this],by go_num,by omega⟩,?_⟩
    simp [RowKit.intOf];omega
   ·have:=e3 (by assumption)
    refine ⟨⟨i+1,by first | rfl | rw [this],by go_num,by omega⟩,?_⟩
    simp [RowKit.intOf];omega
  ·have hn:s.data.toList.take i=s.data.toList:=List.take_of_length_le (by simp;have:s.data.size=s.size:=rfl;omega)
   rw [hn]
   have hi:i=s.size:=by omega
   subst hi
   clear hn hlt
   go_wp2_with (go_at_call 308;refine (Tryz.strings_HasPrefix _ _ _).mono ?_;rintro e w' ⟨rfl,rfl⟩)
   ·have h1:Lib.hasPrefix s.data.toList [45]=true:=by assumption
    rw [minus_head] at h1
    have h2:guessL s.data.toList=wrap64 (-wrap64 (digs 0 s.data.toList)):=by unfold guessL;rw [if_pos (of_decide_eq_true h1)]
    go_ret
    exact ⟨by rw [h2];rfl,rfl⟩
   ·have h1:Lib.hasPrefix s.data.toList [45]=false:=by assumption
    rw [minus_head] at h1
    have h2:guessL s.data.toList=wrap64 (digs 0 s.data.toList):=by unfold guessL;rw [if_neg (of_decide_eq_false h1)]
    go_ret
    exact ⟨by rw [h2];rfl,rfl⟩
theorem guess_wf (l:List UInt8):(Lit.int .i64 (guessL l)).wf=true:=by
 unfold guessL
 simp only []
 split
 ·exact wrap64_wf _
 ·exact wrap64_wf _
theorem parse_yes (s:ByteArray) (n:Int) (w:World) (hs:s.size≤9223372036854775807) (htab:Pow w) (hw:6<w.heap.size) (hg:guessL s.data.toList=n) (h:(⟨(textL n).toArray⟩:ByteArray)=s) :
 Calls Tryz.prog 294 #[.string s] w fun e w'=>e = .returned (.tuple #[.int .i64 n,.bool true])∧Below w.heap.size w w':=by
 have hwf:(Lit.int .i64 n).wf=true:=hg ▸ guess_wf _
 have c1:=guess_any s w hs
 rw [hg] at c1
 have c2:=text_any n w hwf htab hw
 rw [h] at c2
 go_enter Tryz.func294,Tryz.ntmps294
 go_wp2_with (first | (go_at_call 304;refine c1.mono ?_;rintro e w1 ⟨rfl,rfl⟩) | (go_at_call 295;refine c2.mono ?_;rintro e w2 ⟨rfl,hb⟩))
 go_ret2
 exact ⟨rfl,hb⟩
theorem bytes_ne {s t:ByteArray} (h:¬ t=s):(t.toList == s.toList)=false:=by
 refine beq_eq_false_iff_ne.2 (fun e=>h ?_)
 rw [Lib.toList_data,Lib.toList_data] at e
 exact ByteArray.ext (Array.ext' e)
theorem parse_no (s:ByteArray) (n:Int) (w:World) (hs:s.size≤9223372036854775807) (htab:Pow w) (hw:6<w.heap.size) (hg:guessL s.data.toList=n) (h:¬ (⟨(textL n).toArray⟩:ByteArray)=s) :
 Calls Tryz.prog 294 #[.string s] w fun e w'=>e = .returned (.tuple #[.int .i64 0,.bool false])∧Below w.heap.size w w':=by
 have hwf:(Lit.int .i64 n).wf=true:=hg ▸ guess_wf _
 have c1:=guess_any s w hs
 rw [hg] at c1
 have c2:=text_any n w hwf htab hw
 generalize (⟨(textL n).toArray⟩:ByteArray)=t at *
 have hne:=bytes_ne h
 go_enter Tryz.func294,Tryz.ntmps294
 go_wp2_with (first | (go_at_call 304;refine c1.mono ?_;rintro e w1 ⟨rfl,rfl⟩) | (go_at_call 295;refine c2.mono ?_;rintro e w2 ⟨rfl,hb⟩))
 go_ret2
 exact ⟨rfl,hb⟩
