/- Names: which characters may stand in one; contracts of package chart's named and Name, of law 6's name. -/
import Derived.Test.YtjgmbjfijpmhdaaGreatDoorZCall
import Derived.Test.YtjgmbjfijpmhdaaGreatDoorZShelf
import Derived.Laws.RangeAny
import Derived.Shelf.Strings.SlTrimAscii
import Derived.Lib.SlTrimSet
import Derived.Lib.ConvBytes
import Derived.Lib.Bytealg
import Derived.Test.YtjgmbjfijpmhdaaGreatDoorZCkl
import Derived.Deep.DeepCutAuto
import Derived.Test.YtjgmbjfijpmhdaaGreatDoorZShelk
set_option maxRecDepth 100000
set_option maxHeartbeats 2000000
namespace Go.Proofs.YtjgmbjfijpmhdaaGreatDoor
open Go.RowKit Go.Shelf
set_option linter.unusedVariables false
set_option linter.unusedSimpArgs false
def namedB (r:Int):Bool:=(decide (97≤r) && decide (r≤122)) || (decide (65≤r) && decide (r≤90)) || (decide (48≤r) && decide (r≤57)) || r == 32 || r == 46
theorem namedB_sign (b:UInt8):namedB (b.toNat:Int)=signB b:=by
 unfold namedB signB
 have h:∀ n:Nat,((n:Int) == 32)=(n == 32)∧((n:Int) == 46)=(n == 46):=fun n=>by constructor <;> (rw [Bool.eq_iff_iff];simp;omega)
 rw [(h _).1,(h _).2]
 have e:∀ k n:Nat,decide ((k:Int)≤(n:Int))=decide (k≤n):=fun k n=>by simp
 have e1:=e 97 b.toNat
 have e2:=e b.toNat 122
 have e3:=e 65 b.toNat
 have e4:=e b.toNat 90
 have e5:=e 48 b.toNat
 have e6:=e b.toNat 57
 simp only [Int.cast_ofNat_Int] at e1 e2 e3 e4 e5 e6
 rw [e1,e2,e3,e4,e5,e6]
theorem namedB_high {r:Int} (h:128≤r):namedB r=false:=by
 unfold namedB
 have h1:decide (r≤122)=false:=decide_eq_false (by omega)
 have h2:decide (r≤90)=false:=decide_eq_false (by omega)
 have h3:decide (r≤57)=false:=decide_eq_false (by omega)
 have h4:(r == 32)=false:=by simp;omega
 have h5:(r == 46)=false:=by simp;omega
 rw [h1,h2,h3,h4,h5];simp
theorem sign_low {b:UInt8} (h:128≤b.toNat):signB b=false:=by rw [← namedB_sign];exact namedB_high (by omega)
theorem named_c (r:Int) (w:World):Calls Tryz.prog 48 #[.int .i32 r] w fun e w'=>e = .returned (.bool (namedB r))∧w'=w:=by
 obtain ⟨b,hb⟩:∃ b,namedB r=b:=⟨_,rfl⟩
 have HB:=Lib.hid hb
 rw [hb]
 clear hb
 go_enter Tryz.func48,Tryz.ntmps48
 go_wp2
 all_goals
  go_ret
  refine ⟨congrArg (fun b=>Ending.returned (Value.bool b)) ?_,rfl⟩
  rw [← HB.out,Bool.eq_iff_iff]
  unfold namedB
  simp
  try omega
def tabB:List UInt8:=[97,98,99,100,101,102,103,104,105,106,107,108,109,110,111,112,113,114,115,116,117,118,119,120,121,122,65,66,67,68,69,70,71,72,73,74,75,76,77,78,79,80,81,82,83,84,85,86,87,88,89,90,48,49,50,51,52,53,54,55,56,57,32,46]
theorem tab_fin:∀ n:Fin 256,decide (Lib.indexByte tabB (UInt8.ofNat n.val)<0) = !signB (UInt8.ofNat n.val):=by decide +kernel
theorem tab_sign (b:UInt8):decide (Lib.indexByte tabB b<0) = !signB b:=by
 have h:=tab_fin ⟨b.toNat,b.toNat_lt⟩
 simpa using h
theorem trim_same {l:List UInt8} (h0:0<l.length):(Lib.trimS l [32] == l)=(!(l.headD 0 == 32) && !(l.getLastD 0 == 32)):=by
 have hlen:∀ m:List UInt8,(Lib.trimLeftS m [32]).length≤m.length:=fun m=>by
  unfold Lib.trimLeftS;exact (List.dropWhile_sublist _).length_le
 have hc:∀ b:UInt8,([32]:List UInt8).contains b=(b == 32):=fun b=>Lib.contains_one 32 b
 by_cases hz:l.getLastD 0=32
 ·have e:(l.getLastD 0 == 32)=true:=by rw [hz];rfl
  rw [e]
  simp only [Bool.not_true,Bool.and_false]
  rw [beq_eq_false_iff_ne]
  intro h
  have h1:(Lib.trimRightS l [32]).length<l.length:=by
   unfold Lib.trimRightS
   rw [List.length_reverse]
   obtain ⟨x,r,hr⟩:∃ x r,l.reverse=x :: r:=by
    cases hrev:l.reverse with
    | nil=>rw [List.reverse_eq_nil_iff] at hrev;subst hrev;simp at h0
    | cons x r=>exact ⟨x,r,rfl⟩
   have hx:x=32:=by
    have hl:l=r.reverse ++ [x]:=by rw [← List.reverse_reverse l,hr,List.reverse_cons]
    rw [hl] at hz
    simpa using hz
   rw [hr,List.dropWhile_cons_of_pos (by rw [hc,hx];rfl)]
   have h2:=(List.dropWhile_sublist (fun b=>([32]:List UInt8).contains b) (l:=r)).length_le
   have h3:l.length=r.length+1:=by rw [← List.length_reverse,hr,List.length_cons]
   omega
  have h2:=hlen (Lib.trimRightS l [32])
  have h3:=congrArg List.length h
  unfold Lib.trimS at h3
  omega
 ·have hr:Lib.trimRightS l [32]=l:=by
   have:=Lib.trimRightS_take l [32] l.length (Nat.le_refl _) (fun j b hj hb=>by have:=(List.getElem?_eq_some_iff.1 hb).1;omega) (fun b _ hb=>by
    rw [hc]
    rw [List.getLastD_eq_getLast?] at hz
    rw [List.getLast?_eq_getElem?,hb] at hz
    simpa using hz)
   rwa [List.take_length] at this
  have e:(l.getLastD 0 == 32)=false:=by simpa using hz
  rw [e]
  unfold Lib.trimS
  rw [hr]
  cases l with
  | nil=>simp at h0
  | cons x r =>
   by_cases hx:x=32
   ·have e2:((x :: r).headD 0 == 32)=true:=by simp [hx]
    rw [e2]
    simp only [Bool.not_true,Bool.false_and]
    rw [beq_eq_false_iff_ne]
    intro h
    have h3:=congrArg List.length h
    unfold Lib.trimLeftS at h3
    rw [List.dropWhile_cons_of_pos (by rw [hc,hx];rfl)] at h3
    have h2:=(List.dropWhile_sublist (fun b=>([32]:List UInt8).contains b) (l:=r)).length_le
    rw [List.length_cons] at h3
    omega
   ·have e2:((x :: r).headD 0 == 32)=false:=by simpa using hx
    rw [e2]
    unfold Lib.trimLeftS
    rw [List.dropWhile_cons_of_neg (by rw [hc];simpa using hx)]
    simp
theorem all_take {l:List UInt8} {k:Nat} (h:(l.take k).all signB=true) {b:UInt8} (hb:l[k]?=some b) (hs:signB b=true):(l.take (k+1)).all signB=true:=by
 obtain ⟨hk,e⟩:=List.getElem?_eq_some_iff.1 hb
 rw [List.take_succ_eq_append_getElem hk,List.all_append,h,e];simp [hs]
theorem all_bad {l:List UInt8} {k:Nat} {b:UInt8} (hb:l[k]?=some b) (hs:signB b=false):nameB l=false:=by
 have:l.all signB=false:=by
  rw [List.all_eq_false]
  exact ⟨b,List.mem_of_getElem? hb,by simp [hs]⟩
 unfold nameB;rw [this];simp
theorem trim_w (s:ByteArray) (w:World) (hs:s.size≤9223372036854775807) :
 Calls Tryz.prog 101 #[.string s,.string ⟨#[32]⟩] w fun e w'=>e = .returned (.string ⟨(Lib.trimS s.data.toList [32]).toArray⟩)∧Below w.heap.size w w':=by
 have h:=Any.strings_Trim_laid Tryz.trim (by kernel_rfl) s ⟨#[32]⟩ w hs (by decide) (ascii_of_all (by decide))
 change Calls Tryz.prog 101 _ _ (fun e w'=>e = .returned (.string ⟨(Lib.trimS s.data.toList [32]).toArray⟩)∧Below w.heap.size w w') at h
 exact h
theorem bw_below (w:World) (e:TypeId) (s:ByteArray):Below w.heap.size w (Lib.bytesWorld w e s) :=
 ⟨rfl,rfl,rfl,by rw [Lib.bytesWorld_size];omega,fun k hk=>Lib.bytesWorld_at_old w e s k hk⟩
theorem tab_c (b:UInt8) (w:World):Calls Tryz.prog 100 #[.string ⟨#[97,98,99,100,101,102,103,104,105,106,107,108,109,110,111,112,113,114,115,116,117,118,119,120,121,122,65,66,67,68,69,70,71,72,73,74,75,76,77,78,79,80,81,82,83,84,85,86,87,88,89,90,48,49,50,51,52,53,54,55,56,57,32,46]⟩,.int .u8 (b.toNat:Int)] w fun e w'=>e = .returned (.int .i64 (Lib.indexByte tabB b))∧w'=w:=by
 have h:=Tryz.strings_IndexByte ⟨#[97,98,99,100,101,102,103,104,105,106,107,108,109,110,111,112,113,114,115,116,117,118,119,120,121,122,65,66,67,68,69,70,71,72,73,74,75,76,77,78,79,80,81,82,83,84,85,86,87,88,89,90,48,49,50,51,52,53,54,55,56,57,32,46]⟩ (b.toNat:Int) w
 have e:((b.toNat:Int)).toNat.toUInt8=b:=by simp
 rw [e] at h
 exact h
theorem eq_trim (s:ByteArray) (l:List UInt8) (h:s.toList=l):((⟨(Lib.trimS l [32]).toArray⟩:ByteArray).toList == s.toList)=(Lib.trimS l [32] == l):=by
 rw [h,ByteArray.toList_eq]
theorem lname_c2 (s:ByteArray) (w:World) (hs:s.size≤9223372036854775807) :
 Calls Tryz.prog 67 #[.string s] w fun e w'=>e = .returned (.bool (nameB s.toList))∧Below w.heap.size w w':=by
 have hconv:=Lib.run_convert_string_bytes (P:=Tryz.prog) w 9 25 5 s Tryz.underlying9 Tryz.underlying25 Tryz.underlying5
 have HC:=Lib.hid (Lib.bytesWorld_cell w 5 s)
 have HB:=Lib.hid (bw_below w 5 s)
 obtain ⟨l,hl⟩:∃ l,s.data.toList=l:=⟨_,rfl⟩
 have hsl:s.toList=l:=by rw [ByteArray.toList_eq,hl]
 have hn:s.size=l.length:=by show s.data.size=_;rw [← hl];exact Array.length_toList.symm
 have HT:=Lib.hid (fun w=>trim_w s w hs)
 have HI:=Lib.hid (fun (b:UInt8) (w:World)=>tab_c b w)
 have HEQ:=Lib.hid (eq_trim s l hsl)
 rw [hl] at HC HT
 rw [hsl]
 obtain ⟨n,hn'⟩:∃ n,s.size=n:=⟨_,rfl⟩
 have HN:=Lib.hid (show l.length=n by omega)
 obtain ⟨q,hq⟩:∃ q,(Lib.trimS l [32] == l)=q:=⟨_,rfl⟩
 have HQ:=Lib.hid hq
 rw [hq] at HEQ
 obtain ⟨R,hR⟩:∃ R,nameB l=R:=⟨_,rfl⟩
 have HR:=Lib.hid hR
 rw [hR]
 generalize (⟨(Lib.trimS l [32]).toArray⟩:ByteArray)=tr at *
 rw [hn'] at hconv HC hs
 have hsz:=hn'
 clear hl hsl hn hq hR hn'
 have HSZ:=Lib.hid hsz
 clear hsz
 generalize grownCap w n 0 5=cp at *
 generalize Lib.bytesWorld w 5 s=W at *
 go_enter Tryz.func67,Tryz.ntmps67
 go_wp2
 go_loop [8] (fun i=>∃ k:Nat,k≤n∧i = .int .i64 k∧Hid ((l.take k).all signB=true)) (fun i=>n-(intOf i).toNat)
 case atStart=>exact ⟨0,Nat.zero_le _,rfl,Lib.hid rfl⟩
 case round =>
  obtain ⟨k,hk,rfl,HA⟩:=hrel
  by_cases hlt:k<n
  ·have c0:=HC.out k hlt
   obtain ⟨b,hb⟩:∃ b,l[k]?=some b:=⟨l[k]'(by have:=HN.out;omega),List.getElem?_eq_getElem (by have:=HN.out;omega)⟩
   have hgd:l.getD k 0=b:=by simp [List.getD,hb]
   rw [hgd] at c0
   have hz:=tab_sign b
   have KI:=HI.out b W
   have HBB:=Lib.hid hb
   clear hgd hb
   generalize Lib.indexByte tabB b=z at *
   have HKI:=Lib.hid KI
   clear KI
   cases hsb:signB b with
   | true =>
    have HA1:=Lib.hid (all_take HA.out HBB.out hsb)
    rw [hsb] at hz
    have hz1:0≤z:=by have:=of_decide_eq_false hz;omega
    clear hz hsb
    go_wp2_with (go_at_call 100;refine HKI.out.mono ?_;rintro e w1 ⟨rfl,rfl⟩)
    go_round
    case rel=>exact ⟨k+1,by omega,by go_num,HA1⟩
    case measure=>simp [intOf];omega
   | false =>
    have HE:Hid (R=false):=Lib.hid (by rw [← HR.out];exact all_bad HBB.out hsb)
    rw [hsb] at hz
    have hz1:z<0:=of_decide_eq_true hz
    clear hz hsb
    go_wp2_with (go_at_call 100;refine HKI.out.mono ?_;rintro e w1 ⟨rfl,rfl⟩)
    go_ret
    exact ⟨by rw [HE.out];rfl,HB.out⟩
  ·obtain rfl:k=n:=by omega
   have hall:l.all signB=true:=by have:=HA.out;rwa [List.take_of_length_le (by have:=HN.out;omega)] at this
   by_cases h0:k=0
   ·have HE:Hid (R=false):=Lib.hid (by rw [← HR.out];unfold nameB;rw [decide_eq_false (by have:=HN.out;omega)];rfl)
    have hk0:k≤0:=by omega
    have hs2:=HSZ.out
    clear h0
    go_wp2
    go_ret
    exact ⟨by rw [HE.out];rfl,HB.out⟩
   ·have hk1:0<k:=by omega
    by_cases h31:k<31
    ·have HE:Hid (R=q):=Lib.hid (by
      rw [← HR.out,← HQ.out,trim_same (by have:=HN.out;omega)]
      unfold nameB
      rw [hall,decide_eq_true (by have:=HN.out;omega),decide_eq_true (by have:=HN.out;omega)]
      simp)
     have heq:=HEQ.out
     have hs2:=HSZ.out
     go_wp2_with (go_at_call 101;refine (HT.out _).mono ?_;rintro e w1 ⟨rfl,hb1⟩;have HB1:=Lib.hid (HB.out.trans (hb1.mono HB.out.size));clear hb1)
     go_ret
     exact ⟨by rw [HE.out];rfl,HB1.out⟩
    ·have HE:Hid (R=false):=Lib.hid (by rw [← HR.out];unfold nameB;rw [decide_eq_false (show ¬ l.length<31 by have:=HN.out;omega)];simp)
     have hs2:=HSZ.out
     go_wp2
     go_ret
     exact ⟨by rw [HE.out];rfl,HB.out⟩
theorem get_at_l (s:ByteArray) (k:Nat) (h:k<s.size):s.toList[k]?=some (s[k]'h):=by
 rw [ByteArray.toList_eq,List.getElem?_eq_getElem (show k<s.data.toList.length by rw [Array.length_toList];exact h)]
 rfl
theorem is32 (b:UInt8):(b == 32)=((b.toNat:Int) == 32):=by
 rw [Bool.eq_iff_iff]
 simp only [beq_iff_eq]
 constructor
 ·intro h;subst h;rfl
 ·intro h
  have:b.toNat=32:=by omega
  exact UInt8.toNat_inj.1 this
theorem head_at (s:ByteArray) (h0:0<s.size):(s.toList.headD 0 == 32)=(((s[0]'h0).toNat:Int) == 32):=by
 rw [← is32,List.headD_eq_head?_getD,List.head?_eq_getElem?,get_at_l s 0 h0];rfl
theorem size_l (s:ByteArray):s.toList.length=s.size:=by rw [ByteArray.toList_eq];exact Array.length_toList
theorem last_at (s:ByteArray) (h0:s.size-1<s.size):(s.toList.getLastD 0 == 32)=(((s[s.size-1]'h0).toNat:Int) == 32):=by
 rw [← is32,List.getLastD_eq_getLast?,List.getLast?_eq_getElem?,size_l,get_at_l s _ h0];rfl
theorem cname_some (s:ByteArray) (w:World) (h0:0<s.size) (h30:s.size≤30) :
 Calls Tryz.prog 27 #[.string s] w fun e w'=>e = .returned (.bool (nameB s.toList))∧Below w.heap.size w w':=by
 have h1:(1:Int)≤(s.size:Int):=by omega
 have h2:s.size-1<s.size:=by omega
 have hh:=head_at s h0
 have hl:=last_at s h2
 have HLEN:=Lib.hid (size_l s)
 have HAT:=Lib.hid (get_at_l s)
 obtain ⟨R,hR⟩:∃ R,nameB s.toList=R:=⟨_,rfl⟩
 rw [hR]
 cases q0:(((s[0]'h0).toNat:Int) == 32) with
 | true =>
  have HE:Hid (R=false):=Lib.hid (by rw [← hR];unfold nameB;rw [hh,q0];simp)
  clear hh hl hR
  go_enter Tryz.func27,Tryz.ntmps27
  go_wp2
  go_ret
  exact ⟨by rw [HE.out];rfl,Below.refl _ _⟩
 | false =>
  cases q1:(((s[s.size-1]'h2).toNat:Int) == 32) with
  | true =>
   have HE:Hid (R=false):=Lib.hid (by rw [← hR];unfold nameB;rw [hl,q1];simp)
   clear hh hl hR
   go_enter Tryz.func27,Tryz.ntmps27
   go_wp2
   go_ret
   exact ⟨by rw [HE.out];rfl,Below.refl _ _⟩
  | false =>
   have HE:Hid (s.toList.all signB=R):=Lib.hid (by
    rw [← hR];unfold nameB
    rw [hh,hl,q0,q1,decide_eq_true (by rw [HLEN.out];exact h0),decide_eq_true (show s.toList.length<31 by rw [HLEN.out];omega)];simp)
   clear hh hl hR
   generalize hll:s.toList=l at *
   clear hll
   go_enter Tryz.func27,Tryz.ntmps27
   go_wp2
   go_loopw [4] (fun _ wr=>∃ pos:Nat,pos≤s.size∧wr=w.iter s pos∧Hid ((l.take pos).all signB=true)) (fun _ wr=>s.size-wr.iterPos w.heap.size)
   case atStart=>exact ⟨0,Nat.zero_le _,rfl,Lib.hid rfl⟩
   case round =>
    obtain ⟨pos,hpos,rfl,HA⟩:=hrel
    have HB:=fun p=>Lib.hid (show Below w.heap.size w (w.iter s p) from (Below.refl _ _).alloc (Nat.le_refl _) _)
    by_cases hp:pos<s.size
    ·have HBB:=Lib.hid (HAT.out pos hp)
     by_cases ha:(s[pos]'hp).toNat<128
     ·have hnx:∀ ty,(Instr.next (.pointer (some ⟨w.heap.size,0,none⟩)) true ty).run Tryz.prog (w.iter s pos)=_:=fun ty=>run_next_ascii w s pos ty hp ha
      have K:=Lib.hid (fun w=>named_c (((s[pos]'hp).toNat:Nat):Int) w)
      rw [namedB_sign] at K
      generalize s[pos]'hp=b at *
      cases hs:signB b with
      | true =>
       rw [hs] at K
       have HA1:=Lib.hid (all_take HA.out HBB.out hs)
       clear hs
       go_wp2_with (go_at_call 48;refine (K.out _).mono ?_;rintro e w1 ⟨rfl,rfl⟩)
       go_roundw
       case rel=>exact ⟨pos+1,by omega,rfl,HA1⟩
       case measure=>simp;omega
      | false =>
       rw [hs] at K
       have HF:Hid (R=false):=Lib.hid (by rw [← HE.out,List.all_eq_false];exact ⟨b,List.mem_of_getElem? HBB.out,by simp [hs]⟩)
       clear hs
       go_wp2_with (go_at_call 48;refine (K.out _).mono ?_;rintro e w1 ⟨rfl,rfl⟩)
       go_ret
       exact ⟨by rw [HF.out];rfl,(HB _).out⟩
     ·have hdec:=decode_high s pos hp (by omega)
      have hsb:=sign_low (b:=s[pos]'hp) (by omega)
      have hnx:∀ ty,(Instr.next (.pointer (some ⟨w.heap.size,0,none⟩)) true ty).run Tryz.prog (w.iter s pos)=_:=fun ty=>run_next_any w s pos ty hp
      have K:=Lib.hid (fun w=>named_c ((Utf8.decode s pos).1:Int) w)
      rw [namedB_high (by omega)] at K
      have HF:Hid (R=false):=Lib.hid (by rw [← HE.out,List.all_eq_false];exact ⟨_,List.mem_of_getElem? HBB.out,by simp [hsb]⟩)
      clear hdec hsb
      go_wp2_with (go_at_call 48;refine (K.out _).mono ?_;rintro e w1 ⟨rfl,rfl⟩)
      go_ret
      exact ⟨by rw [HF.out];rfl,(HB _).out⟩
    ·have hnx:∀ ty,(Instr.next (.pointer (some ⟨w.heap.size,0,none⟩)) true ty).run Tryz.prog (w.iter s pos)=_:=fun ty=>run_next_end w s pos ty hp
     have HF:Hid (R=true):=Lib.hid (by have:=HA.out;rwa [List.take_of_length_le (by rw [HLEN.out];omega),HE.out] at this)
     go_wp2
     go_ret
     exact ⟨by rw [HF.out];rfl,(HB _).out⟩
theorem cname_none (s:ByteArray) (w:World) (h:s.size<1∨30<s.size) :
 Calls Tryz.prog 27 #[.string s] w fun e w'=>e = .returned (.bool (nameB s.toList))∧Below w.heap.size w w':=by
 have hlen:=size_l s
 have hE:nameB s.toList=false:=by
  unfold nameB
  rcases h with h | h
  ·rw [decide_eq_false (by omega)];rfl
  ·rw [decide_eq_false (show ¬ s.toList.length<31 by omega)];simp
 rw [hE]
 clear hE hlen
 by_cases h1:s.size<1
 ·have e1:(s.size:Int)<1:=by omega
  go_enter Tryz.func27,Tryz.ntmps27
  go_wp2
  go_ret
  exact ⟨rfl,Below.refl _ _⟩
 ·have e1:¬ (s.size:Int)<1:=by omega
  have e2:30<(s.size:Int):=by omega
  go_enter Tryz.func27,Tryz.ntmps27
  go_wp2
  go_ret
  exact ⟨rfl,Below.refl _ _⟩
theorem cname_c (s:ByteArray) (w:World):Calls Tryz.prog 27 #[.string s] w fun e w'=>e = .returned (.bool (nameB s.toList))∧Below w.heap.size w w':=by
 by_cases h:s.size<1∨30<s.size
 ·exact cname_none s w h
 ·exact cname_some s w (by omega) (by omega)
end Go.Proofs.YtjgmbjfijpmhdaaGreatDoor
namespace Go.Proofs.YtjgmbjfijpmhdaaGreatDoor
open Go.RowKit
set_option linter.unusedVariables false
set_option linter.unusedSimpArgs false
theorem acheck_c (a:Ac) (h:Nat) (w:World):Calls Tryz.prog 73 #[cv a,.int .u32 (h:Int)] w fun e w'=>e = .returned (.int .i64 (one1 h a))∧Below w.heap.size w w':=by
 have hA:=(Below.refl w.heap.size w).alloc (Nat.le_refl _) (.cells #[.int .u32 (a.code:Int),.string a.name,.int .u8 (a.kind:Int),.int .u32 (a.par:Int)] 82)
 have HA:=Lib.hid hA
 have HX:=Lib.hid (Box4.new w (.int .u32 (a.code:Int)) (.string a.name) (.int .u8 (a.kind:Int)) (.int .u32 (a.par:Int)) 82)
 have K1:=Lib.hid (fun w=>code_c a.code w)
 have K2:=Lib.hid (fun w=>cname_c a.name w)
 obtain ⟨cb,hcb⟩:∃ cb,(decide (0<a.code) && decide (a.code≤999999))=cb:=⟨_,rfl⟩
 obtain ⟨nb,hnb⟩:∃ nb,nameB a.name.toList=nb:=⟨_,rfl⟩
 rw [hcb] at K1
 rw [hnb] at K2
 have H1:Hid (one1 h a=if cb=false then 5 else if a.code≤h then 6 else if nb=false then 10 else if 5≤a.kind then 9 else 0):=Lib.hid (by
  unfold one1
  rw [← hnb]
  by_cases h1:a.code=0∨999999<a.code
  ·rw [if_pos h1,if_pos (show cb=false by rw [← hcb];simp;omega)]
  ·rw [if_neg h1,if_neg (show ¬ cb=false by rw [← hcb];simp;omega)])
 clear hA hcb hnb
 generalize one1 h a=R at *
 unfold cv
 obtain ⟨g0,g1,g2,g3,_,_,_,_,_⟩:=HX.out
 cases cb
 ·obtain rfl:R=5:=by simpa using H1.out
  go_enter Tryz.func73,Tryz.ntmps73
  go_wp2_with (go_at_call 90;refine (K1.out _).mono ?_;rintro e w1 ⟨rfl,rfl⟩)
  go_ret
  exact ⟨rfl,HA.out⟩
 ·by_cases h2:a.code≤h
  ·obtain rfl:R=6:=by have:=H1.out;simpa [h2] using this
   have e2:(a.code:Int)≤(h:Int):=by omega
   go_enter Tryz.func73,Tryz.ntmps73
   go_wp2_with (go_at_call 90;refine (K1.out _).mono ?_;rintro e w1 ⟨rfl,rfl⟩)
   go_ret
   exact ⟨rfl,HA.out⟩
  ·have e2:¬ (a.code:Int)≤(h:Int):=by omega
   cases nb
   ·obtain rfl:R=10:=by have:=H1.out;simpa [h2] using this
    go_enter Tryz.func73,Tryz.ntmps73
    go_wp2_with (first
     | (go_at_call 90;refine (K1.out _).mono ?_;rintro e w1 ⟨rfl,rfl⟩)
     | (go_at_call 27;refine (K2.out _).mono ?_;rintro e w1 ⟨rfl,hb⟩;have HB:=Lib.hid (HA.out.trans (hb.mono HA.out.size));obtain ⟨u0,u1,u2,u3,_,_,_,_,_⟩:=HX.out.stay hb;clear hb))
    go_ret
    exact ⟨rfl,HB.out⟩
   ·by_cases h3:5≤a.kind
    ·obtain rfl:R=9:=by have:=H1.out;simpa [h2,h3] using this
     have e3:(5:Int)≤(a.kind:Int):=by omega
     go_enter Tryz.func73,Tryz.ntmps73
     go_wp2_with (first
      | (go_at_call 90;refine (K1.out _).mono ?_;rintro e w1 ⟨rfl,rfl⟩)
      | (go_at_call 27;refine (K2.out _).mono ?_;rintro e w1 ⟨rfl,hb⟩;have HB:=Lib.hid (HA.out.trans (hb.mono HA.out.size));obtain ⟨u0,u1,u2,u3,_,_,_,_,_⟩:=HX.out.stay hb;clear hb))
     go_ret
     exact ⟨rfl,HB.out⟩
    ·obtain rfl:R=0:=by have:=H1.out;simpa [h2,h3] using this
     have e3:¬ (5:Int)≤(a.kind:Int):=by omega
     go_enter Tryz.func73,Tryz.ntmps73
     go_wp2_with (first
      | (go_at_call 90;refine (K1.out _).mono ?_;rintro e w1 ⟨rfl,rfl⟩)
      | (go_at_call 27;refine (K2.out _).mono ?_;rintro e w1 ⟨rfl,hb⟩;have HB:=Lib.hid (HA.out.trans (hb.mono HA.out.size));obtain ⟨u0,u1,u2,u3,_,_,_,_,_⟩:=HX.out.stay hb;clear hb))
     go_ret
     exact ⟨rfl,HB.out⟩
theorem cparent_c (v:Value) (c:List Ac) (a:Ac) (w:World) (hR:Recs cc 4 w v c) (hr:RiseA c) (hl:c.length≤1000) (hp:∀ a ∈ c,0<a.code) :
 Calls Tryz.prog 74 #[v,cv a] w fun e w'=>e = .returned (.int .i64 (one2 c a))∧Below w.heap.size w w':=by
 have hA:=(Below.refl w.heap.size w).alloc (Nat.le_refl _) (.cells #[.int .u32 (a.code:Int),.string a.name,.int .u8 (a.kind:Int),.int .u32 (a.par:Int)] 82)
 have HA:=Lib.hid hA
 have HX:=Lib.hid (Box4.new w (.int .u32 (a.code:Int)) (.string a.name) (.int .u8 (a.kind:Int)) (.int .u32 (a.par:Int)) 82)
 have HR:=Lib.hid (hR.stay hA)
 have K2:=Lib.hid (fun (w':World) (h:Recs cc 4 w' v c)=>way_c v c a.code w' h hr hl hp)
 obtain ⟨r0,cap0,hv,_⟩:=hR.form
 obtain ⟨g0,g1,g2,g3,_,_,_,_,_⟩:=HX.out
 by_cases h0:a.par=0
 ·have H1:Hid (one2 c a=0):=Lib.hid (by unfold one2;rw [if_pos h0])
  have e0:((a.par:Int) == 0)=true:=by simp [h0]
  rw [H1.out]
  clear hR hA h0 hv
  unfold cv
  go_enter Tryz.func74,Tryz.ntmps74
  go_wp2
  go_ret
  exact ⟨rfl,HA.out⟩
 ·have e0:((a.par:Int) == 0)=false:=by simp;omega
  cases hg:getA c a.par with
  | none =>
   have H1:Hid (one2 c a=8):=Lib.hid (by unfold one2;rw [if_neg h0,hg])
   have K1:=Lib.hid (fun (w':World) (h:Recs cc 4 w' v c)=>get_none v c a.par w' h hr hl hg)
   rw [H1.out]
   clear hR hA h0 hv hg
   unfold cv
   go_enter Tryz.func74,Tryz.ntmps74
   go_wp2_with (go_at_call 85;refine (K1.out _ HR.out).mono ?_;rintro e w1 ⟨rfl,hb⟩;have HB:=Lib.hid (HA.out.trans (hb.mono HA.out.size));clear hb)
   go_ret
   exact ⟨rfl,HB.out.alloc HB.out.size _⟩
  | some p =>
   have K1:=Lib.hid (fun (w':World) (h:Recs cc 4 w' v c)=>get_some v c a.par p w' h hr hl hg)
   by_cases hk:p.kind=a.kind
   ·have ek:((p.kind:Int) != (a.kind:Int))=false:=by simp;omega
    have hlen:=wayF_len 13 c a.code
    have H1:Hid (one2 c a=if 12<(wayF 13 c a.code).length then 11 else 0):=Lib.hid (by unfold one2;rw [if_neg h0,hg];simp only;rw [if_neg (by simpa using hk)])
    have HL:=Lib.hid (show (wayF 13 c a.code).length≤1000 by omega)
    by_cases h12:12<(wayF 13 c a.code).length
    ·rw [H1.out,if_pos h12]
     have e12:(12:Int)<((wayF 13 c a.code).length:Int):=by omega
     clear hR hA h0 hv hg hk H1 hlen
     generalize wayF 13 c a.code=ws at *
     unfold cv at K1 ⊢
     go_enter Tryz.func74,Tryz.ntmps74
     go_wp2_with (first
      | (go_at_call 104;refine (K2.out _ HR2.out).mono ?_;rintro e w2 ⟨v2,rfl,h2,hb⟩;have HB2:=Lib.hid (HB1.out.trans (hb.mono HB1.out.size));obtain ⟨r2,cap2,rfl,_⟩:=h2.form;clear hb h2)
      | (go_at_call 85;refine (K1.out _ HR.out).mono ?_;rintro e w1 ⟨rfl,hb⟩;have HBa:=HA.out.trans (hb.mono HA.out.size);have HB1:=Lib.hid (HBa.alloc HBa.size (.cells #[.int .u32 (p.code:Int),.string p.name,.int .u8 (p.kind:Int),.int .u32 (p.par:Int)] 82));have hq:=(Below.refl w1.heap.size w1).alloc (Nat.le_refl _) (.cells #[.int .u32 (p.code:Int),.string p.name,.int .u8 (p.kind:Int),.int .u32 (p.par:Int)] 82);have HR2:=Lib.hid ((HR.out.stay hb).stay hq);obtain ⟨u0,u1,u2,u3,_,_,_,_,_⟩:=HX.out.stay hb;clear hb HBa hq))
     go_ret
     exact ⟨rfl,HB2.out⟩
    ·rw [H1.out,if_neg h12]
     have e12:¬ (12:Int)<((wayF 13 c a.code).length:Int):=by omega
     clear hR hA h0 hv hg hk H1 hlen
     generalize wayF 13 c a.code=ws at *
     unfold cv at K1 ⊢
     go_enter Tryz.func74,Tryz.ntmps74
     go_wp2_with (first
      | (go_at_call 104;refine (K2.out _ HR2.out).mono ?_;rintro e w2 ⟨v2,rfl,h2,hb⟩;have HB2:=Lib.hid (HB1.out.trans (hb.mono HB1.out.size));obtain ⟨r2,cap2,rfl,_⟩:=h2.form;clear hb h2)
      | (go_at_call 85;refine (K1.out _ HR.out).mono ?_;rintro e w1 ⟨rfl,hb⟩;have HBa:=HA.out.trans (hb.mono HA.out.size);have HB1:=Lib.hid (HBa.alloc HBa.size (.cells #[.int .u32 (p.code:Int),.string p.name,.int .u8 (p.kind:Int),.int .u32 (p.par:Int)] 82));have hq:=(Below.refl w1.heap.size w1).alloc (Nat.le_refl _) (.cells #[.int .u32 (p.code:Int),.string p.name,.int .u8 (p.kind:Int),.int .u32 (p.par:Int)] 82);have HR2:=Lib.hid ((HR.out.stay hb).stay hq);obtain ⟨u0,u1,u2,u3,_,_,_,_,_⟩:=HX.out.stay hb;clear hb HBa hq))
     go_ret
     exact ⟨rfl,HB2.out⟩
   ·have ek:((p.kind:Int) != (a.kind:Int))=true:=by simp;omega
    have H1:Hid (one2 c a=9):=Lib.hid (by unfold one2;rw [if_neg h0,hg];simp only;rw [if_pos (by simpa using hk)])
    rw [H1.out]
    clear hR hA h0 hv hg hk
    unfold cv at K1 ⊢
    go_enter Tryz.func74,Tryz.ntmps74
    go_wp2_with (go_at_call 85;refine (K1.out _ HR.out).mono ?_;rintro e w1 ⟨rfl,hb⟩;have HB:=Lib.hid (HA.out.trans (hb.mono HA.out.size));obtain ⟨u0,u1,u2,u3,_,_,_,_,_⟩:=HX.out.stay hb;clear hb)
    go_ret
    exact ⟨rfl,HB.out.alloc HB.out.size _⟩
theorem chk1_at {c:List Ac} {k h:Nat} {a:Ac} (ha:c[k]?=some a):chk1 h (c.drop k)=if one1 h a≠0 then one1 h a else chk1 a.code (c.drop (k+1)):=by
 obtain ⟨hk,e⟩:=List.getElem?_eq_some_iff.1 ha
 rw [List.drop_eq_getElem_cons hk,e]
 rfl
theorem chk2_at {c d:List Ac} {k:Nat} {a:Ac} (ha:c[k]?=some a):chk2 d (c.drop k)=if one2 d a≠0 then one2 d a else chk2 d (c.drop (k+1)):=by
 obtain ⟨hk,e⟩:=List.getElem?_eq_some_iff.1 ha
 rw [List.drop_eq_getElem_cons hk,e]
 rfl
theorem chk1_end {c:List Ac} {k h:Nat} (hk:c.length≤k):chk1 h (c.drop k)=0:=by rw [List.drop_of_length_le hk];rfl
theorem chk2_end {c d:List Ac} {k:Nat} (hk:c.length≤k):chk2 d (c.drop k)=0:=by rw [List.drop_of_length_le hk];rfl
theorem chkA_big {c:List Ac} (h:200<c.length):chkA c=2:=by unfold chkA;rw [if_pos h]
theorem chkA_one {c:List Ac} (h:¬ 200<c.length) (h1:chk1 0 c≠0):chkA c=chk1 0 c:=by unfold chkA;rw [if_neg h,if_pos h1]
theorem chkA_two {c:List Ac} (h:¬ 200<c.length) (h1:chk1 0 c=0):chkA c=chk2 c c:=by unfold chkA;rw [if_neg h,if_neg (by simpa using h1)]
theorem checkA_c (v:Value) (c:List Ac) (w:World) (hR:Recs cc 4 w v c) :
 Calls Tryz.prog 44 #[v] w fun e w'=>e = .returned (.int .i64 (chkA c))∧Below w.heap.size w w':=by
 obtain ⟨r0,cap0,hv,hm⟩:=hR.form
 have HR:=Lib.hid hR
 obtain ⟨L,hL⟩:∃ L,c.length=L:=⟨_,rfl⟩
 have HL:=Lib.hid hL
 rw [hL] at hv hm
 have HC0:Hid (chk1 0 c=chk1 0 (c.drop 0)):=Lib.hid rfl
 have HD0:Hid (chk2 c c=chk2 c (c.drop 0)):=Lib.hid rfl
 have HZ:=Lib.hid (And.intro (@chkA_big c) (And.intro (@chkA_one c) (@chkA_two c)))
 rw [hL] at HZ
 obtain ⟨R,hRR⟩:∃ R,chkA c=R:=⟨_,rfl⟩
 have HRR:=Lib.hid hRR
 rw [hRR]
 subst hv
 clear hR hL hRR
 by_cases h200:200<L
 ·obtain rfl:R=2:=by rw [← HRR.out];exact HZ.out.1 h200
  have e1:(200:Int)<(L:Int):=by omega
  go_enter Tryz.func44,Tryz.ntmps44
  go_wp2
  go_ret
  exact ⟨rfl,Below.refl _ _⟩
 ·have e1:¬ (200:Int)<(L:Int):=by omega
  go_enter Tryz.func44,Tryz.ntmps44
  go_wp2
  go_loopw [3,15] (fun s i wr=>∃ (k h:Nat),k≤L∧s = .int .u32 (h:Int)∧i = .int .i64 k∧h<4294967296∧Hid (chk1 0 c=chk1 h (c.drop k))∧Below w.heap.size w wr) (fun _ i _=>L-(intOf i).toNat)
  case atStart=>exact ⟨0,0,Nat.zero_le _,rfl,rfl,by omega,HC0,Below.refl _ _⟩
  case round =>
   obtain ⟨k,h,hk,rfl,rfl,hh,HK,hb⟩:=hrel
   rename World=>wr
   by_cases hlt:k<L
   ·obtain ⟨a,ha⟩:∃ a,c[k]?=some a:=⟨c[k]'(by have:=HL.out;omega),List.getElem?_eq_getElem (by have:=HL.out;omega)⟩
    have HS:=Lib.hid (HK.out.trans (chk1_at ha))
    have K1:=Lib.hid (fun (w:World)=>acheck_c a h w)
    obtain ⟨g,off,hcv,hg,hcy⟩:=(HR.out.stay hb).at ha
    subst hcv
    obtain ⟨c0,c1,c2,c3⟩:=Recs.cells4 (c:=c) hcy
    have hbs:=hb.size
    clear ha hcy HK
    generalize one1 h a=o at *
    unfold cv at K1
    go_upto_region 7 with fail
    have HX:=Lib.hid (Box4.new wr (.int .u32 (a.code:Int)) (.string a.name) (.int .u8 (a.kind:Int)) (.int .u32 (a.par:Int)) 82)
    have HB:=Lib.hid (hb.alloc hbs (.cells #[.int .u32 (a.code:Int),.string a.name,.int .u8 (a.kind:Int),.int .u32 (a.par:Int)] 82))
    clear c0 c1 c2 c3 hb hbs
    generalize wr.alloc (.cells #[.int .u32 (a.code:Int),.string a.name,.int .u8 (a.kind:Int),.int .u32 (a.par:Int)] 82)=wx at *
    generalize wr.heap.size=Y at *
    obtain ⟨z0,z1,z2,z3,_,_,_,_,_⟩:=HX.out
    by_cases ho:o=0
    ·have e2:(o != 0)=false:=by simp [ho]
     have HS1:Hid (chk1 0 c=chk1 a.code (c.drop (k+1))):=Lib.hid (by have:=HS.out;rwa [if_neg (by simpa using ho)] at this)
     have hac:=a.hc
     clear ho HS
     go_wp2_with (go_at_call 73;refine (K1.out _).mono ?_;rintro e w1 ⟨rfl,hb1⟩;have HB1:=Lib.hid (HB.out.trans (hb1.mono HB.out.size));obtain ⟨u0,u1,u2,u3,_,_,_,_,_⟩:=HX.out.stay hb1;clear hb1)
     go_roundw
     case rel=>exact ⟨k+1,a.code,by omega,rfl,by go_num,hac,HS1,HB1.out⟩
     case measure=>simp [intOf];omega
    ·have e2:(o != 0)=true:=by simp [ho]
     obtain rfl:o=R:=by
      have h1:=HS.out
      rw [if_pos (by simpa using ho)] at h1
      rw [← HRR.out,HZ.out.2.1 h200 (by rw [h1];exact ho),h1]
     clear ho HS
     go_wp2_with (go_at_call 73;refine (K1.out _).mono ?_;rintro e w1 ⟨rfl,hb1⟩;have HB1:=Lib.hid (HB.out.trans (hb1.mono HB.out.size));obtain ⟨u0,u1,u2,u3,_,_,_,_,_⟩:=HX.out.stay hb1;clear hb1)
     go_ret
     exact ⟨rfl,HB1.out⟩
   ·obtain rfl:k=L:=by omega
    have h10:chk1 0 c=0:=by rw [HK.out];exact chk1_end (by have:=HL.out;omega)
    obtain ⟨hr,hall⟩:=chk1_rise h10
    have H2:=Lib.hid (HZ.out.2.2 h200 h10)
    have K2:=Lib.hid (fun (a:Ac) (w':World) (h:Recs cc 4 w' (.slice r0 k cap0) c)=>cparent_c (.slice r0 k cap0) c a w' h hr (by have:=HL.out;omega) (fun a ha=>(hall a ha).1))
    have HBO:=Lib.hid hb
    rename World=>wo
    clear hb hr hall h10 HK HZ HC0
    go_wp2
    go_loopw [30] (fun i wr=>∃ (j:Nat),j≤k∧i = .int .i64 j∧Hid (chk2 c c=chk2 c (c.drop j))∧Below w.heap.size w wr) (fun i _=>k-(intOf i).toNat)
    case atStart=>exact ⟨0,Nat.zero_le _,rfl,HD0,HBO.out⟩
    case round =>
     obtain ⟨j,hj,rfl,HK,hb⟩:=hrel
     rename World=>wr
     by_cases hlt:j<k
     ·obtain ⟨a,ha⟩:∃ a,c[j]?=some a:=⟨c[j]'(by have:=HL.out;omega),List.getElem?_eq_getElem (by have:=HL.out;omega)⟩
      have HS:=Lib.hid (HK.out.trans (chk2_at ha))
      have hrw:=HR.out.stay hb
      have HRW:=Lib.hid (hrw.stay ((Below.refl wr.heap.size wr).alloc (Nat.le_refl _) (.cells #[.int .u32 (a.code:Int),.string a.name,.int .u8 (a.kind:Int),.int .u32 (a.par:Int)] 82)))
      have K1:=Lib.hid (K2.out a)
      obtain ⟨g,off,hcv,hg,hcy⟩:=hrw.at ha
      subst hcv
      obtain ⟨c0,c1,c2,c3⟩:=Recs.cells4 (c:=c) hcy
      have hbs:=hb.size
      clear ha hcy HK hrw K2
      generalize one2 c a=o at *
      unfold cv at K1
      go_upto_region 15 with fail
      have HX:=Lib.hid (Box4.new wr (.int .u32 (a.code:Int)) (.string a.name) (.int .u8 (a.kind:Int)) (.int .u32 (a.par:Int)) 82)
      have HB:=Lib.hid (hb.alloc hbs (.cells #[.int .u32 (a.code:Int),.string a.name,.int .u8 (a.kind:Int),.int .u32 (a.par:Int)] 82))
      clear c0 c1 c2 c3 hb hbs
      generalize wr.alloc (.cells #[.int .u32 (a.code:Int),.string a.name,.int .u8 (a.kind:Int),.int .u32 (a.par:Int)] 82)=wx at *
      generalize wr.heap.size=Y at *
      obtain ⟨z0,z1,z2,z3,_,_,_,_,_⟩:=HX.out
      by_cases ho:o=0
      ·have e2:(o != 0)=false:=by simp [ho]
       have HS1:Hid (chk2 c c=chk2 c (c.drop (j+1))):=Lib.hid (by have:=HS.out;rwa [if_neg (by simpa using ho)] at this)
       clear ho HS
       go_wp2_with (go_at_call 74;refine (K1.out _ HRW.out).mono ?_;rintro e w1 ⟨rfl,hb1⟩;have HB1:=Lib.hid (HB.out.trans (hb1.mono HB.out.size));clear hb1)
       go_roundw
       case rel=>exact ⟨j+1,by omega,by go_num,HS1,HB1.out⟩
       case measure=>simp [intOf];omega
      ·have e2:(o != 0)=true:=by simp [ho]
       obtain rfl:o=R:=by
        have h1:=HS.out
        rw [if_pos (by simpa using ho)] at h1
        rw [← HRR.out,H2.out,h1]
       clear ho HS
       go_wp2_with (go_at_call 74;refine (K1.out _ HRW.out).mono ?_;rintro e w1 ⟨rfl,hb1⟩;have HB1:=Lib.hid (HB.out.trans (hb1.mono HB.out.size));clear hb1)
       go_ret
       exact ⟨rfl,HB1.out⟩
     ·obtain rfl:j=k:=by omega
      have HB:=Lib.hid hb
      obtain rfl:R=0:=by rw [← HRR.out,H2.out,HK.out];exact chk2_end (by have:=HL.out;omega)
      clear hb HK
      go_wp2
      go_ret
      exact ⟨rfl,HB.out⟩
