/- Charts that may be, in the plain: an account by another code, another name, in none, and back. -/
import Derived.Test.YtjgmbjfijpmhdaaGreatDoorZQlall
import Derived.Test.YtjgmbjfijpmhdaaGreatDoorZUall
import Derived.Test.YtjgmbjfijpmhdaaGreatDoorZQrall
import Derived.Test.YtjgmbjfijpmhdaaGreatDoorZNef
import Derived.LoopTactic
import Derived.OwnWalk
import Derived.Deep.RegionWith
import Derived.Deep.DeepCutAuto
import Derived.BigRegion
import Derived.Test.YtjgmbjfijpmhdaaGreatDoorZHc
import Derived.Deep.CutBlock
set_option maxRecDepth 100000
set_option maxHeartbeats 8000000
namespace Go.Proofs.YtjgmbjfijpmhdaaGreatDoor
open Go.RowKit
set_option linter.unusedVariables false
set_option linter.unusedSimpArgs false
def LiesA (c:List Ac) (a:Ac):Prop:=a.par=0 ∨ ∃ p,getA c a.par=some p∧p.kind=a.kind∧(wayF 13 c a.code).length≤12
structure OkA (c:List Ac):Prop where
 len:c.length≤200
 rise:RiseA c
 one:∀ a ∈ c,(0<a.code∧a.code≤999999)∧nameB a.name.toList=true∧a.kind<5
 lies:∀ a ∈ c,LiesA c a
theorem LiesA.zero {c:List Ac} {a:Ac} (h:LiesA c a):one2 c a=0:=by
 unfold one2
 rcases h with h | ⟨p,h1,h2,h3⟩
 ·rw [if_pos h]
 ·split
  ·rfl
  ·rw [h1]
   simp only [h2,ne_eq,not_true_eq_false,if_false]
   rw [if_neg (by omega)]
theorem one2_lies {c:List Ac} {a:Ac} (h:one2 c a=0):LiesA c a:=by
 unfold one2 at h
 split at h
 ·rename_i h0;exact .inl h0
 ·split at h
  ·cases h
  ·rename_i p hp
   split at h
   ·cases h
   ·rename_i hk
    split at h
    ·cases h
    ·exact .inr ⟨p,hp,by simpa using hk,by omega⟩
theorem chk2_out {c:List Ac}:∀ {l:List Ac},chk2 c l=0 → ∀ a ∈ l,one2 c a=0
 | [],_,a,ha=>by cases ha
 | b :: r,h,a,ha=>by
  unfold chk2 at h
  split at h
  ·contradiction
  ·rename_i h1
   rcases List.mem_cons.1 ha with rfl | ha
   ·simpa using h1
   ·exact chk2_out h a ha
theorem OkA.chk {c:List Ac} (h:OkA c):chkA c=0:=by
 unfold chkA
 rw [if_neg (by have:=h.len;omega),chk1_zero h.rise (fun a ha=>⟨(h.one a ha).1.1,one1_zero.2 ⟨(h.one a ha).1,(h.one a ha).1.1,(h.one a ha).2⟩⟩),if_neg (by simp)]
 exact chk2_zero fun a ha=>(h.lies a ha).zero
theorem OkA.of {c:List Ac} (h1:c.length≤200) (h2:RiseA c) (h3:∀ a ∈ c,0<a.code∧a.code≤999999∧nameB a.name.toList=true∧a.kind<5) (h4:chk2 c c=0):OkA c :=
 ⟨h1,h2,fun a ha=>⟨⟨(h3 a ha).1,(h3 a ha).2.1⟩,(h3 a ha).2.2⟩,fun a ha=>one2_lies (chk2_out h4 a ha)⟩
theorem outA_mem {c:List Ac} {n:Nat} {b:Ac} (h:b ∈ outA c n):b ∈ c∧b.code≠n:=⟨(List.mem_filter.1 h).1,outA_code h⟩
section
variable {c:List Ac} {n t:Nat} {ht:t<4294967296} {a:Ac}
end
theorem lastF_snoc {x a:Nat}:∀ {l:List Nat} {i:Nat} {c:Int},lastF x (l ++ [a]) i c=if a=x then ((i+l.length:Nat):Int) else lastF x l i c
 | [],i,c=>by simp [lastF]
 | b :: l,i,c=>by
  rw [List.cons_append]
  unfold lastF
  rw [lastF_snoc,List.length_cons,show i+1+l.length=i+(l.length+1) by omega]
def atF (c:List Ac) (n i:Nat):Int:=lastF n ((c.take i).map Ac.code) 0 (-1)
def atU (u:List Nat) (n i:Nat):Int:=lastF n (u.take i) 0 (-1)
theorem take_one {α:Type} {l:List α} {i:Nat} {a:α} (h:l[i]?=some a):l.take (i+1)=l.take i ++ [a]:=by rw [List.take_add_one,h];rfl
theorem take_lt {α:Type} {l:List α} {i:Nat} {a:α} (h:l[i]?=some a):(l.take i).length=i:=by
 have:=(List.getElem?_eq_some_iff.1 h).1
 rw [List.length_take];omega
theorem atF_step {c:List Ac} {n i:Nat} {a:Ac} (h:c[i]?=some a):atF c n (i+1)=if a.code=n then (i:Int) else atF c n i:=by
 unfold atF
 rw [take_one h,List.map_append,List.map_singleton,lastF_snoc,List.length_map,take_lt h,Nat.zero_add]
theorem atU_step {u:List Nat} {n i a:Nat} (h:u[i]?=some a):atU u n (i+1)=if a=n then (i:Int) else atU u n i:=by
 unfold atU
 rw [take_one h,lastF_snoc,take_lt h,Nat.zero_add]
theorem outA_one {c:List Ac} {n i:Nat} {a:Ac} (h:c[i]?=some a):outA (c.take (i+1)) n=if a.code=n then outA (c.take i) n else outA (c.take i) n ++ [a]:=by
 unfold outA
 rw [take_one h,List.filter_append]
 by_cases e:a.code=n
 ·simp [e]
 ·simp [e]
def kidN (c:List Ac) (n i:Nat):Nat:=(kidsA (c.take i) n).length
theorem kidN_step {c:List Ac} {n i:Nat} {a:Ac} (h:c[i]?=some a):kidN c n (i+1)=if a.par=n then kidN c n i+1 else kidN c n i:=by
 unfold kidN kidsA
 rw [take_one h,List.filter_append,List.map_append,List.length_append]
 by_cases e:a.par=n
 ·simp [e]
 ·simp [e]
theorem kidN_end (c:List Ac) (n:Nat):kidN c n c.length=(kidsA c n).length:=by unfold kidN;rw [List.take_length]
theorem atF_end (c:List Ac) (n:Nat):atF c n c.length=lastF n (c.map Ac.code) 0 (-1):=by unfold atF;rw [List.take_length]
theorem atF_none {c:List Ac} {n:Nat} (h:getA c n=none):atF c n c.length = -1:=by
 rw [atF_end]
 refine lastF_no fun hx=>?_
 rw [code_in,h] at hx
 cases hx
theorem atF_some {c:List Ac} {n:Nat} {a:Ac} (hr:RiseA c) (h:getA c n=some a):∃ j:Nat,atF c n c.length=(j:Int)∧c[j]?=some a:=by
 rw [atF_end]
 obtain ⟨j,h1,h2⟩:=lastF_in (i:=0) (c:=-1) (code_in.2 (by rw [h];rfl:(getA c n).isSome=true))
 obtain ⟨b,h3,h4⟩:=lastA hr h2
 rw [h] at h4
 cases h4
 exact ⟨j,by rw [h1,Nat.zero_add],h3⟩
theorem atF_same {c:List Ac} {n m:Nat} (h:(getA c n).isSome=true):atF c n c.length=atF c m c.length ↔ n=m:=by
 rw [atF_end,atF_end]
 exact lastF_same (code_in.2 h)
theorem atU_lo (c:List Nat) (n i:Nat) : -1≤atU c n i∧atU c n i<(c.length:Int)+1:=by
 unfold atU
 by_cases h:n ∈ c.take i
 ·obtain ⟨j,h1,h2⟩:=lastF_in (i:=0) (c:=-1) h
  have:=(List.getElem?_eq_some_iff.1 h2).1
  rw [List.length_take] at this
  omega
 ·rw [lastF_no h];omega
theorem atU_neg {u:List Nat} {n:Nat}:atU u n u.length<0 ↔ n ∉ u:=by unfold atU;rw [List.take_length];exact lastF_neg
theorem atU_same {u:List Nat} {n m:Nat} (h:n ∈ u):atU u n u.length=atU u m u.length ↔ n=m:=by unfold atU;rw [List.take_length];exact lastF_same h
def restU (u:List Nat) (f t:Nat):List Nat:=u.filter (fun n=>!(n == f) && !(n == t))
theorem restU_step {u:List Nat} {f t i a:Nat} (h:u[i]?=some a):restU (u.take (i+1)) f t=if a=f∨a=t then restU (u.take i) f t else restU (u.take i) f t ++ [a]:=by
 unfold restU
 rw [take_one h,List.filter_append]
 by_cases e1:a=f
 ·simp [e1]
 ·by_cases e2:a=t
  ·simp [e2]
  ·simp [e1,e2]
def fstP:List (Nat × Int)→Nat→Nat→Int
 | [],_,_=>-1
 | a :: r,n,k=>if a.1=n then (k:Int) else fstP r n (k+1)
theorem fstP_drop {c:List (Nat × Int)} {n k:Nat} {a:Nat × Int} (h:c[k]?=some a):fstP (c.drop k) n k=if a.1=n then (k:Int) else fstP (c.drop (k+1)) n (k+1):=by
 obtain ⟨hk,e⟩:=List.getElem?_eq_some_iff.1 h
 rw [List.drop_eq_getElem_cons hk,e]
 rfl
theorem fstP_any:∀ (c:List (Nat × Int)) (n k:Nat),decide (0≤fstP c n k)=c.any (fun a=>a.1 == n)
 | [],_,_=>rfl
 | a :: r,n,k=>by
  rw [List.any_cons]
  unfold fstP
  by_cases h:a.1=n
  ·rw [if_pos h,h];simp
  ·rw [if_neg h,fstP_any r n (k+1)];simp [h]
theorem acc1_l (a:Ac) (n B:Nat) (w:World) (hB:B<w.heap.size) (hc:w.cell? ⟨B,0,none⟩=some (.int .u32 (n:Int))) :
 Calls Tryz.prog 64 #[.agg #[.int .u32 (a.code:Int),.string a.name,.int .u8 (a.kind:Int),.int .u32 (a.par:Int)],.pointer (some ⟨B,0,none⟩)] w fun e w'=>e = .returned (.bool (decide (a.code=n)))∧Below w.heap.size w w':=by
 have hb:=(Below.refl w.heap.size w).alloc (Nat.le_refl _) (.cells #[.int .u32 (a.code:Int),.string a.name,.int .u8 (a.kind:Int),.int .u32 (a.par:Int)] 82)
 have hc1:(w.alloc (.cells #[.int .u32 (a.code:Int),.string a.name,.int .u8 (a.kind:Int),.int .u32 (a.par:Int)] 82)).cell? ⟨B,0,none⟩=some (.int .u32 (n:Int)):=(World.cell?_alloc_lt _ _ _ hB).trans hc
 by_cases h:a.code=n
 ·have hd:((a.code:Int) == (n:Int))=true:=by simp [h]
  rw [decide_eq_true h]
  clear h
  go_enter Tryz.func64,Tryz.ntmps64
  go_wp2_with fail
  go_ret
  exact ⟨rfl,hb⟩
 ·have hd:((a.code:Int) == (n:Int))=false:=by simp;omega
  rw [decide_eq_false h]
  clear h
  go_enter Tryz.func64,Tryz.ntmps64
  go_wp2_with fail
  go_ret
  exact ⟨rfl,hb⟩
theorem indexfunc_l (v:Value) (c:List Ac) (n B:Nat) (w:World) (hR:Recs cc 4 w v c) (hB:B<w.heap.size) (hc:w.cell? ⟨B,0,none⟩=some (.int .u32 (n:Int))) :
 Calls Tryz.prog 98 #[v,.func (.func 64) #[] #[.pointer (some ⟨B,0,none⟩)]] w fun e w'=>e = .returned (.int .i64 (fstA c n 0))∧Below w.heap.size w w':=by
 obtain ⟨r,cap,rfl,hm⟩:=hR.form
 have HR:=Lib.hid hR
 obtain ⟨L,hL⟩:∃ L,c.length=L:=⟨_,rfl⟩
 have HL:=Lib.hid hL
 rw [hL] at HR hm ⊢
 obtain ⟨F,hF⟩:∃ F,fstA c n 0=F:=⟨_,rfl⟩
 have HF:Hid (F=fstA (c.drop 0) n 0):=Lib.hid hF.symm
 have KC:=Lib.hid (fun a (w':World) (h:Below w.heap.size w w')=>acc1_l a n B w' (Nat.lt_of_lt_of_le hB h.size) ((h.cell (p:=⟨B,0,none⟩) hB).trans hc))
 rw [hF]
 clear hR hL hF hc hB
 go_enter Tryz.func98,Tryz.ntmps98
 go_wp2_with fail
 go_loopw [8] (fun i wr=>∃ k:Nat,k≤L∧i = .int .i64 k∧Hid (F=fstA (c.drop k) n k)∧Hid (Below w.heap.size w wr)) (fun i _=>L-(RowKit.intOf i).toNat)
 case atStart=>exact ⟨0,Nat.zero_le _,rfl,HF,Lib.hid (Below.refl _ _)⟩
 case round =>
  obtain ⟨k,hk,rfl,HK,HB⟩:=hrel
  rename World=>wr
  by_cases hlt:k<L
  ·obtain ⟨x,hx⟩:∃ x,c[k]?=some x:=⟨c[k]'(by have:=HL.out;omega),List.getElem?_eq_getElem (by have:=HL.out;omega)⟩
   obtain ⟨g,off,rfl,hg,hcx⟩:=(HR.out.stay HB.out).at hx
   have c0:=hcx 0 _ rfl
   have c1:=hcx 1 _ rfl
   have c2:=hcx 2 _ rfl
   have c3:=hcx 3 _ rfl
   rw [Nat.add_zero] at c0
   have HS:Hid (F=if x.code=n then (k:Int) else fstA (c.drop (k+1)) n (k+1)):=Lib.hid (by rw [HK.out,fstA_drop hx])
   have K1:=KC.out x wr HB.out
   clear hcx hx HK
   by_cases h:x.code=n
   ·rw [decide_eq_true h] at K1
    have K2:=Lib.hid K1
    have HE:F=(k:Int):=by rw [HS.out,if_pos h]
    clear K1 h HS
    go_wp2_with (go_at_call 64;refine K2.out.mono ?_;rintro e w1 ⟨rfl,h1⟩;have HB1:=Lib.hid (HB.out.trans (h1.mono HB.out.size));clear h1)
    go_ret
    exact ⟨by first | rfl | (rw [HE];rfl),HB1.out⟩
   ·rw [decide_eq_false h] at K1
    have K2:=Lib.hid K1
    have HE:Hid (F=fstA (c.drop (k+1)) n (k+1)):=Lib.hid (by rw [HS.out,if_neg h])
    clear K1 h HS
    go_wp2_with (go_at_call 64;refine K2.out.mono ?_;rintro e w1 ⟨rfl,h1⟩;have HB1:=Lib.hid (HB.out.trans (h1.mono HB.out.size));clear h1)
    go_roundw
    case rel=>exact ⟨k+1,by omega,by go_num,HE,HB1⟩
    case measure=>simp [RowKit.intOf];omega
  ·obtain rfl:k=L:=by omega
   have HE:F = -1:=by rw [HK.out,List.drop_eq_nil_of_le (by have:=HL.out;omega)];rfl
   clear HK
   go_wp2_with fail
   go_ret
   exact ⟨by first | rfl | (rw [HE];rfl),HB.out⟩
theorem containsfunc_l (v:Value) (c:List Ac) (n B:Nat) (w:World) (hR:Recs cc 4 w v c) (hB:B<w.heap.size) (hc:w.cell? ⟨B,0,none⟩=some (.int .u32 (n:Int))) :
 Calls Tryz.prog 63 #[v,.func (.func 64) #[] #[.pointer (some ⟨B,0,none⟩)]] w fun e w'=>e = .returned (.bool (c.any (fun a=>a.code == n)))∧Below w.heap.size w w':=by
 have K:=Lib.hid (indexfunc_l v c n B w hR hB hc)
 obtain ⟨r,cap,rfl,hm⟩:=hR.form
 rw [← fstA_any c n 0]
 clear hR hB hc
 generalize fstA c n 0=F at *
 by_cases h:0≤F
 ·have hd:decide (F<0)=false:=decide_eq_false (by omega)
  rw [decide_eq_true h]
  go_enter Tryz.func63,Tryz.ntmps63
  go_wp2_with (go_at_call 98;refine K.out.mono ?_;rintro e w1 ⟨rfl,h1⟩)
  go_ret
  exact ⟨by simp [h],h1⟩
 ·have hd:decide (F<0)=true:=decide_eq_true (by omega)
  rw [decide_eq_false h]
  go_enter Tryz.func63,Tryz.ntmps63
  go_wp2_with (go_at_call 98;refine K.out.mono ?_;rintro e w1 ⟨rfl,h1⟩)
  go_ret
  exact ⟨by simp [h],h1⟩
theorem acc2_l (a:Nat × Int) (n B:Nat) (w:World) (hB:B<w.heap.size) (hc:w.cell? ⟨B,0,none⟩=some (.int .u32 (n:Int))) :
 Calls Tryz.prog 66 #[.agg #[.int .u32 (a.1:Int),.int .i64 a.2],.pointer (some ⟨B,0,none⟩)] w fun e w'=>e = .returned (.bool (decide (a.1=n)))∧Below w.heap.size w w':=by
 have hb:=(Below.refl w.heap.size w).alloc (Nat.le_refl _) (.cells #[.int .u32 (a.1:Int),.int .i64 a.2] 94)
 have hc1:(w.alloc (.cells #[.int .u32 (a.1:Int),.int .i64 a.2] 94)).cell? ⟨B,0,none⟩=some (.int .u32 (n:Int)):=(World.cell?_alloc_lt _ _ _ hB).trans hc
 by_cases h:a.1=n
 ·have hd:((a.1:Int) == (n:Int))=true:=by simp [h]
  rw [decide_eq_true h]
  clear h
  go_enter Tryz.func66,Tryz.ntmps66
  go_wp2_with fail
  go_ret
  exact ⟨rfl,hb⟩
 ·have hd:((a.1:Int) == (n:Int))=false:=by simp;omega
  rw [decide_eq_false h]
  clear h
  go_enter Tryz.func66,Tryz.ntmps66
  go_wp2_with fail
  go_ret
  exact ⟨rfl,hb⟩
theorem indexfunc_p (v:Value) (c:List (Nat × Int)) (n B:Nat) (w:World) (hR:Recs ptz 2 w v c) (hB:B<w.heap.size) (hc:w.cell? ⟨B,0,none⟩=some (.int .u32 (n:Int))) :
 Calls Tryz.prog 99 #[v,.func (.func 66) #[] #[.pointer (some ⟨B,0,none⟩)]] w fun e w'=>e = .returned (.int .i64 (fstP c n 0))∧Below w.heap.size w w':=by
 obtain ⟨r,cap,rfl,hm⟩:=hR.form
 have HR:=Lib.hid hR
 obtain ⟨L,hL⟩:∃ L,c.length=L:=⟨_,rfl⟩
 have HL:=Lib.hid hL
 rw [hL] at HR hm ⊢
 obtain ⟨F,hF⟩:∃ F,fstP c n 0=F:=⟨_,rfl⟩
 have HF:Hid (F=fstP (c.drop 0) n 0):=Lib.hid hF.symm
 have KC:=Lib.hid (fun a (w':World) (h:Below w.heap.size w w')=>acc2_l a n B w' (Nat.lt_of_lt_of_le hB h.size) ((h.cell (p:=⟨B,0,none⟩) hB).trans hc))
 rw [hF]
 clear hR hL hF hc hB
 go_enter Tryz.func99,Tryz.ntmps99
 go_wp2_with fail
 go_loopw [8] (fun i wr=>∃ k:Nat,k≤L∧i = .int .i64 k∧Hid (F=fstP (c.drop k) n k)∧Hid (Below w.heap.size w wr)) (fun i _=>L-(RowKit.intOf i).toNat)
 case atStart=>exact ⟨0,Nat.zero_le _,rfl,HF,Lib.hid (Below.refl _ _)⟩
 case round =>
  obtain ⟨k,hk,rfl,HK,HB⟩:=hrel
  rename World=>wr
  by_cases hlt:k<L
  ·obtain ⟨x,hx⟩:∃ x,c[k]?=some x:=⟨c[k]'(by have:=HL.out;omega),List.getElem?_eq_getElem (by have:=HL.out;omega)⟩
   obtain ⟨g,off,rfl,hg,hcx⟩:=(HR.out.stay HB.out).at hx
   have c0:=hcx 0 _ rfl
   have c1:=hcx 1 _ rfl
   rw [Nat.add_zero] at c0
   have HS:Hid (F=if x.1=n then (k:Int) else fstP (c.drop (k+1)) n (k+1)):=Lib.hid (by rw [HK.out,fstP_drop hx])
   have K1:=KC.out x wr HB.out
   clear hcx hx HK
   by_cases h:x.1=n
   ·rw [decide_eq_true h] at K1
    have K2:=Lib.hid K1
    have HE:F=(k:Int):=by rw [HS.out,if_pos h]
    clear K1 h HS
    go_wp2_with (go_at_call 66;refine K2.out.mono ?_;rintro e w1 ⟨rfl,h1⟩;have HB1:=Lib.hid (HB.out.trans (h1.mono HB.out.size));clear h1)
    go_ret
    exact ⟨by first | rfl | (rw [HE];rfl),HB1.out⟩
   ·rw [decide_eq_false h] at K1
    have K2:=Lib.hid K1
    have HE:Hid (F=fstP (c.drop (k+1)) n (k+1)):=Lib.hid (by rw [HS.out,if_neg h])
    clear K1 h HS
    go_wp2_with (go_at_call 66;refine K2.out.mono ?_;rintro e w1 ⟨rfl,h1⟩;have HB1:=Lib.hid (HB.out.trans (h1.mono HB.out.size));clear h1)
    go_roundw
    case rel=>exact ⟨k+1,by omega,by go_num,HE,HB1⟩
    case measure=>simp [RowKit.intOf];omega
  ·obtain rfl:k=L:=by omega
   have HE:F = -1:=by rw [HK.out,List.drop_eq_nil_of_le (by have:=HL.out;omega)];rfl
   clear HK
   go_wp2_with fail
   go_ret
   exact ⟨by first | rfl | (rw [HE];rfl),HB.out⟩
theorem containsfunc_p (v:Value) (c:List (Nat × Int)) (n B:Nat) (w:World) (hR:Recs ptz 2 w v c) (hB:B<w.heap.size) (hc:w.cell? ⟨B,0,none⟩=some (.int .u32 (n:Int))) :
 Calls Tryz.prog 65 #[v,.func (.func 66) #[] #[.pointer (some ⟨B,0,none⟩)]] w fun e w'=>e = .returned (.bool (c.any (fun a=>a.1 == n)))∧Below w.heap.size w w':=by
 have K:=Lib.hid (indexfunc_p v c n B w hR hB hc)
 obtain ⟨r,cap,rfl,hm⟩:=hR.form
 rw [← fstP_any c n 0]
 clear hR hB hc
 generalize fstP c n 0=F at *
 by_cases h:0≤F
 ·have hd:decide (F<0)=false:=decide_eq_false (by omega)
  rw [decide_eq_true h]
  go_enter Tryz.func65,Tryz.ntmps65
  go_wp2_with (go_at_call 99;refine K.out.mono ?_;rintro e w1 ⟨rfl,h1⟩)
  go_ret
  exact ⟨by simp [h],h1⟩
 ·have hd:decide (F<0)=true:=decide_eq_true (by omega)
  rw [decide_eq_false h]
  go_enter Tryz.func65,Tryz.ntmps65
  go_wp2_with (go_at_call 99;refine K.out.mono ?_;rintro e w1 ⟨rfl,h1⟩)
  go_ret
  exact ⟨by simp [h],h1⟩
end Go.Proofs.YtjgmbjfijpmhdaaGreatDoor
namespace Go.Proofs.YtjgmbjfijpmhdaaGreatDoor
open Go.RowKit Go.Lib
set_option linter.unusedVariables false
set_option linter.unusedSimpArgs false
theorem sort16l (xs:List Nat) (v:Value) (n base:Nat) (w:World) (ho:w.ownsRow base 77 1 v n (xs.flatMap uc)) (hn:xs.length=n) (h12:n≤12) :
 Calls Tryz.prog 61 #[v] w fun e w'=>e = .returned (.tuple #[])∧Sorts 77 base v n xs w w':=by
 have K:=Lib.hid (fun m=>pdq16 xs v n base m w ho hn h12)
 have KL:=Lib.hid (fun w=>len_few n h12 w)
 obtain ⟨r,cap,rfl⟩:∃ r cap,v = .slice r n cap:=by
  rcases ho.2 with ⟨rfl,h⟩ | ⟨g,cap,cur,rfl,_⟩
  ·subst h;exact ⟨_,_,rfl⟩
  ·exact ⟨_,_,rfl⟩
 have e1:IntKind.u64.wrap (n:Int)=(n:Int):=by rw [IntKind.wrap_u64];omega
 clear ho hn
 go_enter Tryz.func61,Tryz.ntmps61
 go_wp2_with (first
  | (go_at_call 84;refine (KL.out _).mono ?_;rintro e w1 ⟨⟨m,rfl⟩,rfl⟩)
  | (go_at_call 83;refine (K.out m).mono ?_;rintro e w1 ⟨rfl,hs⟩;have HS:=Lib.hid hs;clear hs))
 go_end0
 exact ⟨rfl,HS.out⟩
theorem HBox.stayB {w w':World} {b B:Nat} {cs:List Value} {T:TypeId} (h:HBox w b cs T) (hb:Below B w w') (hlt:b<B):HBox w' b cs T:=(hb.block b hlt).trans h
theorem units_l (f:Fr) (vC vU vS:Value) (o:Rop) (vP vO:Value) (pos:Int) (w:World) (hU:Recs uc 1 w vU f.U) (hr:RiseU f.U) (hl:f.U.length≤11) (hx:∀ x ∈ f.U,x<65536) (h0:o.kind=5∨o.kind=6) :
 Calls Tryz.prog 37 #[frV vC vU vS f.E,ropV o vP vO pos] w fun e w'=>UniR w' e (unitF f.U o)∧Below w.heap.size w w':=by
 obtain ⟨i0,hi,hz0,hz1,hz2⟩:=info_parts info16
 obtain ⟨UF,hUF⟩:∃ r,unitF f.U o=r:=⟨_,rfl⟩
 rw [hUF]
 have HE1:=Lib.hid (fun (h:999<o.frm∨999<o.to)=>(hUF.symm.trans (unitF_r h):UF = .error 5))
 have HE2:=Lib.hid (fun (h:¬ (999<o.frm∨999<o.to)) (h1:o.frm ∉ f.U)=>(hUF.symm.trans (unitF_n h h1):UF = .error 8))
 have HE3:=Lib.hid (fun (h:¬ (999<o.frm∨999<o.to)) (h1:o.frm ∈ f.U) (k:o.kind=6) (h2:o.to=o.frm)=>(hUF.symm.trans (unitF_s h h1 k h2):UF = .error 16))
 have HE4:=Lib.hid (fun (h:¬ (999<o.frm∨999<o.to)) (h1:o.frm ∈ f.U) (k:o.kind=6) (h2:o.to≠o.frm) (h3:o.to ∉ f.U)=>(hUF.symm.trans (unitF_m h h1 k h2 h3):UF = .error 8))
 have HE5:=Lib.hid (fun (h:¬ (999<o.frm∨999<o.to)) (h1:o.frm ∈ f.U) (k:o.kind=5) (h3:o.to ∈ f.U)=>(hUF.symm.trans (unitF_t h h1 k h3):UF = .error 7))
 have HE6:=Lib.hid (fun (h:¬ (999<o.frm∨999<o.to)) (h1:o.frm ∈ f.U) (k:o.kind=6) (h2:o.to≠o.frm) (h3:o.to ∈ f.U)=>(hUF.symm.trans (unitF_6 h h1 k h2 h3):UF = .ok (withU (outU f.U o.frm) o.to)))
 have HE7:=Lib.hid (fun (h:¬ (999<o.frm∨999<o.to)) (h1:o.frm ∈ f.U) (k:o.kind=5) (h3:o.to ∉ f.U)=>(hUF.symm.trans (unitF_5 h h1 k h3):UF = .ok (withU (outU f.U o.frm) o.to)))
 have HUN:=Lib.hid (fun (ys:List Nat) (hp:ys.Perm (restU f.U o.frm o.to ++ [o.to])) (hs:ys.Pairwise (fun a b=>a≤b))=>(unitL_eq hr hp hs:ys=withU (outU f.U o.frm) o.to))
 have HNG:=Lib.hid (fun n:Nat=>(atU_neg:atU f.U n f.U.length<0 ↔ n ∉ f.U))
 have HSM:=Lib.hid (fun (n m:Nat) (h:n ∈ f.U)=>(atU_same h:atU f.U n f.U.length=atU f.U m f.U.length ↔ n=m))
 have HLO:=Lib.hid (fun (n i:Nat)=>atU_lo f.U n i)
 obtain ⟨EE,hEE⟩:∃ n,f.E=n:=⟨_,rfl⟩
 rw [hEE]
 obtain ⟨C0,u,S0,E0⟩:=f
 simp only at *
 unfold frV ropV
 obtain ⟨kd,fr,tt,nm,ps,ss,en,_,_,_,hnm,_,_,_⟩:=o
 simp only at *
 obtain ⟨r2,c2,rfl,hc2⟩:=cap_of hU
 obtain ⟨N,hN⟩:∃ n,u.length=n:=⟨_,rfl⟩
 have HL:=Lib.hid hN
 rw [hN] at hU hl hc2 HNG HSM HLO ⊢
 have HU0:=Lib.hid hU
 have HX:=Lib.hid hx
 have HK:=Lib.hid h0
 clear hU hr hx hUF hEE hN h0
 have hB0:=((Below.refl w.heap.size w).alloc (Nat.le_refl _) (.cells #[vC,.slice r2 N c2,vS,.int .i32 EE] 41)).alloc (by simp) (.cells #[.int .i64 kd,.int .u32 (fr:Int),.int .u32 (tt:Int),.string nm,vP,vO,.int .i32 en,.int .i64 pos] 49)
 have hF:=(HBox.new w [vC,.slice r2 N c2,vS,.int .i32 EE] 41).alloc (.cells #[.int .i64 kd,.int .u32 (fr:Int),.int .u32 (tt:Int),.string nm,vP,vO,.int .i32 en,.int .i64 pos] 49)
 have hG:=HBox.new (w.alloc (.cells #[vC,.slice r2 N c2,vS,.int .i32 EE] 41)) [.int .i64 kd,.int .u32 (fr:Int),.int .u32 (tt:Int),.string nm,vP,vO,.int .i32 en,.int .i64 pos] 49
 rw [show (w.alloc (.cells #[vC,.slice r2 N c2,vS,.int .i32 EE] 41)).heap.size=w.heap.size+1 by simp] at hG
 change HBox ((w.alloc (.cells #[vC,.slice r2 N c2,vS,.int .i32 EE] 41)).alloc (.cells #[.int .i64 kd,.int .u32 (fr:Int),.int .u32 (tt:Int),.string nm,vP,vO,.int .i32 en,.int .i64 pos] 49)) _ _ _ at hF hG
 have hs0:((w.alloc (.cells #[vC,.slice r2 N c2,vS,.int .i32 EE] 41)).alloc (.cells #[.int .i64 kd,.int .u32 (fr:Int),.int .u32 (tt:Int),.string nm,vP,vO,.int .i32 en,.int .i64 pos] 49)).heap.size=w.heap.size+2:=by simp
 go_enter Tryz.func37,Tryz.ntmps37
 go_upto_region 1 with fail
 generalize ((w.alloc (.cells #[vC,.slice r2 N c2,vS,.int .i32 EE] 41)).alloc (.cells #[.int .i64 kd,.int .u32 (fr:Int),.int .u32 (tt:Int),.string nm,vP,vO,.int .i32 en,.int .i64 pos] 49))=W1 at *
 obtain ⟨G,hGG⟩:∃ G,w.heap.size=G:=⟨_,rfl⟩
 rw [hGG] at hF hG hs0 ⊢
 have HGG:=Lib.hid hGG
 have HB1:Hid (Below w.heap.size w W1):=hB0
 have HF1:=Lib.hid hF
 have HG1:=Lib.hid hG
 have HS1:=Lib.hid hs0
 have hb2:=(Below.refl W1.heap.size W1).alloc (Nat.le_refl _) (.cells #[] 77)
 have ho2:=World.ownsRow_made (e:=77) W1 #[] 0 (size:=1) (Nat.le_refl _) (by decide) (by simp)
 clear hB0 hF hG hs0 hGG
 go_upto_region 2 with fail
 have f1:=(HF1.out.alloc (.cells #[] 77)).cell (j:=1) rfl
 generalize W1.alloc (.cells #[] 77)=W2 at *
 obtain ⟨B,hBB⟩:∃ B,W1.heap.size=B:=⟨_,rfl⟩
 rw [hBB] at hb2 ho2 HS1 ⊢
 have HBB:=Lib.hid hBB
 have HF2:=Lib.hid (HF1.out.stay (by rw [HBB.out];exact hb2))
 have HG2:=Lib.hid (HG1.out.stay (by rw [HBB.out];exact hb2))
 have HB2:=Lib.hid (HB1.out.trans ((by rw [HBB.out];exact hb2:Below W1.heap.size W1 W2).mono HB1.out.size))
 have HS2:Hid (B=G+2):=Lib.hid HS1.out
 have HV2:Hid (B≤W2.heap.size):=Lib.hid (by have:=hb2.size;have:=HBB.out;omega)
 have HO2:=Lib.hid ho2
 clear hBB hb2 ho2 HF1 HG1 HB1 HS1
 go_wp2_with fail
 clear f1
 go_loopw [6,7,8,9,10,15] (fun s6 s7 s8 s9 s10 vi wr=>∃ (k m:Nat) (r:Option Addr) (cap:Nat) (o:List Nat) (z6 z7:Int),s6 = .int .i64 z6∧s7 = .int .i64 z7∧s8 = .slice r m cap∧vi = .int .i64 k∧k≤N∧m≤k∧Hid (wr.ownsRow B 77 1 (.slice r m cap) m (o.flatMap uc))∧Hid (o.length=m∧o=restU (u.take k) fr tt∧z6=atU u fr k∧z7=atU u tt k)∧Hid (Below B W2 wr)) (fun _ _ _ _ _ i _=>N-(intOf i).toNat)
 case atStart=>exact ⟨0,0,_,0,[], -1, -1,rfl,rfl,rfl,rfl,Nat.zero_le _,Nat.zero_le _,HO2,⟨rfl,rfl,rfl,rfl⟩,Lib.hid (Below.refl _ _)⟩
 case round =>
  obtain ⟨k,m,r,cap,o,z6,z7,rfl,rfl,rfl,rfl,hk,hmk,HO,HC,HB⟩:=hrel
  rename World=>wr
  have hBW:w.heap.size≤B:=by have:=HS2.out;have:=HGG.out;omega
  have HBr:=Lib.hid (HB2.out.trans (HB.out.mono hBW))
  have hFr:=HF2.out.stayB HB.out (by have:=HS2.out;omega)
  have hGr:=HG2.out.stayB HB.out (by have:=HS2.out;omega)
  have g0:=hGr.cell (j:=0) rfl
  have g1:=hGr.cell (j:=1) rfl
  have g2:=hGr.cell (j:=2) rfl
  clear hFr hGr
  by_cases hlt:k<N
  ·obtain ⟨x,hx⟩:∃ x,u[k]?=some x:=⟨u[k]'(by have:=HL.out;omega),List.getElem?_eq_getElem (by have:=HL.out;omega)⟩
   obtain ⟨g,off,rfl,hg,hc⟩:=(HU0.out.stay HBr.out).at hx
   have c0:=hc 0 _ rfl
   simp only [Nat.mul_one,Nat.add_zero] at c0
   have HS1:=Lib.hid (restU_step (f:=fr) (t:=tt) hx)
   have HS2:=Lib.hid (atU_step (n:=fr) hx)
   have HS3:=Lib.hid (atU_step (n:=tt) hx)
   have hxs:=HX.out x (List.mem_of_getElem? hx)
   have w1:IntKind.u32.wrap (x:Int)=(x:Int):=by rw [IntKind.wrap_u32];omega
   have hbs:B≤wr.heap.size:=Nat.le_trans HV2.out HB.out.size
   have HOL:=Lib.hid HO.out.lt
   clear hx hc hxs
   by_cases hA:x=fr
   ·by_cases hT:x=tt
    ·have e1:((x:Int) == (fr:Int))=true:=by rw [hA];exact beq_self_eq_true _
     have e2:((x:Int) == (tt:Int))=true:=by rw [hT];exact beq_self_eq_true _
     have e3:((x:Int) != (fr:Int))=false:=by rw [hA];exact bne_self_eq_false _
     have e4:((x:Int) != (tt:Int))=false:=by rw [hT];exact bne_self_eq_false _
     have HI:=Lib.hid hA
     have HJ:=Lib.hid hT
     clear hA hT
     go_wp2
     go_roundw
     case rel=>exact ⟨k+1,m,r,cap,o,(k:Int),(k:Int),rfl,rfl,rfl,by go_num,by omega,by omega,HO,Lib.hid ⟨HC.out.1,by rw [HS1.out,if_pos (.inl HI.out),HC.out.2.1],by rw [HS2.out,if_pos HI.out],by rw [HS3.out,if_pos HJ.out]⟩,HB⟩
     case measure=>simp [intOf];omega
    ·have e1:((x:Int) == (fr:Int))=true:=by rw [hA];exact beq_self_eq_true _
     have e2:((x:Int) == (tt:Int))=false:=by rw [beq_eq_false_iff_ne];omega
     have e3:((x:Int) != (fr:Int))=false:=by rw [hA];exact bne_self_eq_false _
     have e4:((x:Int) != (tt:Int))=true:=by rw [bne_iff_ne];omega
     have HI:=Lib.hid hA
     have HJ:=Lib.hid hT
     clear hA hT
     go_wp2
     go_roundw
     case rel=>exact ⟨k+1,m,r,cap,o,(k:Int),z7,rfl,rfl,rfl,by go_num,by omega,by omega,HO,Lib.hid ⟨HC.out.1,by rw [HS1.out,if_pos (.inl HI.out),HC.out.2.1],by rw [HS2.out,if_pos HI.out],by rw [HS3.out,if_neg HJ.out,HC.out.2.2.2]⟩,HB⟩
     case measure=>simp [intOf];omega
   ·by_cases hT:x=tt
    ·have e1:((x:Int) == (fr:Int))=false:=by rw [beq_eq_false_iff_ne];omega
     have e2:((x:Int) == (tt:Int))=true:=by rw [hT];exact beq_self_eq_true _
     have e3:((x:Int) != (fr:Int))=true:=by rw [bne_iff_ne];omega
     have e4:((x:Int) != (tt:Int))=false:=by rw [hT];exact bne_self_eq_false _
     have HI:=Lib.hid hA
     have HJ:=Lib.hid hT
     clear hA hT
     go_wp2
     go_roundw
     case rel=>exact ⟨k+1,m,r,cap,o,z6,(k:Int),rfl,rfl,rfl,by go_num,by omega,by omega,HO,Lib.hid ⟨HC.out.1,by rw [HS1.out,if_pos (.inr HJ.out),HC.out.2.1],by rw [HS2.out,if_neg HI.out,HC.out.2.2.1],by rw [HS3.out,if_pos HJ.out]⟩,HB⟩
     case measure=>simp [intOf];omega
    ·have e1:((x:Int) == (fr:Int))=false:=by rw [beq_eq_false_iff_ne];omega
     have e2:((x:Int) == (tt:Int))=false:=by rw [beq_eq_false_iff_ne];omega
     have e3:((x:Int) != (fr:Int))=true:=by rw [bne_iff_ne];omega
     have e4:((x:Int) != (tt:Int))=true:=by rw [bne_iff_ne];omega
     have HI:=Lib.hid hA
     have HJ:=Lib.hid hT
     clear hA hT
     go_wp2_with (at_builtin;refine wpList_append_own _ rfl (.tmp 44) (.tmp 46) 23 rfl B 77 i0 (.int .u16 0) 1 2 Tryz.underlying23 hi hz0 hz1 hz2 rfl (by decide) _ m _ rfl (HO.out.alloc _) ⟨_,0,none⟩ 1 1 (uc x) rfl rfl (cells_new _ (uc x) _) (uc_one x) (by unfold maxLen;omega) (by omega) (by simp;omega) ?_;intro v5 w5 hown5 hgrow5 _;have HB5:=Lib.hid ((HB.out.alloc hbs _).grown hgrow5 (by simp;omega) (fun j hj=>(HOL.out j hj).1));have HO5:=Lib.hid hown5;obtain ⟨r5,cap5,rfl⟩:=owns_form hown5;clear hgrow5 hown5)
     go_roundw
     case rel=>exact ⟨k+1,m+1,r5,cap5,o ++ [x],z6,z7,rfl,rfl,rfl,by go_num,by omega,by omega,Lib.hid (by rw [flat_snoc];exact HO5.out),Lib.hid ⟨by simp;exact HC.out.1,by rw [HS1.out,if_neg (fun h=>h.elim HI.out HJ.out),HC.out.2.1],by rw [HS2.out,if_neg HI.out,HC.out.2.2.1],by rw [HS3.out,if_neg HJ.out,HC.out.2.2.2]⟩,HB5⟩
     case measure=>simp [intOf];omega
  ·obtain rfl:k=N:=by omega
   obtain ⟨hm,ho,h6,h7⟩:=HC.out
   have HM:=Lib.hid hm
   have HOE:=Lib.hid (show o=restU u fr tt by rw [ho,List.take_of_length_le (by rw [HL.out];exact Nat.le_refl _)])
   have hn6:=HNG.out fr
   have hn7:=HNG.out tt
   have hlo6:=HLO.out fr k
   have hlo7:=HLO.out tt k
   rw [← h6] at hn6 hlo6
   rw [← h7] at hn7 hlo7
   have HSM6:=Lib.hid (fun h:fr ∈ u=>(by have:=HSM.out fr tt h;rw [← h6,← h7] at this;exact this:z6=z7 ↔ fr=tt))
   clear hm ho h6 h7 HC
   have hz:¬ (k:Int)<(k:Int):=by omega
   have hbs:B≤wr.heap.size:=Nat.le_trans HV2.out HB.out.size
   by_cases r1:999<fr
   ·have d1:decide ((fr:Int) > 999)=true:=decide_eq_true (by omega)
    have HU:=Lib.hid (HE1.out (.inl r1))
    clear hn6 hn7 hlo6 hlo7 r1
    go_wp2_with fail
    go_ret2
    rw [HU.out]
    exact ⟨rfl,HBr.out⟩
   ·have d1:decide ((fr:Int) > 999)=false:=decide_eq_false (by omega)
    by_cases r2:999<tt
    ·have d2:decide ((tt:Int) > 999)=true:=decide_eq_true (by omega)
     have HU:=Lib.hid (HE1.out (.inr r2))
     clear hn6 hn7 hlo6 hlo7 r1 r2
     go_wp2_with fail
     go_ret2
     rw [HU.out]
     exact ⟨rfl,HBr.out⟩
    ·have d2:decide ((tt:Int) > 999)=false:=decide_eq_false (by omega)
     have hR:¬ (999<fr∨999<tt):=by omega
     by_cases r3:fr ∈ u
     case neg =>
      have HU:=Lib.hid (HE2.out hR r3)
      have d3:decide (z6<0)=true:=decide_eq_true (hn6.2 r3)
      clear hn6 hn7 hlo6 hlo7 r1 r2 r3 hR
      go_wp2_with fail
      go_ret2
      rw [HU.out]
      exact ⟨rfl,HBr.out⟩
     case pos =>
      have hz6:¬ z6<0:=fun h=>hn6.1 h r3
      have d3:decide (z6<0)=false:=decide_eq_false hz6
      have hsm:=HSM6.out r3
      rcases HK.out with hk6 | hk6
      ·have j6:((kd:Int) == 6)=false:=by rw [hk6];rfl
       have j5:((kd:Int) == 5)=true:=by rw [hk6];rfl
       by_cases r4:tt ∈ u
       ·have HU:=Lib.hid (HE5.out hR r3 hk6 r4)
        have d4:decide (z7 ≥ 0)=true:=decide_eq_true (by have:¬ z7<0:=fun h=>hn7.1 h r4;omega)
        clear hn6 hn7 hlo6 hlo7 r1 r2 r3 r4 hR hk6 hz6 hsm
        go_wp2_with fail
        go_ret2
        rw [HU.out]
        exact ⟨rfl,HBr.out⟩
       ·have HU:=Lib.hid (HE7.out hR r3 hk6 r4)
        have d4:decide (z7 ≥ 0)=false:=decide_eq_false (by have:=hn7.2 r4;omega)
        clear hn6 hn7 hlo6 hlo7 r1 r2 r3 r4 hk6 hz6 hsm
        have w2:IntKind.u16.wrap (tt:Int)=(tt:Int):=by rw [IntKind.wrap_u16];omega
        clear hR
        have HOL:=Lib.hid HO.out.lt
        go_wp2_with (first
         | (at_builtin;refine wpList_append_own _ rfl (.tmp 86) (.tmp 90) 23 rfl B 77 i0 (.int .u16 0) 1 2 Tryz.underlying23 hi hz0 hz1 hz2 rfl (by decide) _ m _ rfl (HO.out.alloc _) ⟨_,0,none⟩ 1 1 (uc tt) rfl rfl (cells_new _ (uc tt) _) (uc_one tt) (by unfold maxLen;omega) (by omega) (by simp;omega) ?_;intro v5 w5 hown5 hgrow5 _;have HB5:=Lib.hid ((HB.out.alloc hbs _).grown hgrow5 (by simp;omega) (fun j hj=>(HOL.out j hj).1));have HO5:=Lib.hid hown5;have HOL5:=Lib.hid hown5.lt;obtain ⟨r5,cap5,rfl⟩:=owns_form hown5;clear hgrow5 hown5)
         | (go_at_call 61;refine (sort16l (o ++ [tt]) _ (m+1) B w5 (by rw [flat_snoc];exact HO5.out) (by simp;exact HM.out) (by omega)).mono ?_;rintro e w6 ⟨rfl,hs⟩;have HS6:=Lib.hid hs;clear hs))
        obtain ⟨ys,hp,hsr,ho6,hg6⟩:=HS6.out
        have ew:=HUN.out ys (by rw [← HOE.out];exact hp) hsr
        have hl6:=hp.length_eq
        rw [show (o ++ [tt]).length=m+1 by simp;exact HM.out] at hl6
        have HB6:=Lib.hid (HB5.out.grown hg6 (by have:=HB5.out.size;have:=HV2.out;omega) (fun j hj=>(HOL5.out j hj).1))
        have HRW:=Lib.hid (show Recs uc 1 w6 _ (withU (outU u fr) tt) from ew ▸ recs_of_owns uc_len ho6 hl6.symm (by omega))
        go_ret2
        rw [HU.out]
        exact ⟨⟨_,rfl,HRW.out⟩,HB2.out.trans (HB6.out.mono hBW)⟩
      ·have j6:((kd:Int) == 6)=true:=by rw [hk6];rfl
       have j5:((kd:Int) == 5)=false:=by rw [hk6];rfl
       by_cases r5:tt=fr
       ·have HU:=Lib.hid (HE3.out hR r3 hk6 r5)
        have d5:(z6 == z7)=true:=by rw [beq_iff_eq];exact hsm.2 r5.symm
        clear hn6 hn7 hlo6 hlo7 r1 r2 r3 hR hk6 hz6 hsm r5
        go_wp2_with fail
        go_ret2
        rw [HU.out]
        exact ⟨rfl,HBr.out⟩
       ·have d5:(z6 == z7)=false:=by rw [beq_eq_false_iff_ne];exact fun h=>r5 (hsm.1 h).symm
        by_cases r4:tt ∈ u
        ·have HU:=Lib.hid (HE6.out hR r3 hk6 r5 r4)
         have d4:decide (z7<0)=false:=decide_eq_false (fun h=>hn7.1 h r4)
         clear hn6 hn7 hlo6 hlo7 r1 r2 r3 r4 hk6 hz6 hsm r5
         have w2:IntKind.u16.wrap (tt:Int)=(tt:Int):=by rw [IntKind.wrap_u16];omega
         clear hR
         have HOL:=Lib.hid HO.out.lt
         go_wp2_with (first
          | (at_builtin;refine wpList_append_own _ rfl (.tmp 86) (.tmp 90) 23 rfl B 77 i0 (.int .u16 0) 1 2 Tryz.underlying23 hi hz0 hz1 hz2 rfl (by decide) _ m _ rfl (HO.out.alloc _) ⟨_,0,none⟩ 1 1 (uc tt) rfl rfl (cells_new _ (uc tt) _) (uc_one tt) (by unfold maxLen;omega) (by omega) (by simp;omega) ?_;intro v5 w5 hown5 hgrow5 _;have HB5:=Lib.hid ((HB.out.alloc hbs _).grown hgrow5 (by simp;omega) (fun j hj=>(HOL.out j hj).1));have HO5:=Lib.hid hown5;have HOL5:=Lib.hid hown5.lt;obtain ⟨r5,cap5,rfl⟩:=owns_form hown5;clear hgrow5 hown5)
          | (go_at_call 61;refine (sort16l (o ++ [tt]) _ (m+1) B w5 (by rw [flat_snoc];exact HO5.out) (by simp;exact HM.out) (by omega)).mono ?_;rintro e w6 ⟨rfl,hs⟩;have HS6:=Lib.hid hs;clear hs))
         obtain ⟨ys,hp,hsr,ho6,hg6⟩:=HS6.out
         have ew:=HUN.out ys (by rw [← HOE.out];exact hp) hsr
         have hl6:=hp.length_eq
         rw [show (o ++ [tt]).length=m+1 by simp;exact HM.out] at hl6
         have HB6:=Lib.hid (HB5.out.grown hg6 (by have:=HB5.out.size;have:=HV2.out;omega) (fun j hj=>(HOL5.out j hj).1))
         have HRW:=Lib.hid (show Recs uc 1 w6 _ (withU (outU u fr) tt) from ew ▸ recs_of_owns uc_len ho6 hl6.symm (by omega))
         go_ret2
         rw [HU.out]
         exact ⟨⟨_,rfl,HRW.out⟩,HB2.out.trans (HB6.out.mono hBW)⟩
        ·have HU:=Lib.hid (HE4.out hR r3 hk6 r5 r4)
         have d4:decide (z7<0)=true:=decide_eq_true (hn7.2 r4)
         clear hn6 hn7 hlo6 hlo7 r1 r2 r3 r4 hR hk6 hz6 hsm r5
         go_wp2_with fail
         go_ret2
         rw [HU.out]
         exact ⟨rfl,HBr.out⟩
theorem HBox.stayA {w w':World} {b B:Nat} {cs:List Value} {T:TypeId} (h:HBox w b cs T) (hb:Below B w w') (hlt:b<B):HBox w' b cs T:=(hb.block b hlt).trans h
theorem accL_0t {c:List Ac} {o:Rop} {a:Ac} (h:getA c o.frm=some a) (hk:o.kind=0) (ht:(getA c o.to).isSome=true):accL c o = .error 7:=by
 unfold accL;rw [h];simp only [hk,ht,if_true]
theorem accL_0 {c:List Ac} {o:Rop} {a:Ac} (h:getA c o.frm=some a) (hk:o.kind=0) (ht:(getA c o.to).isSome=false):accL c o = .ok (withA (moveA (outA c o.frm) o.frm o.to o.ht) (a.re o.to o.ht)):=by
 unfold accL;rw [h];simp only [hk,ht,if_true,Bool.false_eq_true,if_false]
theorem accL_1 {c:List Ac} {o:Rop} {a:Ac} (h:getA c o.frm=some a) (hk:o.kind=1):accL c o = .ok (withA (outA c o.frm) (a.nm o.name o.hn)):=by
 unfold accL;rw [h];simp only [hk,if_true,show ¬ ((1:Int)=0) from by decide,if_false]
theorem accL_2 {c:List Ac} {o:Rop} {a:Ac} (h:getA c o.frm=some a) (hk:o.kind=2):accL c o = .ok (withA (outA c o.frm) (a.to o.to o.ht)):=by
 unfold accL;rw [h];simp only [hk,if_true,show ¬ ((2:Int)=0) from by decide,show ¬ ((2:Int)=1) from by decide,if_false]
theorem accL_3 {c:List Ac} {o:Rop} {a:Ac} (h:getA c o.frm=some a) (hk:o.kind=3):accL c o=(if o.to=o.frm then .error 16 else match getA c o.to with
 | none=>.error 8
 | some b=>if b.kind≠a.kind then .error 9 else if kidsA c o.frm≠[] then .error 12 else .ok (outA c o.frm)):=by
 unfold accL;rw [h];simp only [hk,if_true,show ¬ ((3:Int)=0) from by decide,show ¬ ((3:Int)=1) from by decide,show ¬ ((3:Int)=2) from by decide,if_false];rfl
theorem accL_4 {c:List Ac} {o:Rop} {a:Ac} (h:getA c o.frm=some a) (hk:o.kind=4):accL c o=(if kidsA c o.frm≠[] then .error 12 else if o.parts.length<1∨8<o.parts.length then .error 2 else splitL a c [] o.parts (outA c o.frm)):=by
 unfold accL;rw [h];simp only [hk,show ¬ ((4:Int)=0) from by decide,show ¬ ((4:Int)=1) from by decide,show ¬ ((4:Int)=2) from by decide,show ¬ ((4:Int)=3) from by decide,if_false]
theorem recs_setX {α:Type} {enc:α→List Value} {k:Nat} {w:World} {r:Option Addr} {n cap:Nat} {xs:List α} (h:Recs enc k w (.slice r n cap) xs) {X:Nat} (j:Nat) (u:Value) (hne:∀ ad,r=some ad→ad.block≠X):Recs enc k (w.setCell ⟨X,j,none⟩ u) (.slice r n cap) xs:=by
 rcases h with h | ⟨g,off,cp,h1,h2,h3,h4,h5⟩
 ·exact .inl h
 ·have hg:g≠X:=by
   cases h1
   exact hne _ rfl
  refine .inr ⟨g,off,cp,h1,by simpa [World.setCell] using h2,h3,h4,fun i x hx l v hv=>?_⟩
  have e:=World.cell?_of_block (w:=w) (w':=w.setCell ⟨X,j,none⟩ u) (a:=⟨g,off+i * k+l,none⟩) (Below.heap_setCell w ⟨X,j,none⟩ u g hg)
  rw [e]
  exact h5 i x hx l v hv
theorem own_apart {w:World} {base n cap X size:Nat} {e:TypeId} {r:Option Addr} {xs:List Value} (h:w.ownsRow base e size (.slice r n cap) n xs) (hne:some X≠(Value.slice r n cap).ownBlock):∀ ad,r=some ad→ad.block≠X:=by
 intro ad e1 e2
 rcases h.2 with ⟨h0,_⟩ | ⟨g,cp,cur,h1,_⟩
 ·cases h0
  cases e1
 ·cases h1
  cases e1
  exact hne (by rw [← e2];rfl)
theorem slice_toP (a:Addr) (n cap i:Nat) (hc:i<cap) (w:World) :
 (Instr.slice 47 (.slice (some a) n cap) none (some (.int .i64 (i:Int))) none).run Tryz.prog w = .ok (.slice (some a) i cap) w:=by
 have hu:Tryz.prog.underlying 47=some (.slice (Tryz.prog.elem 47)):=by kernel_rfl
 have hs:(sizeOf (Tryz.prog.elem 47)).run Tryz.prog w = .ok 2 w:=by kernel_rfl
 rw [run_slice_h w 47 (some a) n cap hu .i64 (i:Int) (by omega) (by omega),hs]
 simp only [Result.andThen_ok,sliced,Int.toNat_natCast]
 rw [if_neg (by omega)]
 simp [Addr.add]
theorem any_get (c:List Ac) (n:Nat):c.any (fun a=>a.code == n)=(getA c n).isSome:=by
 rw [Bool.eq_iff_iff]
 unfold getA
 simp [List.find?_isSome]
theorem any_part (l:List (Nat × Int)) (n:Nat):l.any (fun a=>a.1 == n)=decide (n ∈ l.map (·.1)):=by
 rw [Bool.eq_iff_iff]
 simp
theorem accounts_l (c:List Ac) (v:Value) (o:Rop) (vP vO:Value) (pos:Int) (w:World) (hR:Recs cc 4 w v c) (hr:RiseA c) (hl:c.length≤300) (hP:Recs ptz 2 w vP o.parts) (hpl:o.parts.length≤1000) (hk:0≤o.kind∧o.kind≤4) :
 Calls Tryz.prog 38 #[v,ropV o vP vO pos] w fun e w'=>AccR w' e (accF c o)∧Below w.heap.size w w':=by
 obtain ⟨i0,hi,hz0,hz1,hz2⟩:=info_parts info35
 obtain ⟨AF,hAF⟩:∃ r,accF c o=r:=⟨_,rfl⟩
 rw [hAF]
 rw [← accL_eq] at hAF
 have HAF:=Lib.hid hAF
 have HRI:=Lib.hid hr
 unfold ropV
 obtain ⟨kd,fr,tt,nm,ps,ss,en,y1,y2,y3,y4,y5,y6,y7⟩:=o
 simp only at hP hpl hk ⊢
 obtain ⟨r0,c0,rfl,hc0⟩:=cap_of hR
 obtain ⟨N,hN⟩:∃ n,c.length=n:=⟨_,rfl⟩
 have HL:=Lib.hid hN
 rw [hN] at hR hl hc0 ⊢
 have HR0:=Lib.hid hR
 have HP0:=Lib.hid hP
 have HK:=Lib.hid hk
 have HPL:=Lib.hid hpl
 clear hR hr hN hAF hP hk hpl
 have hB0:=(Below.refl w.heap.size w).alloc (Nat.le_refl _) (.cells #[.int .i64 kd,.int .u32 (fr:Int),.int .u32 (tt:Int),.string nm,vP,vO,.int .i32 en,.int .i64 pos] 49)
 have hG:=HBox.new w [.int .i64 kd,.int .u32 (fr:Int),.int .u32 (tt:Int),.string nm,vP,vO,.int .i32 en,.int .i64 pos] 49
 change HBox (w.alloc (.cells #[.int .i64 kd,.int .u32 (fr:Int),.int .u32 (tt:Int),.string nm,vP,vO,.int .i32 en,.int .i64 pos] 49)) _ _ _ at hG
 have hs0:(w.alloc (.cells #[.int .i64 kd,.int .u32 (fr:Int),.int .u32 (tt:Int),.string nm,vP,vO,.int .i32 en,.int .i64 pos] 49)).heap.size=w.heap.size+1:=by simp
 go_enter Tryz.func38,Tryz.ntmps38
 go_upto_region 1 with fail
 generalize w.alloc (.cells #[.int .i64 kd,.int .u32 (fr:Int),.int .u32 (tt:Int),.string nm,vP,vO,.int .i32 en,.int .i64 pos] 49)=W1 at *
 obtain ⟨G,hGG⟩:∃ G,w.heap.size=G:=⟨_,rfl⟩
 rw [hGG] at hG hs0 ⊢
 have HGG:=Lib.hid hGG
 have HB1:Hid (Below w.heap.size w W1):=hB0
 have HG1:=Lib.hid hG
 have HS1:=Lib.hid hs0
 clear hB0 hG hs0 hGG
 go_wp2_with fail
 obtain ⟨B,hBB⟩:∃ B,W1.heap.size=B:=⟨_,rfl⟩
 have HBB:=Lib.hid hBB
 have HBG:Hid (B=G+1):=Lib.hid (by rw [← hBB];exact HS1.out)
 clear hBB
 go_loopw [6,7,8,9,10,11,19] (fun s6 s7 s8 s9 s10 s11 vi wr=>∃ (k m kn:Nat) (r:Option Addr) (cap:Nat) (z6 z7:Int),s6 = .int .i64 z6∧s7 = .int .i64 z7∧s8 = .int .i64 (kn:Int)∧s9 = .slice r m cap∧vi = .int .i64 k∧k≤N∧m≤k∧kn≤k∧Hid (wr.ownsRow B 82 4 (.slice r m cap) m ((outA (c.take k) fr).flatMap cc))∧Hid ((outA (c.take k) fr).length=m∧z6=atF c fr k∧z7=atF c tt k∧kn=kidN c fr k)∧Hid (Below B W1 wr)) (fun _ _ _ _ _ _ i _=>N-(intOf i).toNat)
 case atStart=>exact ⟨0,0,0,none,0, -1, -1,rfl,rfl,rfl,rfl,rfl,Nat.zero_le _,Nat.zero_le _,Nat.zero_le _,World.ownsRow_nil _ _ _ _,⟨rfl,rfl,rfl,rfl⟩,Lib.hid (Below.refl _ _)⟩
 case round =>
  obtain ⟨k,m,kn,r,cap,z6,z7,rfl,rfl,rfl,rfl,rfl,hk,hmk,hkk,HO,HC,HB⟩:=hrel
  rename World=>wr
  have hBW:w.heap.size≤B:=by have:=HBG.out;have:=HGG.out;omega
  have HBr:=Lib.hid (HB1.out.trans (HB.out.mono hBW))
  have HGr:=Lib.hid (HG1.out.stayA HB.out (by have:=HBG.out;omega))
  have hbs:B≤wr.heap.size:=Nat.le_trans (by have:=HBB.out;omega) HB.out.size
  by_cases hlt:k<N
  ·obtain ⟨x,hx⟩:∃ x,c[k]?=some x:=⟨c[k]'(by have:=HL.out;omega),List.getElem?_eq_getElem (by have:=HL.out;omega)⟩
   obtain ⟨g,off,rfl,hg,hcx⟩:=(HR0.out.stay HBr.out).at hx
   have HS1:=Lib.hid (outA_one (n:=fr) hx)
   have HS2:=Lib.hid (atF_step (n:=fr) hx)
   have HS3:=Lib.hid (atF_step (n:=tt) hx)
   have HS4:=Lib.hid (kidN_step (n:=fr) hx)
   obtain ⟨xc,xn,xk,xp,v1,v2,v3,v4⟩:=x
   simp only at HS1 HS2 HS3 HS4
   have d0:=hcx 0 _ rfl
   have d1:=hcx 1 _ rfl
   have d2:=hcx 2 _ rfl
   have d3:=hcx 3 _ rfl
   rw [Nat.add_zero] at d0
   clear hx hcx
   have hq:=HBox.new wr [.int .u32 (xc:Int),.string xn,.int .u8 (xk:Int),.int .u32 (xp:Int)] 82
   change HBox (wr.alloc (.cells #[.int .u32 (xc:Int),.string xn,.int .u8 (xk:Int),.int .u32 (xp:Int)] 82)) _ _ _ at hq
   have hbw:=(Below.refl wr.heap.size wr).alloc (Nat.le_refl _) (.cells #[.int .u32 (xc:Int),.string xn,.int .u8 (xk:Int),.int .u32 (xp:Int)] 82)
   have HO2:=Lib.hid (owns_below HO.out hbw)
   have HB2:=Lib.hid (HB.out.trans (hbw.mono hbs))
   have hG2:=HGr.out.stay hbw
   go_upto_region 6 with fail
   generalize wr.alloc (.cells #[.int .u32 (xc:Int),.string xn,.int .u8 (xk:Int),.int .u32 (xp:Int)] 82)=W2 at *
   obtain ⟨X,hX⟩:∃ X,wr.heap.size=X:=⟨_,rfl⟩
   have HXR:Hid (some X≠(Value.slice r m cap).ownBlock):=Lib.hid (fun e=>by have:=(HO.out.lt X e.symm).2;omega)
   rw [hX] at hq ⊢
   have HQ:=Lib.hid hq
   have hb2:B≤W2.heap.size:=Nat.le_trans hbs hbw.size
   clear d0 d1 d2 d3 hbw HO HB HBr HGr hX hg
   have q0:=hq.cell (j:=0) rfl
   have q1:=hq.cell (j:=1) rfl
   have q2:=hq.cell (j:=2) rfl
   have q3:=hq.cell (j:=3) rfl
   have g1:=hG2.cell (j:=1) rfl
   have g2:=hG2.cell (j:=2) rfl
   have HG2:=Lib.hid hG2
   clear hq hG2
   by_cases hA:xc=fr
   ·have e1:((xc:Int) == (fr:Int))=true:=by rw [hA];exact beq_self_eq_true _
    have HI:=Lib.hid hA
    clear hA
    go_upto_region 9 with fail
    by_cases hT:xc=tt
    ·have e2:((xc:Int) == (tt:Int))=true:=by rw [hT];exact beq_self_eq_true _
     have HJ:=Lib.hid hT
     clear hT
     go_upto_region 11 with fail
     by_cases hM:xp=fr
     ·have e3:((xp:Int) == (fr:Int))=true:=by rw [hM];exact beq_self_eq_true _
      have HM:=Lib.hid hM
      clear hM
      go_wp2_with fail
      go_roundw
      case rel=>exact ⟨k+1,m,kn+1,r,cap,(k:Int),(k:Int),rfl,rfl,by go_num,rfl,by go_num,by omega,by omega,by omega,Lib.hid (by rw [HS1.out,if_pos HI.out];exact HO2.out),Lib.hid ⟨by rw [HS1.out,if_pos HI.out];exact HC.out.1,by rw [HS2.out,if_pos HI.out],by rw [HS3.out,if_pos HJ.out],by rw [HS4.out,if_pos HM.out];have:=HC.out.2.2.2;omega⟩,HB2⟩
      case measure=>simp [intOf];omega
     ·have e3:((xp:Int) == (fr:Int))=false:=by rw [beq_eq_false_iff_ne];omega
      have HM:=Lib.hid hM
      clear hM
      go_wp2_with fail
      go_roundw
      case rel=>exact ⟨k+1,m,kn,r,cap,(k:Int),(k:Int),rfl,rfl,by go_num,rfl,by go_num,by omega,by omega,by omega,Lib.hid (by rw [HS1.out,if_pos HI.out];exact HO2.out),Lib.hid ⟨by rw [HS1.out,if_pos HI.out];exact HC.out.1,by rw [HS2.out,if_pos HI.out],by rw [HS3.out,if_pos HJ.out],by rw [HS4.out,if_neg HM.out];exact HC.out.2.2.2⟩,HB2⟩
      case measure=>simp [intOf];omega
    ·have e2:((xc:Int) == (tt:Int))=false:=by rw [beq_eq_false_iff_ne];omega
     have HJ:=Lib.hid hT
     clear hT
     go_upto_region 11 with fail
     by_cases hM:xp=fr
     ·have e3:((xp:Int) == (fr:Int))=true:=by rw [hM];exact beq_self_eq_true _
      have HM:=Lib.hid hM
      clear hM
      go_wp2_with fail
      go_roundw
      case rel=>exact ⟨k+1,m,kn+1,r,cap,(k:Int),z7,rfl,rfl,by go_num,rfl,by go_num,by omega,by omega,by omega,Lib.hid (by rw [HS1.out,if_pos HI.out];exact HO2.out),Lib.hid ⟨by rw [HS1.out,if_pos HI.out];exact HC.out.1,by rw [HS2.out,if_pos HI.out],by rw [HS3.out,if_neg HJ.out];exact HC.out.2.2.1,by rw [HS4.out,if_pos HM.out];have:=HC.out.2.2.2;omega⟩,HB2⟩
      case measure=>simp [intOf];omega
     ·have e3:((xp:Int) == (fr:Int))=false:=by rw [beq_eq_false_iff_ne];omega
      have HM:=Lib.hid hM
      clear hM
      go_wp2_with fail
      go_roundw
      case rel=>exact ⟨k+1,m,kn,r,cap,(k:Int),z7,rfl,rfl,by go_num,rfl,by go_num,by omega,by omega,by omega,Lib.hid (by rw [HS1.out,if_pos HI.out];exact HO2.out),Lib.hid ⟨by rw [HS1.out,if_pos HI.out];exact HC.out.1,by rw [HS2.out,if_pos HI.out],by rw [HS3.out,if_neg HJ.out];exact HC.out.2.2.1,by rw [HS4.out,if_neg HM.out];exact HC.out.2.2.2⟩,HB2⟩
      case measure=>simp [intOf];omega
   ·have e1:((xc:Int) == (fr:Int))=false:=by rw [beq_eq_false_iff_ne];omega
    have HI:=Lib.hid hA
    clear hA
    have HOL:=Lib.hid HO2.out.lt
    have HNX:Hid (some X≠(Value.slice r m cap).ownBlock):=Lib.hid (HXR.out)
    have HNG:Hid (some G≠(Value.slice r m cap).ownBlock):=Lib.hid (fun e=>by have:=(HOL.out G e.symm).1;have:=HBG.out;omega)
    go_upto_region 9 with (at_builtin;refine wpList_append_own _ rfl (.tmp 30) (.tmp 32) 34 rfl B 82 i0 (.agg #[.int .u32 0,.string ⟨#[]⟩,.int .u8 0,.int .u32 0]) 4 32 Tryz.underlying34 hi hz0 hz1 hz2 rfl (by decide) _ m _ rfl (HO2.out.alloc _) ⟨_,0,none⟩ 1 1 (cc ⟨xc,xn,xk,xp,v1,v2,v3,v4⟩) rfl rfl (cells_new _ (cc ⟨xc,xn,xk,xp,v1,v2,v3,v4⟩) _) (cc_one _) (by unfold maxLen;omega) (by omega) (by simp;omega) ?_;intro v5 w5 hown5 hgrow5 _;have HB5:=Lib.hid ((HB2.out.alloc hb2 _).grown hgrow5 (by simp;omega) (fun j hj=>(HOL.out j hj).1));have HO5:=Lib.hid hown5;have q5:=HQ.out.alloc (.cells #[.int .u32 (xc:Int),.string xn,.int .u8 (xk:Int),.int .u32 (xp:Int)] 82);have hx5:=Lib.hid (show HBox w5 X [.int .u32 (xc:Int),.string xn,.int .u8 (xk:Int),.int .u32 (xp:Int)] 82 from (q5.grown hgrow5 (fun e=>HNX.out e)));have hg5:=Lib.hid ((HG2.out.alloc (.cells #[.int .u32 (xc:Int),.string xn,.int .u8 (xk:Int),.int .u32 (xp:Int)] 82)).grown hgrow5 (fun e=>HNG.out e));obtain ⟨r5,cap5,rfl⟩:=owns_form hown5;clear hgrow5 hown5 q5)
    clear q0 q1 q2 q3 g1 g2
    have q0:=hx5.out.cell (j:=0) rfl
    have q3:=hx5.out.cell (j:=3) rfl
    have g1:=hg5.out.cell (j:=1) rfl
    have g2:=hg5.out.cell (j:=2) rfl
    by_cases hT:xc=tt
    ·have e2:((xc:Int) == (tt:Int))=true:=by rw [hT];exact beq_self_eq_true _
     have HJ:=Lib.hid hT
     clear hT
     go_upto_region 11 with fail
     by_cases hM:xp=fr
     ·have e3:((xp:Int) == (fr:Int))=true:=by rw [hM];exact beq_self_eq_true _
      have HM:=Lib.hid hM
      clear hM
      go_wp2_with fail
      go_roundw
      case rel=>exact ⟨k+1,m+1,kn+1,r5,cap5,z6,(k:Int),rfl,rfl,by go_num,rfl,by go_num,by omega,by omega,by omega,Lib.hid (by rw [HS1.out,if_neg HI.out,flat_snoc];exact HO5.out),Lib.hid ⟨by rw [HS1.out,if_neg HI.out,List.length_append];simp only [List.length_cons,List.length_nil];have:=HC.out.1;omega,by rw [HS2.out,if_neg HI.out];exact HC.out.2.1,by rw [HS3.out,if_pos HJ.out],by rw [HS4.out,if_pos HM.out];have:=HC.out.2.2.2;omega⟩,HB5⟩
      case measure=>simp [intOf];omega
     ·have e3:((xp:Int) == (fr:Int))=false:=by rw [beq_eq_false_iff_ne];omega
      have HM:=Lib.hid hM
      clear hM
      go_wp2_with fail
      go_roundw
      case rel=>exact ⟨k+1,m+1,kn,r5,cap5,z6,(k:Int),rfl,rfl,by go_num,rfl,by go_num,by omega,by omega,by omega,Lib.hid (by rw [HS1.out,if_neg HI.out,flat_snoc];exact HO5.out),Lib.hid ⟨by rw [HS1.out,if_neg HI.out,List.length_append];simp only [List.length_cons,List.length_nil];have:=HC.out.1;omega,by rw [HS2.out,if_neg HI.out];exact HC.out.2.1,by rw [HS3.out,if_pos HJ.out],by rw [HS4.out,if_neg HM.out];exact HC.out.2.2.2⟩,HB5⟩
      case measure=>simp [intOf];omega
    ·have e2:((xc:Int) == (tt:Int))=false:=by rw [beq_eq_false_iff_ne];omega
     have HJ:=Lib.hid hT
     clear hT
     go_upto_region 11 with fail
     by_cases hM:xp=fr
     ·have e3:((xp:Int) == (fr:Int))=true:=by rw [hM];exact beq_self_eq_true _
      have HM:=Lib.hid hM
      clear hM
      go_wp2_with fail
      go_roundw
      case rel=>exact ⟨k+1,m+1,kn+1,r5,cap5,z6,z7,rfl,rfl,by go_num,rfl,by go_num,by omega,by omega,by omega,Lib.hid (by rw [HS1.out,if_neg HI.out,flat_snoc];exact HO5.out),Lib.hid ⟨by rw [HS1.out,if_neg HI.out,List.length_append];simp only [List.length_cons,List.length_nil];have:=HC.out.1;omega,by rw [HS2.out,if_neg HI.out];exact HC.out.2.1,by rw [HS3.out,if_neg HJ.out];exact HC.out.2.2.1,by rw [HS4.out,if_pos HM.out];have:=HC.out.2.2.2;omega⟩,HB5⟩
      case measure=>simp [intOf];omega
     ·have e3:((xp:Int) == (fr:Int))=false:=by rw [beq_eq_false_iff_ne];omega
      have HM:=Lib.hid hM
      clear hM
      go_wp2_with fail
      go_roundw
      case rel=>exact ⟨k+1,m+1,kn,r5,cap5,z6,z7,rfl,rfl,by go_num,rfl,by go_num,by omega,by omega,by omega,Lib.hid (by rw [HS1.out,if_neg HI.out,flat_snoc];exact HO5.out),Lib.hid ⟨by rw [HS1.out,if_neg HI.out,List.length_append];simp only [List.length_cons,List.length_nil];have:=HC.out.1;omega,by rw [HS2.out,if_neg HI.out];exact HC.out.2.1,by rw [HS3.out,if_neg HJ.out];exact HC.out.2.2.1,by rw [HS4.out,if_neg HM.out];exact HC.out.2.2.2⟩,HB5⟩
      case measure=>simp [intOf];omega
  ·obtain rfl:k=N:=by omega
   have hz:¬ (k:Int)<(k:Int):=by omega
   obtain ⟨hlen,hzA,hzT,hkn⟩:=HC.out
   rw [← HL.out] at hzA hzT hkn
   rw [kidN_end] at hkn
   have HLEN:Hid ((outA c fr).length=m):=Lib.hid (by have:=hlen;rw [List.take_of_length_le (by rw [HL.out];exact Nat.le_refl _)] at this;exact this)
   have HOO:Hid (wr.ownsRow B 82 4 (.slice r m cap) m ((outA c fr).flatMap cc)):=Lib.hid (by have:=HO.out;rw [List.take_of_length_le (by rw [HL.out];exact Nat.le_refl _)] at this;exact this)
   clear hlen HC HO
   cases hgf:getA c fr with
   | none =>
    have HE:Hid (AF = .error 8):=Lib.hid (by rw [← HAF.out];unfold accL;simp only [hgf])
    have d1:decide (z6<0)=true:=decide_eq_true (by rw [hzA,atF_none hgf];omega)
    clear hgf hzA hzT hkn
    go_wp2_with fail
    go_ret2
    rw [HE.out]
    exact ⟨rfl,HBr.out⟩
   | some a =>
    obtain ⟨j,hj1,hj2⟩:=atF_some HRI.out hgf
    have hz6:z6=(j:Int):=hzA.trans hj1
    have hjk:j<k:=by have:=(List.getElem?_eq_some_iff.1 hj2).1;have:=HL.out;omega
    subst hz6
    have HGF:=Lib.hid hgf
    have hac:=(getA_some hgf).2
    have HJ1:=Lib.hid hj1
    have HPF:=Lib.hid (atF_same (c:=c) (n:=fr) (m:=tt) (by rw [hgf];rfl))
    have d1:decide ((j:Int)<0)=false:=decide_eq_false (by omega)
    obtain ⟨g,off,rfl,hg,hca⟩:=(HR0.out.stay HBr.out).at hj2
    obtain ⟨ac,an,ak,ap,w1,w2,w3,w4⟩:=a
    simp only at hac
    have HAC:=Lib.hid hac
    have a0:=hca 0 _ rfl
    have a1:=hca 1 _ rfl
    have a2:=hca 2 _ rfl
    have a3:=hca 3 _ rfl
    rw [Nat.add_zero] at a0
    clear hca hj1 hzA hac hgf hj2
    have hQ:=HBox.new wr [.int .u32 (ac:Int),.string an,.int .u8 (ak:Int),.int .u32 (ap:Int)] 82
    change HBox (wr.alloc (.cells #[.int .u32 (ac:Int),.string an,.int .u8 (ak:Int),.int .u32 (ap:Int)] 82)) _ _ _ at hQ
    have hbw:=(Below.refl wr.heap.size wr).alloc (Nat.le_refl _) (.cells #[.int .u32 (ac:Int),.string an,.int .u8 (ak:Int),.int .u32 (ap:Int)] 82)
    have HO2:=Lib.hid (owns_below HOO.out hbw)
    have HB2:=Lib.hid (HB.out.trans (hbw.mono hbs))
    have hG2:=HGr.out.stay hbw
    have hXR:some wr.heap.size≠(Value.slice r m cap).ownBlock:=fun e=>by have:=(HOO.out.lt _ e.symm).2;omega
    go_upto_region 17 with fail
    generalize wr.alloc (.cells #[.int .u32 (ac:Int),.string an,.int .u8 (ak:Int),.int .u32 (ap:Int)] 82)=W2 at *
    obtain ⟨X,hX⟩:∃ X,wr.heap.size=X:=⟨_,rfl⟩
    rw [hX] at hQ hXR ⊢
    have HXR:=Lib.hid hXR
    have hb2:B≤W2.heap.size:=Nat.le_trans hbs hbw.size
    have hbx:B≤X:=by omega
    have HR2:=Lib.hid (HR0.out.stay (HBr.out.trans (hbw.mono (Nat.le_trans hBW hbs))))
    have HP2:=Lib.hid (HP0.out.stay (HBr.out.trans (hbw.mono (Nat.le_trans hBW hbs))))
    have HBw:=Lib.hid (HBr.out.trans (hbw.mono (Nat.le_trans hBW hbs)))
    clear a0 a1 a2 a3 hbw HOO HB HBr HGr hX hg hXR hbs
    have q0:=hQ.cell (j:=0) rfl
    have q1:=hQ.cell (j:=1) rfl
    have q2:=hQ.cell (j:=2) rfl
    have q3:=hQ.cell (j:=3) rfl
    have g0:=hG2.cell (j:=0) rfl
    have g1:=hG2.cell (j:=1) rfl
    have g2:=hG2.cell (j:=2) rfl
    have g3:=hG2.cell (j:=3) rfl
    have g4:=hG2.cell (j:=4) rfl
    have f0:=hQ.frozen 0
    have f1:=hQ.frozen 1
    have f3:=hQ.frozen 3
    have sX:=hQ.size
    have HG2:=Lib.hid hG2
    have HQ:=Lib.hid hQ
    clear hQ hG2
    have HRO:=Lib.hid (recs_of_owns cc_len HO2.out HLEN.out.symm (by omega))
    have HOC:Hid (∀ b ∈ outA c fr,b.code≠fr):=Lib.hid (fun b hb=>outA_code hb)
    have HRR:=Lib.hid (outA_rise HRI.out fr)
    rcases (by have:=HK.out;omega:kd=0∨kd=1∨kd=2∨kd=3∨kd=4) with hkd | hkd | hkd | hkd | hkd
    ·have t0:((kd:Int) == 0)=true:=by rw [hkd];rfl
     cases hgt:getA c tt with
     | some b =>
      obtain ⟨j2,hj3,hj4⟩:=atF_some HRI.out hgt
      have d2:decide (z7 ≥ 0)=true:=decide_eq_true (by rw [hzT,hj3];omega)
      have HE:Hid (AF = .error 7):=Lib.hid (HAF.out.symm.trans (accL_0t (o:=⟨kd,fr,tt,nm,ps,ss,en,y1,y2,y3,y4,y5,y6,y7⟩) HGF.out hkd (by simp only [hgt];rfl)))
      clear hkd hzT hkn hgt hj3 hj4
      go_wp2_with fail
      go_ret2
      rw [HE.out]
      exact ⟨rfl,HBw.out⟩
     | none =>
      have d2:decide (z7 ≥ 0)=false:=decide_eq_false (by rw [hzT,atF_none hgt];omega)
      have HE:Hid (AF = .ok (withA (moveA (outA c fr) fr tt y3) (Ac.re ⟨ac,an,ak,ap,w1,w2,w3,w4⟩ tt y3))):=Lib.hid (HAF.out.symm.trans (accL_0 (o:=⟨kd,fr,tt,nm,ps,ss,en,y1,y2,y3,y4,y5,y6,y7⟩) HGF.out hkd (by simp only [hgt];rfl)))
      have HFR:Hid (∀ b ∈ moveA (outA c fr) fr tt y3,b.code≠tt):=Lib.hid (fun b hb=>by
       obtain ⟨d,hd,rfl⟩:=List.mem_map.1 hb
       have:=getA_no15.1 hgt d (outA_mem hd).1
       split <;> exact this)
      have HMR:=Lib.hid (move_rise (t:=tt) HRR.out fr y3)
      obtain ⟨g9,hg9⟩:∃ g:Ac→Ac,(fun a:Ac=>if a.par=fr then a.to tt y3 else a)=g:=⟨_,rfl⟩
      have HMA:Hid (moveA (outA c fr) fr tt y3=(outA c fr).map g9):=Lib.hid (by rw [← hg9];rfl)
      have HGY:Hid (∀ a:Ac,a.par=fr→cc (g9 a)=(cc a).set 3 (.int .u32 (tt:Int))):=Lib.hid (fun a ha=>by rw [← hg9];simp only [if_pos ha];rfl)
      have HGN:Hid (∀ a:Ac,a.par≠fr→g9 a=a):=Lib.hid (fun a ha=>by rw [← hg9];simp only [if_neg ha])
      obtain ⟨O,hO⟩:∃ l,outA c fr=l:=⟨_,rfl⟩
      have HOE:=Lib.hid hO
      have HLO:Hid (O.length=m):=Lib.hid (by rw [← hO];exact HLEN.out)
      have HOW:Hid (W2.ownsRow B 82 4 (.slice r m cap) m (O.flatMap cc)):=Lib.hid (by rw [← hO];exact HO2.out)
      rw [hO] at HMA
      clear hkd hzT hkn hgt hg9 hO
      go_wp2_with fail
      clear q0 q1 q2 q3 g0 g1 g2 g3 g4 f0 f1 f3
      go_loopw [13,62] (fun s13 vi wr=>∃ i:Nat,vi = .int .i64 (i:Int)∧i≤m∧Hid (wr.ownsRow B 82 4 (.slice r m cap) m (((O.take i).map g9 ++ O.drop i).flatMap cc))∧Hid (HBox wr X [.int .u32 (ac:Int),.string an,.int .u8 (ak:Int),.int .u32 (ap:Int)] 82)∧Hid (Below B W2 wr)) (fun _ i _=>m-(intOf i).toNat)
      case atStart=>exact ⟨0,rfl,Nat.zero_le _,by simpa using HOW,HQ,Lib.hid (Below.refl _ _)⟩
      case round =>
       obtain ⟨i,rfl,him,HOr,HXr,HB⟩:=hrel
       rename World=>wr
       have hbr:B≤wr.heap.size:=Nat.le_trans hb2 HB.out.size
       have hGr:=HG2.out.stayA HB.out (by have:=HBG.out;omega)
       have g1:=hGr.cell (j:=1) rfl
       have g2:=hGr.cell (j:=2) rfl
       have hgs:=hGr.size
       have HGr:=Lib.hid hGr
       clear hGr
       have HBr:=Lib.hid (HBw.out.trans (HB.out.mono hBW))
       by_cases hlt:i<m
       ·obtain ⟨x,hx⟩:∃ x,O[i]?=some x:=⟨O[i]'(by have:=HLO.out;omega),List.getElem?_eq_getElem (by have:=HLO.out;omega)⟩
        have hca:=cur_at g9 hx
        have hcs:=cur_step g9 hx
        have hcl:=cur_len O i g9
        obtain ⟨R0,hr1,hGb,hRX⟩:∃ R0,r=some ⟨R0,0,none⟩∧B≤R0∧R0≠X:=by
         have hx9:=HXR.out
         rcases HOr.out.2 with ⟨h0,h1⟩ | ⟨g',cp,cur,h0,h1,_⟩
         ·omega
         ·cases h0;exact ⟨g',rfl,h1,fun e=>hx9 (by rw [← e];rfl)⟩
        subst hr1
        have hp:=HOr.out.cellAt (i * 4+3) (by omega)
        have hz1:=HOr.out.frozenAt (i * 4+3)
        have hRs:R0<wr.heap.size:=(HOr.out.lt R0 rfl).2
        rw [flat_get cc_len hca (j:=3) (u:=.int .u32 (x.par:Int)) rfl] at hp
        have HST:=Lib.hid ((owns_below HOr.out (Below.refl _ _).drew).stored (i * 4+3) (.int .u32 (tt:Int))).1
        have HFS:Hid (x.par=fr→(((O.take i).map g9 ++ O.drop i).flatMap cc).set (i * 4+3) (.int .u32 (tt:Int))=((O.take (i+1)).map g9 ++ O.drop (i+1)).flatMap cc):=Lib.hid (fun h=>by rw [hcs];exact flat_set cc_len hca (by omega) (HGY.out x h))
        have HFN:Hid (x.par≠fr→((O.take i).map g9 ++ O.drop i)=((O.take (i+1)).map g9 ++ O.drop (i+1))):=Lib.hid (fun h=>by
         rw [hcs,HGN.out x h]
         exact (List.ext_getElem? fun l=>by
          rw [List.getElem?_set]
          by_cases e:i=l
          ·subst e;rw [if_pos rfl,hca];simp [hcl];have:=(List.getElem?_eq_some_iff.1 hx).1;omega
          ·rw [if_neg e]))
        clear hx hca hcs hcl
        go_upto_region 24 with fail
        by_cases hpf:x.par=fr
        ·have hd:((x.par:Int) == (fr:Int))=true:=by rw [hpf];exact beq_self_eq_true _
         have HF1:=Lib.hid (HFS.out hpf)
         clear hpf HFS HFN
         go_region
         go_wp2_with fail
         go_roundw
         case rel=>exact ⟨i+1,by go_num,by omega,Lib.hid (by rw [← HF1.out];exact HST.out),Lib.hid ((HXr.out.stay (Below.refl _ _).drew).grown (grownBy_set _ ⟨R0,i * 4+3,none⟩ _) (fun e=>hRX (Option.some.inj e).symm)),Lib.hid (HB.out.drew.setCell hGb _)⟩
         case measure=>simp [intOf];omega
        ·have hd:((x.par:Int) == (fr:Int))=false:=by rw [beq_eq_false_iff_ne];omega
         have HF1:=Lib.hid (HFN.out hpf)
         clear hpf HFS HFN
         go_region
         go_wp2_with fail
         go_roundw
         case rel=>exact ⟨i+1,by go_num,by omega,Lib.hid (by rw [← HF1.out];exact owns_below HOr.out (Below.refl _ _).drew),Lib.hid (HXr.out.stay (Below.refl _ _).drew),Lib.hid HB.out.drew⟩
         case measure=>simp [intOf];omega
       ·have hz:¬ (i:Int)<(m:Int):=by omega
        obtain rfl:i=m:=by omega
        have HLM:Hid ((O.take i).map g9 ++ O.drop i=moveA (outA c fr) fr tt y3):=Lib.hid (by rw [HOE.out,HMA.out,List.take_of_length_le (by have:=HLO.out;omega),List.drop_eq_nil_of_le (by have:=HLO.out;omega),List.append_nil])
        have HOM:Hid (wr.ownsRow B 82 4 (.slice r i cap) i ((moveA (outA c fr) fr tt y3).flatMap cc)):=Lib.hid (by rw [← HLM.out];exact HOr.out)
        have HLL:Hid ((moveA (outA c fr) fr tt y3).length=i):=Lib.hid (by rw [mvA_len];exact HLEN.out)
        have x0:=HXr.out.cell (j:=0) rfl
        have xf0:=HXr.out.frozen 0
        have xs0:=HXr.out.size
        go_upto_region 28 with fail
        have h4:=HXr.out.set 0 (.int .u32 (tt:Int))
        change HBox _ X [.int .u32 (tt:Int),.string an,.int .u8 (ak:Int),.int .u32 (ap:Int)] _ at h4
        have hb4:=HBr.out.setCell (p:=⟨X,0,none⟩) (by show w.heap.size≤X;omega) (.int .u32 (tt:Int))
        have hr4:=recs_of_owns cc_len (HOM.out.kept (grownBy_set wr ⟨X,0,none⟩ (.int .u32 (tt:Int))) (.inr (fun e=>HXR.out e.symm))) HLL.out.symm (by omega)
        generalize wr.setCell ⟨X,0,none⟩ (.int .u32 (tt:Int))=W4 at *
        have HB4:=Lib.hid hb4
        have KP:=Lib.hid (put_c (moveA (outA c fr) fr tt y3) (Ac.re ⟨ac,an,ak,ap,w1,w2,w3,w4⟩ tt y3) _ W4 hr4 HMR.out HFR.out (by have:=HLL.out;omega))
        unfold cv at KP
        clear x0 xf0 xs0 hb4 hr4 g1 g2
        have q0:=h4.cell (j:=0) rfl
        have q1:=h4.cell (j:=1) rfl
        have q2:=h4.cell (j:=2) rfl
        have q3:=h4.cell (j:=3) rfl
        clear h4
        go_wp2_with (go_at_call 62;refine (KP.out).mono ?_;rintro e w5 ⟨r5,n5,c5,rfl, -,hr5,h5⟩;have HR5:=Lib.hid hr5;have HB5:=Lib.hid (HB4.out.trans (h5.mono HB4.out.size));clear hr5 h5)
        go_ret2
        rw [HE.out]
        exact ⟨⟨_,rfl,HR5.out⟩,HB5.out⟩
    ·have t0:((kd:Int) == 0)=false:=by rw [hkd];rfl
     have t1:((kd:Int) == 1)=true:=by rw [hkd];rfl
     have HE:Hid (AF = .ok (withA (outA c fr) (Ac.nm ⟨ac,an,ak,ap,w1,w2,w3,w4⟩ nm y4))):=Lib.hid (HAF.out.symm.trans (accL_1 (o:=⟨kd,fr,tt,nm,ps,ss,en,y1,y2,y3,y4,y5,y6,y7⟩) HGF.out hkd))
     clear hkd
     go_upto_region 31 with fail
     have h4:=HQ.out.set 1 (.string nm)
     change HBox _ X [.int .u32 (ac:Int),.string nm,.int .u8 (ak:Int),.int .u32 (ap:Int)] _ at h4
     have hb4:=HBw.out.setCell (p:=⟨X,1,none⟩) (by show w.heap.size≤X;omega) (.string nm)
     have hr4:=recs_of_owns cc_len (HO2.out.kept (grownBy_set W2 ⟨X,1,none⟩ (.string nm)) (.inr (fun e=>HXR.out e.symm))) HLEN.out.symm (by omega)
     generalize W2.setCell ⟨X,1,none⟩ (.string nm)=W4 at *
     have HB4:=Lib.hid hb4
     have KP:=Lib.hid (put_c (outA c fr) (Ac.nm ⟨ac,an,ak,ap,w1,w2,w3,w4⟩ nm y4) _ W4 hr4 HRR.out (fun b hb=>by have:=HOC.out b hb;have:=HAC.out;show b.code≠ac;omega) (by have:=HLEN.out;omega))
     unfold cv at KP
     clear q0 q1 q2 q3 g0 g1 g2 g3 g4 f0 f1 f3 sX hb4 hr4
     have q0:=h4.cell (j:=0) rfl
     have q1:=h4.cell (j:=1) rfl
     have q2:=h4.cell (j:=2) rfl
     have q3:=h4.cell (j:=3) rfl
     clear h4
     go_wp2_with (go_at_call 62;refine (KP.out).mono ?_;rintro e w5 ⟨r5,n5,c5,rfl, -,hr5,h5⟩;have HR5:=Lib.hid hr5;have HB5:=Lib.hid (HB4.out.trans (h5.mono HB4.out.size));clear hr5 h5)
     go_ret2
     rw [HE.out]
     exact ⟨⟨_,rfl,HR5.out⟩,HB5.out⟩
    ·have t0:((kd:Int) == 0)=false:=by rw [hkd];rfl
     have t1:((kd:Int) == 1)=false:=by rw [hkd];rfl
     have t2:((kd:Int) == 2)=true:=by rw [hkd];rfl
     have HE:Hid (AF = .ok (withA (outA c fr) (Ac.to ⟨ac,an,ak,ap,w1,w2,w3,w4⟩ tt y3))):=Lib.hid (HAF.out.symm.trans (accL_2 (o:=⟨kd,fr,tt,nm,ps,ss,en,y1,y2,y3,y4,y5,y6,y7⟩) HGF.out hkd))
     clear hkd
     go_upto_region 34 with fail
     have h4:=HQ.out.set 3 (.int .u32 (tt:Int))
     change HBox _ X [.int .u32 (ac:Int),.string an,.int .u8 (ak:Int),.int .u32 (tt:Int)] _ at h4
     have hb4:=HBw.out.setCell (p:=⟨X,3,none⟩) (by show w.heap.size≤X;omega) (.int .u32 (tt:Int))
     have hr4:=recs_of_owns cc_len (HO2.out.kept (grownBy_set W2 ⟨X,3,none⟩ (.int .u32 (tt:Int))) (.inr (fun e=>HXR.out e.symm))) HLEN.out.symm (by omega)
     generalize W2.setCell ⟨X,3,none⟩ (.int .u32 (tt:Int))=W4 at *
     have HB4:=Lib.hid hb4
     have KP:=Lib.hid (put_c (outA c fr) (Ac.to ⟨ac,an,ak,ap,w1,w2,w3,w4⟩ tt y3) _ W4 hr4 HRR.out (fun b hb=>by have:=HOC.out b hb;have:=HAC.out;show b.code≠ac;omega) (by have:=HLEN.out;omega))
     unfold cv at KP
     clear q0 q1 q2 q3 g0 g1 g2 g3 g4 f0 f1 f3 sX hb4 hr4
     have q0:=h4.cell (j:=0) rfl
     have q1:=h4.cell (j:=1) rfl
     have q2:=h4.cell (j:=2) rfl
     have q3:=h4.cell (j:=3) rfl
     clear h4
     go_wp2_with (go_at_call 62;refine (KP.out).mono ?_;rintro e w5 ⟨r5,n5,c5,rfl, -,hr5,h5⟩;have HR5:=Lib.hid hr5;have HB5:=Lib.hid (HB4.out.trans (h5.mono HB4.out.size));clear hr5 h5)
     go_ret2
     rw [HE.out]
     exact ⟨⟨_,rfl,HR5.out⟩,HB5.out⟩
    ·have t0:((kd:Int) == 0)=false:=by rw [hkd];rfl
     have t1:((kd:Int) == 1)=false:=by rw [hkd];rfl
     have t2:((kd:Int) == 2)=false:=by rw [hkd];rfl
     have t3:((kd:Int) == 3)=true:=by rw [hkd];rfl
     have HE3:=Lib.hid (HAF.out.symm.trans (accL_3 (o:=⟨kd,fr,tt,nm,ps,ss,en,y1,y2,y3,y4,y5,y6,y7⟩) HGF.out hkd))
     have hjz:((j:Int)=z7) ↔ fr=tt:=by rw [hzT,← HJ1.out];exact HPF.out
     clear hkd
     by_cases hs:fr=tt
     ·have e1:((j:Int) == z7)=true:=by rw [beq_iff_eq];exact hjz.2 hs
      have HE:Hid (AF = .error 16):=Lib.hid (by rw [HE3.out,if_pos hs.symm])
      clear hs hjz hzT hkn
      go_wp2_with fail
      go_ret2
      rw [HE.out]
      exact ⟨rfl,HBw.out⟩
     ·have e1:((j:Int) == z7)=false:=by rw [beq_eq_false_iff_ne];exact fun h=>hs (hjz.1 h)
      have hs':¬ tt=fr:=fun h=>hs h.symm
      cases hgt:getA c tt with
      | none =>
       have HE:Hid (AF = .error 8):=Lib.hid (by rw [HE3.out,if_neg hs'];simp only [hgt])
       have d2:decide (z7<0)=true:=decide_eq_true (by rw [hzT,atF_none hgt];omega)
       clear hs hs' hjz hzT hkn hgt
       go_wp2_with fail
       go_ret2
       rw [HE.out]
       exact ⟨rfl,HBw.out⟩
      | some b =>
       obtain ⟨j2,hj3,hj4⟩:=atF_some HRI.out hgt
       have hz7:z7=(j2:Int):=hzT.trans hj3
       have hjk2:j2<k:=by have:=(List.getElem?_eq_some_iff.1 hj4).1;have:=HL.out;omega
       subst hz7
       have d2:decide ((j2:Int)<0)=false:=decide_eq_false (by omega)
       have HE4:Hid (AF=if b.kind≠ak then .error 9 else if kidsA c fr≠[] then .error 12 else .ok (outA c fr)):=Lib.hid (by rw [HE3.out,if_neg hs'];simp only [hgt])
       obtain ⟨gb,ob,he2,hgb,hcb⟩:=HR2.out.at hj4
       cases he2
       obtain ⟨bc,bn,bk,bp,_,_,_,_⟩:=b
       have b2:=hcb 2 _ rfl
       simp only at HE4
       clear hs hs' hjz hzT hgt hcb hj3 hj4
       go_upto_region 40 with fail
       by_cases hbk:bk=ak
       ·have e2:((bk:Int) != (ak:Int))=false:=by rw [hbk];exact bne_self_eq_false _
        have HE5:Hid (AF=if kidsA c fr≠[] then .error 12 else .ok (outA c fr)):=Lib.hid (by rw [HE4.out,if_neg (by simp [hbk])])
        clear hbk
        go_region
        by_cases hkz:kidsA c fr=[]
        ·have d6:¬ 0<kn:=by rw [hkn,hkz];simp
         have d3:decide ((kn:Int) > 0)=false:=decide_eq_false (by omega)
         have HE:Hid (AF = .ok (outA c fr)):=Lib.hid (by rw [HE5.out,if_neg (by simp [hkz])])
         clear hkz hkn
         go_wp2_with fail
         go_ret2
         rw [HE.out]
         exact ⟨⟨_,rfl,HRO.out.stay (Below.refl _ _).drew⟩,HBw.out.drew⟩
        ·have d6:0<kn:=by have:=List.length_pos_iff.2 hkz;omega
         have d3:decide ((kn:Int) > 0)=true:=decide_eq_true (by omega)
         have HE:Hid (AF = .error 12):=Lib.hid (by rw [HE5.out,if_pos hkz])
         clear hkz hkn
         go_wp2_with fail
         go_ret2
         rw [HE.out]
         exact ⟨rfl,HBw.out.drew⟩
       ·have e2:((bk:Int) != (ak:Int))=true:=by rw [bne_iff_ne];omega
        have HE:Hid (AF = .error 9):=Lib.hid (by rw [HE4.out,if_pos hbk])
        clear hbk hkn
        go_region
        go_wp2_with fail
        go_ret2
        rw [HE.out]
        exact ⟨rfl,HBw.out.drew⟩
    ·have t0:((kd:Int) == 0)=false:=by rw [hkd];rfl
     have t1:((kd:Int) == 1)=false:=by rw [hkd];rfl
     have t2:((kd:Int) == 2)=false:=by rw [hkd];rfl
     have t3:((kd:Int) == 3)=false:=by rw [hkd];rfl
     have HE4:=Lib.hid (HAF.out.symm.trans (accL_4 (o:=⟨kd,fr,tt,nm,ps,ss,en,y1,y2,y3,y4,y5,y6,y7⟩) HGF.out hkd))
     clear hkd
     by_cases hkz:kidsA c fr=[]
     case neg =>
      have d6:0<kn:=by have:=List.length_pos_iff.2 hkz;omega
      have d3:decide ((kn:Int) > 0)=true:=decide_eq_true (by omega)
      have HE:Hid (AF = .error 12):=Lib.hid (by rw [HE4.out,if_pos hkz])
      clear hkz hkn hzT
      go_wp2_with fail
      go_ret2
      rw [HE.out]
      exact ⟨rfl,HBw.out⟩
     case pos =>
      have d6:¬ 0<kn:=by rw [hkn,hkz];simp
      have d3:decide ((kn:Int) > 0)=false:=decide_eq_false (by omega)
      have HE5:=Lib.hid (HE4.out.trans (if_neg (by simp [hkz])))
      simp only at HE5
      clear hkz hkn hzT
      obtain ⟨rp,cp,rfl,hcp⟩:=cap_of HP2.out
      obtain ⟨M,hM⟩:∃ M,ps.length=M:=⟨_,rfl⟩
      have HMM:=Lib.hid hM
      rw [hM] at hcp g4 HP2 HE5 HP0
      clear hM
      by_cases hsz:M<1
      ·have d4:decide ((M:Int)<1)=true:=decide_eq_true (by omega)
       have HE:Hid (AF = .error 2):=Lib.hid (by rw [HE5.out,if_pos (.inl hsz)])
       clear hsz
       go_wp2_with fail
       go_ret2
       rw [HE.out]
       exact ⟨rfl,HBw.out⟩
      ·have d4:decide ((M:Int)<1)=false:=decide_eq_false (by omega)
       by_cases hsy:8<M
       ·have d5:decide ((M:Int) > 8)=true:=decide_eq_true (by omega)
        have HE:Hid (AF = .error 2):=Lib.hid (by rw [HE5.out,if_pos (.inr hsy)])
        clear hsz hsy
        go_wp2_with fail
        go_ret2
        rw [HE.out]
        exact ⟨rfl,HBw.out⟩
       ·have d5:decide ((M:Int) > 8)=false:=decide_eq_false (by omega)
        have HE6:=Lib.hid (HE5.out.trans (if_neg (by omega)))
        have HAP:Hid (∀ ad,r=some ad→ad.block≠X):=Lib.hid (own_apart HO2.out HXR.out)
        have HPx:=HP0
        have HRx:=HR0
        go_wp2_with fail
        have HSX:=Lib.hid sX
        clear q0 q1 q2 q3 g0 g1 g2 g3 g4 f0 f1 f3 sX HE4 HE5 d1 d3 d4 d5 d6 hsz
        go_loopw [9,14,15,16,139] (fun s9 s14 s15 s16 vi wr=>∃ (i mm cap' z:Nat) (rr:Option Addr) (L:List Ac),s9 = .slice rr mm cap'∧vi = .int .i64 (i:Int)∧i≤M∧z<4294967296∧Hid (Recs cc 4 wr (.slice rr mm cap') L)∧Hid (∀ ad,rr=some ad→ad.block≠X)∧Hid (RiseA L∧L.length≤k+i∧(∀ b ∈ L,(getA c b.code).isSome=true∨b.code ∈ (ps.take i).map (·.1))∧AF=splitL ⟨ac,an,ak,ap,w1,w2,w3,w4⟩ c ((ps.take i).map (·.1)) (ps.drop i) L)∧Hid (HBox wr X [.int .u32 (z:Int),.string an,.int .u8 (ak:Int),.int .u32 (ap:Int)] 82)∧Hid (Below X W2 wr)) (fun _ _ _ _ i _=>M-(intOf i).toNat)
        case atStart=>exact ⟨0,m,cap,ac,r,outA c fr,rfl,rfl,Nat.zero_le _,w1,HRO,HAP,Lib.hid ⟨HRR.out,by have:=HLEN.out;omega,fun b hb=>.inl (by rw [getA_mem HRI.out (outA_mem hb).1];rfl),HE6.out⟩,HQ,Lib.hid (Below.refl _ _)⟩
        case round =>
         obtain ⟨i,mm,cap',z,rr,L,rfl,rfl,hi8,hz4,HRL,HAP,HC,HXQ,HB⟩:=hrel
         rename World=>wr
         have hsW:X≤wr.heap.size:=Nat.le_trans (Nat.le_of_lt HSX.out) HB.out.size
         have HBr:=Lib.hid (HBw.out.trans (HB.out.mono (Nat.le_trans hBW hbx)))
         have HGr:=Lib.hid (HG2.out.stayA HB.out (by have:=HBG.out;omega))
         have HPr:=Lib.hid (HPx.out.stay HBr.out)
         have HRr:=Lib.hid (HRx.out.stay HBr.out)
         have hXw:=HXQ.out.size
         by_cases hlt:i<M
         ·obtain ⟨p,hp⟩:∃ p,ps[i]?=some p:=⟨ps[i]'(by have:=HMM.out;omega),List.getElem?_eq_getElem (by have:=HMM.out;omega)⟩
          have hpb:=y5 p (List.mem_of_getElem? hp)
          obtain ⟨gp,op,hrp,hgp,hcell⟩:=HPr.out.at hp
          have hdr:ps.drop i=p :: ps.drop (i+1):=by
           obtain ⟨h1,h2⟩:=List.getElem?_eq_some_iff.1 hp
           rw [List.drop_eq_getElem_cons h1,h2]
          have htk:(ps.take (i+1)).map (·.1)=(ps.take i).map (·.1) ++ [p.1]:=by rw [take_one hp,List.map_append];rfl
          have hS:=HC.out.2.2.2
          rw [hdr] at hS
          have HS:=Lib.hid hS
          have HTK:=Lib.hid htk
          obtain ⟨p1,p2⟩:=p
          simp only at hpb HTK
          have c0:=hcell 0 _ rfl
          have c1:=hcell 1 _ rfl
          rw [Nat.add_zero] at c0
          have HPt:Hid (Recs ptz 2 wr (.slice rp i cp) (ps.take i)):=Lib.hid (by
           have h1:=HPr.out
           rw [hrp] at h1 ⊢
           exact h1.take hgp HMM.out.symm hcp (by omega) i hi8)
          have g4:=HGr.out.cell (j:=4) rfl
          have hb9:=(Below.refl wr.heap.size wr).alloc (Nat.le_refl _) (.cells #[.int .u32 (p1:Int),.int .i64 p2] 94)
          have hQ:=HBox.new wr [.int .u32 (p1:Int),.int .i64 p2] 94
          change HBox (wr.alloc (.cells #[.int .u32 (p1:Int),.int .i64 p2] 94)) _ _ _ at hQ
          clear hcell hp hdr htk hS
          subst hrp
          go_upto_region 52 with fail
          generalize wr.alloc (.cells #[.int .u32 (p1:Int),.int .i64 p2] 94)=W9 at *
          obtain ⟨Q,hQe⟩:∃ Q,wr.heap.size=Q:=⟨_,rfl⟩
          rw [hQe] at hQ ⊢
          have HQ9:=Lib.hid hQ
          have HB9:=Lib.hid (HB.out.trans (hb9.mono hsW))
          have HBr9:=Lib.hid (HBr.out.trans (hb9.mono HBr.out.size))
          have HG9:=Lib.hid (HGr.out.stay hb9)
          have HX9:=Lib.hid (HXQ.out.stay hb9)
          have HRL9:=Lib.hid (HRL.out.stay hb9)
          have HP9:=Lib.hid (HPt.out.stay hb9)
          have HR9:=Lib.hid (HRr.out.stay hb9)
          clear c0 c1 g4 hb9 HB HBr HGr HPr HRr HRL HXQ hgp hQe HPt
          have q0:=hQ.cell (j:=0) rfl
          have q1:=hQ.cell (j:=1) rfl
          clear hQ
          by_cases e1:p1<1
          ·have d1:decide ((p1:Int)<1)=true:=decide_eq_true (by omega)
           have HE:Hid (AF = .error 5):=Lib.hid (by rw [HS.out];unfold splitL;rw [dif_pos (.inl e1)])
           clear e1
           go_wp2_with fail
           go_ret2
           rw [HE.out]
           exact ⟨rfl,HBr9.out⟩
          ·have d1:decide ((p1:Int)<1)=false:=decide_eq_false (by omega)
           by_cases e2:999999<p1
           ·have d2:decide ((p1:Int) > 999999)=true:=decide_eq_true (by omega)
            have HE:Hid (AF = .error 5):=Lib.hid (by rw [HS.out];unfold splitL;rw [dif_pos (.inr (.inl e2))])
            clear e1 e2
            go_wp2_with fail
            go_ret2
            rw [HE.out]
            exact ⟨rfl,HBr9.out⟩
           ·have d2:decide ((p1:Int) > 999999)=false:=decide_eq_false (by omega)
            by_cases e3:p2<1
            ·have d3:decide (p2<1)=true:=decide_eq_true e3
             have HE:Hid (AF = .error 5):=Lib.hid (by rw [HS.out];unfold splitL;rw [dif_pos (.inr (.inr (.inl e3)))])
             clear e1 e2 e3
             go_wp2_with fail
             go_ret2
             rw [HE.out]
             exact ⟨rfl,HBr9.out⟩
            ·have d3:decide (p2<1)=false:=decide_eq_false e3
             by_cases e4:1000000<p2
             ·have d4:decide (p2 > 1000000)=true:=decide_eq_true e4
              have HE:Hid (AF = .error 5):=Lib.hid (by rw [HS.out];unfold splitL;rw [dif_pos (.inr (.inr (.inr e4)))])
              clear e1 e2 e3 e4
              go_wp2_with fail
              go_ret2
              rw [HE.out]
              exact ⟨rfl,HBr9.out⟩
             ·have d4:decide (p2 > 1000000)=false:=decide_eq_false (by omega)
              have HNO:=Lib.hid (show ¬ (p1<1∨999999<p1∨p2<1∨1000000<p2) by omega)
              clear e1 e2 e3 e4
              go_upto_region 54 with fail
              have hA1:=any_get c p1
              have hA2:=any_part (ps.take i) p1
              have KA:=Lib.hid (fun (W:World) (h:Below W9.heap.size W9 W)=>containsfunc_l _ c p1 Q W (HR9.out.stay h) (Nat.lt_of_lt_of_le HQ9.out.size h.size) ((HQ9.out.stay h).cell (j:=0) rfl))
              have KB:=Lib.hid (fun (W:World) (h:Below W9.heap.size W9 W)=>containsfunc_p _ (ps.take i) p1 Q W (HP9.out.stay h) (Nat.lt_of_lt_of_le HQ9.out.size h.size) ((HQ9.out.stay h).cell (j:=0) rfl))
              obtain ⟨A1,hA1e⟩:∃ b,c.any (fun a=>a.code == p1)=b:=⟨_,rfl⟩
              obtain ⟨A2,hA2e⟩:∃ b,(ps.take i).any (fun a=>a.1 == p1)=b:=⟨_,rfl⟩
              rw [hA1e] at hA1 KA
              rw [hA2e] at hA2 KB
              have HA1:=Lib.hid hA1
              have HA2:=Lib.hid hA2
              have hsl:=fun W=>slice_toP ⟨gp,op,none⟩ M cp i (by omega) W
              clear hA1 hA2 hA1e hA2e
              have g4:=HG9.out.cell (j:=4) rfl
              cases A1 with
              | true =>
               have HE:Hid (AF = .error 7):=Lib.hid (by rw [HS.out];unfold splitL;rw [dif_neg HNO.out,if_pos (by rw [← HA1.out];rfl)])
               go_wp2_with (go_at_call 63;refine (KA.out _ (Below.refl _ _)).mono ?_;rintro e wa ⟨rfl,ha⟩;have HBa:=Lib.hid (HBr9.out.trans (ha.mono HBr9.out.size));clear ha)
               go_ret2
               rw [HE.out]
               exact ⟨rfl,HBa.out⟩
              | false =>
               cases A2 with
               | true =>
                have HE:Hid (AF = .error 7):=Lib.hid (by rw [HS.out];unfold splitL;rw [dif_neg HNO.out,if_pos (by rw [← HA2.out];simp)])
                go_wp2_with (first
                 | (go_at_call 65;refine (KB.out _ HBa.out).mono ?_;rintro e wb ⟨rfl,hb⟩;have HBb:=Lib.hid (HBr9.out.trans ((HBa.out.trans (hb.mono HBa.out.size)).mono HBr9.out.size));clear hb)
                 | (go_at_call 63;refine (KA.out _ (Below.refl _ _)).mono ?_;rintro e wa ⟨rfl,ha⟩;have HBa:=Lib.hid ha;have g4a:=(HG9.out.stay ha).cell (j:=4) rfl;clear ha))
                go_ret2
                rw [HE.out]
                exact ⟨rfl,HBb.out⟩
               | false =>
                have hfree:((getA c p1).isSome || decide (p1 ∈ (ps.take i).map (·.1)))=false:=by rw [← HA1.out,← HA2.out];rfl
                have hp1:p1<4294967296:=hpb.1
                have HE:Hid (AF=splitL ⟨ac,an,ak,ap,w1,w2,w3,w4⟩ c ((ps.take (i+1)).map (·.1)) (ps.drop (i+1)) (withA L (Ac.re ⟨ac,an,ak,ap,w1,w2,w3,w4⟩ p1 hp1))):=Lib.hid (by rw [HS.out,HTK.out];conv=>lhs;unfold splitL;rw [dif_neg HNO.out,if_neg (by rw [hfree];simp)])
                have HFR:=Lib.hid (splitL_free (a:=⟨ac,an,ak,ap,w1,w2,w3,w4⟩) (n:=0) (p:=(p1,p2)) hfree HC.out.2.2.1)
                clear hfree
                go_upto_region 58 with (first
                 | (go_at_call 65;refine (KB.out _ HBa.out).mono ?_;rintro e wb ⟨rfl,hb⟩;have HBb:=Lib.hid (HBa.out.trans (hb.mono HBa.out.size));have q0b:=(HQ9.out.stay HBb.out).cell (j:=0) rfl;have xf0:=(HX9.out.stay HBb.out).frozen 0;have xc0:=(HX9.out.stay HBb.out).cell (j:=0) rfl;have xs0:=(HX9.out.stay HBb.out).size;clear hb)
                 | (go_at_call 63;refine (KA.out _ (Below.refl _ _)).mono ?_;rintro e wa ⟨rfl,ha⟩;have HBa:=Lib.hid ha;have g4a:=(HG9.out.stay ha).cell (j:=4) rfl;clear ha))
                have hx10:=(HX9.out.stay HBb.out).set 0 (.int .u32 (p1:Int))
                change HBox _ X [.int .u32 (p1:Int),.string an,.int .u8 (ak:Int),.int .u32 (ap:Int)] _ at hx10
                have hb10:=(HB9.out.trans (HBb.out.mono (Nat.le_trans (Nat.le_of_lt HSX.out) HB9.out.size))).setCell (p:=⟨X,0,none⟩) (Nat.le_refl _) (.int .u32 (p1:Int))
                have hr10:=recs_setX (HRL9.out.stay HBb.out) 0 (.int .u32 (p1:Int)) HAP.out
                generalize wb.setCell ⟨X,0,none⟩ (.int .u32 (p1:Int))=Wx at *
                have HXx:=Lib.hid hx10
                have HBx:=Lib.hid hb10
                have KP:=Lib.hid (put_c L (Ac.re ⟨ac,an,ak,ap,w1,w2,w3,w4⟩ p1 hp1) _ Wx hr10 HC.out.1 HFR.out (by have:=HC.out.2.1;omega))
                unfold cv at KP
                clear xc0 xf0 xs0 q0b q0 q1 hb10 hr10
                have q0:=hx10.cell (j:=0) rfl
                have q1:=hx10.cell (j:=1) rfl
                have q2:=hx10.cell (j:=2) rfl
                have q3:=hx10.cell (j:=3) rfl
                clear hx10
                go_wp2_with (go_at_call 62;refine (KP.out).mono ?_;rintro e w5 ⟨r5,n5,c5,rfl,hk5,hr5,h5⟩;have HK5:=Lib.hid hk5;have HR5:=Lib.hid hr5;have HX5:=Lib.hid (HXx.out.stay h5);have HB5:=Lib.hid (HBx.out.trans (h5.mono (Nat.le_of_lt HXx.out.size)));clear hk5 hr5 h5)
                go_roundw
                case rel=>exact ⟨i+1,n5,c5,p1,r5,withA L (Ac.re ⟨ac,an,ak,ap,w1,w2,w3,w4⟩ p1 hp1),rfl,by go_num,by omega,hp1,HR5,Lib.hid (fun ad e=>by have:=HK5.out ad e;have:=HXx.out.size;omega),Lib.hid ⟨withA_rise HC.out.1 _,by have:=withA_len L (Ac.re ⟨ac,an,ak,ap,w1,w2,w3,w4⟩ p1 hp1);have:=HC.out.2.1;omega,fun b hb=>(withA_mem hb).elim (fun e=>.inr (by rw [HTK.out,e];exact List.mem_append_right _ (List.mem_singleton.2 rfl))) (fun h=>(HC.out.2.2.1 b h).imp id (fun h=>by rw [HTK.out];exact List.mem_append_left _ h)),HE.out⟩,HX5,HB5⟩
                case measure=>simp [intOf];omega
         ·have hz:¬ (i:Int)<(M:Int):=by omega
          have HE:Hid (AF = .ok L):=Lib.hid (by rw [HC.out.2.2.2,List.drop_eq_nil_of_le (by have:=HMM.out;omega)];rfl)
          go_wp2_with fail
          go_ret2
          rw [HE.out]
          exact ⟨⟨_,rfl,HRL.out⟩,HBr.out⟩
theorem HBox.stayC {w w':World} {b B:Nat} {cs:List Value} {T:TypeId} (h:HBox w b cs T) (hb:Below B w w') (hlt:b<B):HBox w' b cs T:=(hb.block b hlt).trans h
def LnR (w':World) (e:Ending):Except Int Fr→Prop
 | .error c=>e = .returned (.tuple #[.agg #[.slice none 0 0,.slice none 0 0,.slice none 0 0,.int .i32 0],.int .i64 c])
 | .ok g=>∃ a1 b1 k1 a2 b2 k2 a3 b3 k3,e = .returned (.tuple #[.agg #[.slice a1 b1 k1,.slice a2 b2 k2,.slice a3 b3 k3,.int .i32 g.E],.int .i64 0])∧FrM g (.slice a1 b1 k1) (.slice a2 b2 k2) (.slice a3 b3 k3) w'
theorem next_ok {f g:Fr} {s:Spn} {o:Rop} (h:doneF f o = .ok g):nextF f s o=if chkA g.C≠0 then .error (chkA g.C) else if chkU g.U≠0 then .error (chkU g.U) else if chkD g.S g.E≠0 then .error (chkD g.S g.E) else if s.out g=true then .error 13 else .ok g:=by
 rw [nextF_eq,h]
 simp only
 unfold chkF
 by_cases h1:chkA g.C=0
 ·by_cases h2:chkU g.U=0
  ·by_cases h3:chkD g.S g.E=0
   ·simp [h1,h2,h3]
   ·simp [h1,h2,h3]
  ·simp [h1,h2]
 ·simp [h1]
theorem next_er {f:Fr} {s:Spn} {o:Rop} {e:Int} (h:doneF f o = .error e):nextF f s o = .error e:=by rw [nextF_eq,h]
theorem cells4 {w:World} {b:Nat} {p q r s:Value} {T:TypeId} (h:HBox w b [p,q,r,s] T):w.cell? ⟨b,0,none⟩=some p∧w.cell? ⟨b,1,none⟩=some q∧w.cell? ⟨b,2,none⟩=some r∧w.cell? ⟨b,3,none⟩=some s:=⟨h.cell (j:=0) rfl,h.cell (j:=1) rfl,h.cell (j:=2) rfl,h.cell (j:=3) rfl⟩
theorem cells3 {w:World} {b:Nat} {p q r:Value} {T:TypeId} (h:HBox w b [p,q,r] T):w.cell? ⟨b,0,none⟩=some p∧w.cell? ⟨b,1,none⟩=some q∧w.cell? ⟨b,2,none⟩=some r:=⟨h.cell (j:=0) rfl,h.cell (j:=1) rfl,h.cell (j:=2) rfl⟩
theorem zbox {w:World} {b:Nat} {p q r s:Value} {T:TypeId} (h:HBox w b [p,q,r,s] T):w.frozen? ⟨b,0,none⟩=false∧w.frozen? ⟨b,1,none⟩=false∧w.frozen? ⟨b,2,none⟩=false∧w.frozen? ⟨b,3,none⟩=false∧b<w.heap.size:=⟨h.frozen 0,h.frozen 1,h.frozen 2,h.frozen 3,h.size⟩
theorem zset {w W:World} {b:Nat} {p q r s:Value} {T:TypeId} (h:HBox W b [p,q,r,s] T) (hb:Below w.heap.size w W) (hlt:w.heap.size≤b) (d0 d1 d2 d3:Value):HBox ((((W.setCell ⟨b,0,none⟩ d0).setCell ⟨b,1,none⟩ d1).setCell ⟨b,2,none⟩ d2).setCell ⟨b,3,none⟩ d3) b [d0,d1,d2,d3] T∧Below w.heap.size w ((((W.setCell ⟨b,0,none⟩ d0).setCell ⟨b,1,none⟩ d1).setCell ⟨b,2,none⟩ d2).setCell ⟨b,3,none⟩ d3) :=
 ⟨h.set4g d0 d1 d2 d3,(((hb.setCell (p:=⟨b,0,none⟩) hlt d0).setCell (p:=⟨b,1,none⟩) hlt d1).setCell (p:=⟨b,2,none⟩) hlt d2).setCell (p:=⟨b,3,none⟩) hlt d3⟩
theorem doneF_7 {f:Fr} {o:Rop} (k:o.kind=7):doneF f o = .ok ⟨f.C,f.U,o.starts,o.en⟩:=by
 unfold doneF;rw [if_neg (by omega),if_neg (by omega),if_pos k]
theorem doneF_x {f:Fr} {o:Rop} (k:o.kind<0∨7<o.kind):doneF f o = .error 9:=by
 unfold doneF;rw [if_neg (by omega),if_neg (by omega),if_neg (by omega)]
theorem doneF_u {f:Fr} {o:Rop} (k:o.kind=5∨o.kind=6):doneF f o=(match unitF f.U o with | .error e=>.error e | .ok u=>.ok ⟨f.C,u,f.S,f.E⟩):=by
 unfold doneF;rw [if_neg (by omega),if_pos k];rfl
theorem doneF_a {f:Fr} {o:Rop} (k:0≤o.kind∧o.kind≤4):doneF f o=(match accF f.C o with | .error e=>.error e | .ok c=>.ok ⟨c,f.U,f.S,f.E⟩):=by
 unfold doneF;rw [if_pos k];rfl
theorem doneE_u {f:Fr} {o:Rop} {e:Int} (k:o.kind=5∨o.kind=6) (h:unitF f.U o = .error e):doneF f o = .error e:=by rw [doneF_u k,h]
theorem doneO_u {f:Fr} {o:Rop} {u:List Nat} (k:o.kind=5∨o.kind=6) (h:unitF f.U o = .ok u):doneF f o = .ok ⟨f.C,u,f.S,f.E⟩:=by rw [doneF_u k,h]
theorem doneE_a {f:Fr} {o:Rop} {e:Int} (k:0≤o.kind∧o.kind≤4) (h:accF f.C o = .error e):doneF f o = .error e:=by rw [doneF_a k,h]
theorem doneO_a {f:Fr} {o:Rop} {c:List Ac} (k:0≤o.kind∧o.kind≤4) (h:accF f.C o = .ok c):doneF f o = .ok ⟨c,f.U,f.S,f.E⟩:=by rw [doneF_a k,h]
theorem lnext_c (f:Fr) (vC vU vS:Value) (s:Spn) (o:Rop) (vP vO:Value) (pos:Int) (w:World) (hI:InI w) (hF:FrM f vC vU vS w) (hk:chkF f=0) (hne:f.C≠[]) (hU:f.U.length≤11) (hM:RopM w o vP vO) (hl:o.starts.length≤100) (hpl:o.parts.length≤1000) :
 Calls Tryz.prog 17 #[frV vC vU vS f.E,spnV s,ropV o vP vO pos] w fun e w'=>LnR w' e (nextF f s o)∧Below w.heap.size w w':=by
 obtain ⟨i0,hi,hz0,hz1,hz2⟩:=info_parts info35
 have hfk:=FrOk.of hk
 obtain ⟨NX,hNX⟩:∃ r,nextF f s o=r:=⟨_,rfl⟩
 rw [hNX]
 have HNX:=Lib.hid hNX
 have HKA:=Lib.hid (fun (x:Value) (W:World) (h:Below w.heap.size w W) (hx:Recs cc 4 W x f.C) (k:0≤o.kind∧o.kind≤4)=>accounts_l f.C x o vP vO pos W hx hfk.riseA (by have:=hfk.lenA;omega) (hM.parts.stay h) hpl k)
 have HKU:=Lib.hid (fun (W:World) (h:Below w.heap.size w W) (k:o.kind=5∨o.kind=6)=>units_l f vC vU vS o vP vO pos W (hF.u.stay h) hfk.riseU hU (fun x hx=>by have:=hfk.units x hx;omega) k)
 have HKC:=Lib.hid (fun (W:World) (x:Value) (c:List Ac) (h:Recs cc 4 W x c)=>lcheckA_c x c W h)
 have HKV:=Lib.hid (fun (W:World) (x:Value) (u:List Nat) (h:Recs uc 1 W x u) (h1:u.length≤100) (h2:∀ y ∈ u,y<65536)=>check_u x u W h (by omega) h2)
 have HKD:=Lib.hid (fun (W:World) (h0:Below w.heap.size w W) (x:Value) (S:List Int) (E:Int) (h:Recs dcl 1 W x S) (h1:S.length≤100) (h2:∀ y ∈ S, -2147483648≤y∧y≤2147483647) (h3 : -2147483648≤E∧E≤2147483647)=>check_c x S E W (hI.stay h0) h h1 h2 h3)
 have HIN:=Lib.hid (fun (g:Fr) (h:doneF f o = .ok g)=>doneF_in hk h hl)
 have HFM:=Lib.hid hF
 have HRM:=Lib.hid hM
 have HNE:=Lib.hid hne
 obtain ⟨r2,n2,c2,rfl⟩:=IsS.of hF.u
 obtain ⟨r3,n3,c3,rfl⟩:=IsS.of hF.s
 obtain ⟨rp,np,cp,rfl⟩:=IsS.of hM.parts
 obtain ⟨rs,ns,cs,rfl⟩:=IsS.of hM.starts
 obtain ⟨NC,hNC⟩:∃ n,f.C.length=n:=⟨_,rfl⟩
 have HNC:=Lib.hid hNC
 obtain ⟨a0,hA0⟩:∃ a,f.C[0]?=some a:=⟨_,List.getElem?_eq_getElem (List.length_pos_iff.2 hne)⟩
 obtain ⟨gc,oc,c1,hvc,hgc,hc1, -⟩:∃ g off cap,vC = .slice (some ⟨g,off,none⟩) f.C.length cap∧g<w.heap.size∧f.C.length≤cap∧True:=by
  rcases hF.c with ⟨r',cap',h1,h2⟩ | ⟨g,off,cap',h1,h2,h3,h4,h5⟩
  ·exact absurd h2 hne
  ·exact ⟨g,off,cap',h1,h2,h4,trivial⟩
 subst hvc
 have HCL:=Lib.hid (show ∀ j u,(f.C.flatMap cc)[j]?=some u→w.cell? ((⟨gc,oc,none⟩:Addr).add j)=some u from fun j u hu=>by
  have e:(⟨gc,oc,none⟩:Addr).add j=⟨gc,oc+j,none⟩:=by unfold Addr.add;split <;> simp_all
  rw [e]
  exact recs_flat cc_len (by omega) hF.c j u hu)
 have HFL:Hid ((f.C.flatMap cc).length=NC * 4):=Lib.hid (by rw [flat_len cc_len,hNC])
 have hl2:=hfk.lenA
 rw [hNC] at hl2 hc1 ⊢
 obtain ⟨E0,hE0⟩:∃ e,f.E=e:=⟨_,rfl⟩
 have HE0:=Lib.hid hE0
 unfold frV ropV at HKU
 rw [hE0,hNC] at HKU
 rw [hE0]
 unfold ropV at HKA
 unfold frV spnV ropV
 obtain ⟨kd,hkd⟩:∃ e,o.kind=e:=⟨_,rfl⟩
 obtain ⟨fr,hfr⟩:∃ e,o.frm=e:=⟨_,rfl⟩
 obtain ⟨tt,htt⟩:∃ e,o.to=e:=⟨_,rfl⟩
 obtain ⟨nm,hnm⟩:∃ e,o.name=e:=⟨_,rfl⟩
 obtain ⟨en,hen⟩:∃ e,o.en=e:=⟨_,rfl⟩
 have HKD0:=Lib.hid hkd
 have HEN:=Lib.hid hen
 rw [hkd,hfr,htt,hnm,hen] at HKA HKU ⊢
 obtain ⟨fi,hfi⟩:∃ e,s.first=e:=⟨_,rfl⟩
 obtain ⟨la,hla⟩:∃ e,s.last=e:=⟨_,rfl⟩
 obtain ⟨so,hso⟩:∃ e,s.some=e:=⟨_,rfl⟩
 have HSO:Hid (∀ g,s.out g=(so && (decide (perI g.S g.E fi<0) || decide (perI g.S g.E la<0)))):=Lib.hid (fun g=>by unfold Spn.out;rw [hfi,hla,hso])
 rw [hfi,hla,hso]
 clear hfi hla hso hkd hfr htt hnm hen hE0 hF hM hNC hNX hI hk hne hl hpl hA0 hgc hfk hU
 have hB0:=((((Below.refl w.heap.size w).alloc (Nat.le_refl _) (.cells #[.slice (some ⟨gc,oc,none⟩) NC c1,.slice r2 n2 c2,.slice r3 n3 c3,.int .i32 E0] 41)).alloc (by simp) (.cells #[.int .i32 fi,.int .i32 la,.bool so] 44)).alloc (by simp;omega) (.cells #[.int .i64 kd,.int .u32 (fr:Int),.int .u32 (tt:Int),.string nm,.slice rp np cp,.slice rs ns cs,.int .i32 en,.int .i64 pos] 49)).alloc (by simp;omega) (.cells #[.slice none 0 0,.slice none 0 0,.slice none 0 0,.int .i32 0] 41)
 have hG:=(((HBox.new w [.slice (some ⟨gc,oc,none⟩) NC c1,.slice r2 n2 c2,.slice r3 n3 c3,.int .i32 E0] 41).alloc (.cells #[.int .i32 fi,.int .i32 la,.bool so] 44)).alloc (.cells #[.int .i64 kd,.int .u32 (fr:Int),.int .u32 (tt:Int),.string nm,.slice rp np cp,.slice rs ns cs,.int .i32 en,.int .i64 pos] 49)).alloc (.cells #[.slice none 0 0,.slice none 0 0,.slice none 0 0,.int .i32 0] 41)
 have hS:=((HBox.new (w.alloc (.cells #[.slice (some ⟨gc,oc,none⟩) NC c1,.slice r2 n2 c2,.slice r3 n3 c3,.int .i32 E0] 41)) [.int .i32 fi,.int .i32 la,.bool so] 44).alloc (.cells #[.int .i64 kd,.int .u32 (fr:Int),.int .u32 (tt:Int),.string nm,.slice rp np cp,.slice rs ns cs,.int .i32 en,.int .i64 pos] 49)).alloc (.cells #[.slice none 0 0,.slice none 0 0,.slice none 0 0,.int .i32 0] 41)
 have hO:=(HBox.new ((w.alloc (.cells #[.slice (some ⟨gc,oc,none⟩) NC c1,.slice r2 n2 c2,.slice r3 n3 c3,.int .i32 E0] 41)).alloc (.cells #[.int .i32 fi,.int .i32 la,.bool so] 44)) [.int .i64 kd,.int .u32 (fr:Int),.int .u32 (tt:Int),.string nm,.slice rp np cp,.slice rs ns cs,.int .i32 en,.int .i64 pos] 49).alloc (.cells #[.slice none 0 0,.slice none 0 0,.slice none 0 0,.int .i32 0] 41)
 have hZ:=HBox.new (((w.alloc (.cells #[.slice (some ⟨gc,oc,none⟩) NC c1,.slice r2 n2 c2,.slice r3 n3 c3,.int .i32 E0] 41)).alloc (.cells #[.int .i32 fi,.int .i32 la,.bool so] 44)).alloc (.cells #[.int .i64 kd,.int .u32 (fr:Int),.int .u32 (tt:Int),.string nm,.slice rp np cp,.slice rs ns cs,.int .i32 en,.int .i64 pos] 49)) [.slice none 0 0,.slice none 0 0,.slice none 0 0,.int .i32 0] 41
 rw [show (w.alloc (.cells #[.slice (some ⟨gc,oc,none⟩) NC c1,.slice r2 n2 c2,.slice r3 n3 c3,.int .i32 E0] 41)).heap.size=w.heap.size+1 by simp] at hS
 rw [show ((w.alloc (.cells #[.slice (some ⟨gc,oc,none⟩) NC c1,.slice r2 n2 c2,.slice r3 n3 c3,.int .i32 E0] 41)).alloc (.cells #[.int .i32 fi,.int .i32 la,.bool so] 44)).heap.size=w.heap.size+1+1 by simp] at hO
 rw [show (((w.alloc (.cells #[.slice (some ⟨gc,oc,none⟩) NC c1,.slice r2 n2 c2,.slice r3 n3 c3,.int .i32 E0] 41)).alloc (.cells #[.int .i32 fi,.int .i32 la,.bool so] 44)).alloc (.cells #[.int .i64 kd,.int .u32 (fr:Int),.int .u32 (tt:Int),.string nm,.slice rp np cp,.slice rs ns cs,.int .i32 en,.int .i64 pos] 49)).heap.size=w.heap.size+1+1+1 by simp] at hZ
 change HBox ((((w.alloc (.cells #[.slice (some ⟨gc,oc,none⟩) NC c1,.slice r2 n2 c2,.slice r3 n3 c3,.int .i32 E0] 41)).alloc (.cells #[.int .i32 fi,.int .i32 la,.bool so] 44)).alloc (.cells #[.int .i64 kd,.int .u32 (fr:Int),.int .u32 (tt:Int),.string nm,.slice rp np cp,.slice rs ns cs,.int .i32 en,.int .i64 pos] 49)).alloc (.cells #[.slice none 0 0,.slice none 0 0,.slice none 0 0,.int .i32 0] 41)) _ _ _ at hG hS hO hZ
 have hs0:((((w.alloc (.cells #[.slice (some ⟨gc,oc,none⟩) NC c1,.slice r2 n2 c2,.slice r3 n3 c3,.int .i32 E0] 41)).alloc (.cells #[.int .i32 fi,.int .i32 la,.bool so] 44)).alloc (.cells #[.int .i64 kd,.int .u32 (fr:Int),.int .u32 (tt:Int),.string nm,.slice rp np cp,.slice rs ns cs,.int .i32 en,.int .i64 pos] 49)).alloc (.cells #[.slice none 0 0,.slice none 0 0,.slice none 0 0,.int .i32 0] 41)).heap.size=w.heap.size+4:=by simp
 go_enter Tryz.func17,Tryz.ntmps17
 go_upto_region 1 with fail
 generalize ((((w.alloc (.cells #[.slice (some ⟨gc,oc,none⟩) NC c1,.slice r2 n2 c2,.slice r3 n3 c3,.int .i32 E0] 41)).alloc (.cells #[.int .i32 fi,.int .i32 la,.bool so] 44)).alloc (.cells #[.int .i64 kd,.int .u32 (fr:Int),.int .u32 (tt:Int),.string nm,.slice rp np cp,.slice rs ns cs,.int .i32 en,.int .i64 pos] 49)).alloc (.cells #[.slice none 0 0,.slice none 0 0,.slice none 0 0,.int .i32 0] 41))=W1 at *
 obtain ⟨G,hGG⟩:∃ G,w.heap.size=G:=⟨_,rfl⟩
 rw [hGG] at hG hS hO hZ hs0 ⊢
 have HGG:=Lib.hid hGG
 have HB1:Hid (Below w.heap.size w W1):=hB0
 have HG1:=Lib.hid hG
 have HS1:=Lib.hid hS
 have HO1:=Lib.hid hO
 have HZ1:=Lib.hid hZ
 clear hB0 hS hO hZ hGG
 have g0:=hG.cell (j:=0) rfl
 have g1:=hG.cell (j:=1) rfl
 have g2:=hG.cell (j:=2) rfl
 have g3:=hG.cell (j:=3) rfl
 clear hG
 go_upto_region 2 with fail
 have hb2:=(Below.refl W1.heap.size W1).alloc (Nat.le_refl _) (.cells #[.slice none 0 0,.slice r2 n2 c2,.slice r3 n3 c3,.int .i32 E0] 41)
 have hN:=HBox.new W1 [.slice none 0 0,.slice r2 n2 c2,.slice r3 n3 c3,.int .i32 E0] 41
 change HBox (W1.alloc (.cells #[.slice none 0 0,.slice r2 n2 c2,.slice r3 n3 c3,.int .i32 E0] 41)) _ _ _ at hN
 have HB2:=Lib.hid (HB1.out.trans (hb2.mono HB1.out.size))
 have hG2:=HG1.out.stay hb2
 have HS2:=Lib.hid (HS1.out.stay hb2)
 have HO2:=Lib.hid (HO1.out.stay hb2)
 have HZ2:=Lib.hid (HZ1.out.stay hb2)
 have hs2:(W1.alloc (.cells #[.slice none 0 0,.slice r2 n2 c2,.slice r3 n3 c3,.int .i32 E0] 41)).heap.size=G+5:=by simp;omega
 generalize W1.alloc (.cells #[.slice none 0 0,.slice r2 n2 c2,.slice r3 n3 c3,.int .i32 E0] 41)=W2 at *
 rw [hs0] at hN
 obtain ⟨X,hX⟩:∃ X,G+4=X:=⟨_,rfl⟩
 rw [hX] at hN ⊢
 have hXG:X=G+4:=hX.symm
 clear g0 g1 g2 g3 hb2 HB1 HG1 HS1 HO1 HZ1 hX hs0
 have g0:=hG2.cell (j:=0) rfl
 have n0:=hN.cell (j:=0) rfl
 have f0:=hN.frozen 0
 have sX:=hN.size
 have HG2:=Lib.hid hG2
 have HN2:=Lib.hid hN
 have HS3:=Lib.hid hs2
 have HXG:=Lib.hid hXG
 clear hG2 hN hs2 hXG
 have HCW:=Lib.hid (show ∀ j u,(f.C.flatMap cc)[j]?=some u→W2.cell? ((⟨gc,oc,none⟩:Addr).add j)=some u from fun j u hu=>by
  have e:(⟨gc,oc,none⟩:Addr).add j=⟨gc,oc+j,none⟩:=by unfold Addr.add;split <;> simp_all
  have h1:=HCL.out j u hu
  rw [e] at h1 ⊢
  rw [HB2.out.cell (p:=⟨gc,oc+j,none⟩) (by
   rcases HFM.out.c with ⟨r',cap',h1,h2⟩ | ⟨g,off,cap',h1,h2,h3,h4,h5⟩
   ·exact absurd h2 HNE.out
   ·cases h1;exact h2)]
  exact h1)
 go_upto_region 3 with (at_builtin;refine wpList_append_own _ rfl (.tmp 16) (.tmp 18) 34 rfl (G+5) 82 i0 (.agg #[.int .u32 0,.string ⟨#[]⟩,.int .u8 0,.int .u32 0]) 4 32 Tryz.underlying34 hi hz0 hz1 hz2 rfl (by decide) _ 0 [] rfl (World.ownsRow_nil _ _ _ _) ⟨gc,oc,none⟩ NC c1 (f.C.flatMap cc) rfl HFL.out HCW.out (flat_one cc_one _) (by unfold maxLen;omega) (by omega) (by rw [HS3.out];exact Nat.le_refl _) ?_;intro v3 w3 ho3 hg3 _;obtain ⟨r1,k1,rfl⟩:=owns_form ho3;have hBn:=((Below.refl (G+5) W2).grown hg3 (by rw [HS3.out];exact Nat.le_refl _) (fun j hj=>by cases hj));have HBn:=Lib.hid hBn;have HO3:=Lib.hid ho3;have n0':=(HN2.out.stayC hBn (by have:=HXG.out;omega)).cell (j:=0) rfl;have f0':=(HN2.out.stayC hBn (by have:=HXG.out;omega)).frozen 0;have sX':=(HN2.out.stayC hBn (by have:=HXG.out;omega)).size;clear ho3 hg3 hBn)
 have hn4:=(HN2.out.stayC HBn.out (by have:=HXG.out;omega)).set 0 (Value.slice r1 NC k1)
 change HBox _ X [.slice r1 NC k1,.slice r2 n2 c2,.slice r3 n3 c3,.int .i32 E0] _ at hn4
 have hG4:=((HG2.out.stayC HBn.out (by omega)).grown (grownBy_set w3 ⟨X,0,none⟩ (Value.slice r1 NC k1)) (fun e=>absurd (show G=X from Option.some.inj e) (by have:=HXG.out;omega)))
 have hS4:=((HS2.out.stayC HBn.out (by omega)).grown (grownBy_set w3 ⟨X,0,none⟩ (Value.slice r1 NC k1)) (fun e=>absurd (show G+1=X from Option.some.inj e) (by have:=HXG.out;omega)))
 have hO4:=((HO2.out.stayC HBn.out (by omega)).grown (grownBy_set w3 ⟨X,0,none⟩ (Value.slice r1 NC k1)) (fun e=>absurd (show G+1+1=X from Option.some.inj e) (by have:=HXG.out;omega)))
 have hZ4:=((HZ2.out.stayC HBn.out (by omega)).grown (grownBy_set w3 ⟨X,0,none⟩ (Value.slice r1 NC k1)) (fun e=>absurd (show G+1+1+1=X from Option.some.inj e) (by have:=HXG.out;omega)))
 have hB4:=(HB2.out.trans (HBn.out.mono (by have:=HGG.out;omega))).setCell (p:=⟨X,0,none⟩) (by show w.heap.size≤X;have:=HGG.out;have:=HXG.out;omega) (Value.slice r1 NC k1)
 have hR4:Recs cc 4 (w3.setCell ⟨X,0,none⟩ (Value.slice r1 NC k1)) (.slice r1 NC k1) f.C:=recs_of_owns cc_len (by have h:=HO3.out.kept (grownBy_set w3 ⟨X,0,none⟩ (Value.slice r1 NC k1)) (.inr (owns_far (m:=X) HO3.out (.inl (show X<G+5 by have:=HXG.out;omega))));simpa using h) HNC.out.symm (by omega)
 change HBox (w3.setCell ⟨X,0,none⟩ (Value.slice r1 NC k1)) _ _ _ at hG4 hS4 hO4 hZ4
 generalize w3.setCell ⟨X,0,none⟩ (Value.slice r1 NC k1)=W4 at *
 have HX4:=Lib.hid hn4
 have HG4:=Lib.hid hG4
 have HS4:=Lib.hid hS4
 have HO4:=Lib.hid hO4
 have HZ4:=Lib.hid hZ4
 have HB4:=Lib.hid hB4
 have HR4:=Lib.hid hR4
 have k0:=hO4.cell (j:=0) rfl
 clear hn4 hG4 hS4 hO4 hZ4 hB4 hR4 HN2 HG2 HS2 HO2 HZ2 HB2 HBn HO3 n0 n0' f0 f0' sX sX' g0 HCW HCL HFL
 have KU4:=Lib.hid (HKU.out W4 HB4.out)
 have KA4:=Lib.hid (HKA.out (.slice r1 NC k1) W4 HB4.out HR4.out)
 go_upto_block 0 with fail
 go_cut [9] (fun s9 wx=>∃ z:Int,s9 = .int .i64 z∧((Hid (z≠0∧NX = .error z)∧Hid (HBox wx (G+1+1+1) [.slice none 0 0,.slice none 0 0,.slice none 0 0,.int .i32 0] 41)∧Hid (Below w.heap.size w wx))∨(z=0 ∧ ∃ (g:Fr) (a1:Option Addr) (b1 k1:Nat) (a2:Option Addr) (b2 k2:Nat) (a3:Option Addr) (b3 k3:Nat),Hid (doneF f o = .ok g)∧Hid (HBox wx X [.slice a1 b1 k1,.slice a2 b2 k2,.slice a3 b3 k3,.int .i32 g.E] 41)∧Hid (HBox wx (G+1) [.int .i32 fi,.int .i32 la,.bool so] 44)∧Hid (HBox wx (G+1+1+1) [.slice none 0 0,.slice none 0 0,.slice none 0 0,.int .i32 0] 41)∧Hid (Below w.heap.size w wx)∧Hid (FrM g (.slice a1 b1 k1) (.slice a2 b2 k2) (.slice a3 b3 k3) wx)∧Hid (Recs dcl 1 w (.slice a3 b3 k3) g.S))))
 case first =>
  rcases (by omega:(kd<0∨7<kd)∨kd=7∨kd=5∨kd=6∨kd=0∨kd=1∨kd=2∨kd=3∨kd=4) with hx | h7 | h5 | h5 | h0 | h0 | h0 | h0 | h0
  ·have u0:((kd:Int) == 0)=false:=by rw [beq_eq_false_iff_ne];omega
   have u1:((kd:Int) == 1)=false:=by rw [beq_eq_false_iff_ne];omega
   have u2:((kd:Int) == 2)=false:=by rw [beq_eq_false_iff_ne];omega
   have u3:((kd:Int) == 3)=false:=by rw [beq_eq_false_iff_ne];omega
   have u4:((kd:Int) == 4)=false:=by rw [beq_eq_false_iff_ne];omega
   have u5:((kd:Int) == 5)=false:=by rw [beq_eq_false_iff_ne];omega
   have u6:((kd:Int) == 6)=false:=by rw [beq_eq_false_iff_ne];omega
   have u7:((kd:Int) == 7)=false:=by rw [beq_eq_false_iff_ne];omega
   have HR:Hid (NX = .error 9):=Lib.hid (HNX.out.symm.trans (next_er (doneF_x (by rw [HKD0.out];exact hx))))
   have HZt:=HZ4
   have HBt:=HB4
   clear hx
   go_wp2_with fail
   go_meet
   exact ⟨9,rfl,.inl ⟨Lib.hid ⟨by decide,HR.out⟩,HZt,HBt⟩⟩
  ·have u0:((kd:Int) == 0)=false:=by rw [beq_eq_false_iff_ne];omega
   have u1:((kd:Int) == 1)=false:=by rw [beq_eq_false_iff_ne];omega
   have u2:((kd:Int) == 2)=false:=by rw [beq_eq_false_iff_ne];omega
   have u3:((kd:Int) == 3)=false:=by rw [beq_eq_false_iff_ne];omega
   have u4:((kd:Int) == 4)=false:=by rw [beq_eq_false_iff_ne];omega
   have u5:((kd:Int) == 5)=false:=by rw [beq_eq_false_iff_ne];omega
   have u6:((kd:Int) == 6)=false:=by rw [beq_eq_false_iff_ne];omega
   have u7:((kd:Int) == 7)=true:=by rw [h7];rfl
   have HDO0:=Lib.hid (doneF_7 (f:=f) (o:=o) (HKD0.out.trans h7))
   have k5:=HO4.out.cell (j:=5) rfl
   have k6:=HO4.out.cell (j:=6) rfl
   have x2:=HX4.out.cell (j:=2) rfl
   have x3:=HX4.out.cell (j:=3) rfl
   have xf2:=HX4.out.frozen 2
   have xf3:=HX4.out.frozen 3
   have xsz:=HX4.out.size
   clear h7
   go_wp2_with fail
   have hx0:=HX4.out
   have hs0:=HS4.out
   have hz0:=HZ4.out
   have hb0:=HB4.out
   have hr5:=(HR4.out.setF hx0 ⟨_,_,_,rfl⟩ ⟨_,_,_,rfl⟩ ⟨_,_,_,rfl⟩ cc_num 2 (.slice rs ns cs)).setF (by have h:=hx0.set 2 (.slice rs ns cs);change HBox _ X [.slice r1 NC k1,.slice r2 n2 c2,.slice rs ns cs,.int .i32 E0] _ at h;exact h) ⟨_,_,_,rfl⟩ ⟨_,_,_,rfl⟩ ⟨_,_,_,rfl⟩ cc_num 3 (.int .i32 en)
   have hx5:=hx0
   have hs5:=hs0
   have hz5:=hz0
   have hb5:=hb0
   have hx6:=hx5.set 2 (.slice rs ns cs)
   change HBox _ X [.slice r1 NC k1,.slice r2 n2 c2,.slice rs ns cs,.int .i32 E0] _ at hx6
   have hs6:=(hs5.grown (grownBy_set W4 ⟨X,2,none⟩ (.slice rs ns cs)) (fun e=>absurd (show G+1=X from Option.some.inj e) (by have:=HXG.out;omega)))
   have hz6:=(hz5.grown (grownBy_set W4 ⟨X,2,none⟩ (.slice rs ns cs)) (fun e=>absurd (show G+1+1+1=X from Option.some.inj e) (by have:=HXG.out;omega)))
   have hb6:=hb5.setCell (p:=⟨X,2,none⟩) (by show w.heap.size≤X;have:=HGG.out;have:=HXG.out;omega) (.slice rs ns cs)
   have hx7:=hx6.set 3 (.int .i32 en)
   change HBox _ X [.slice r1 NC k1,.slice r2 n2 c2,.slice rs ns cs,.int .i32 en] _ at hx7
   have hs7:=(hs6.grown (grownBy_set (W4.setCell ⟨X,2,none⟩ (.slice rs ns cs)) ⟨X,3,none⟩ (.int .i32 en)) (fun e=>absurd (show G+1=X from Option.some.inj e) (by have:=HXG.out;omega)))
   have hz7:=(hz6.grown (grownBy_set (W4.setCell ⟨X,2,none⟩ (.slice rs ns cs)) ⟨X,3,none⟩ (.int .i32 en)) (fun e=>absurd (show G+1+1+1=X from Option.some.inj e) (by have:=HXG.out;omega)))
   have hb7:=hb6.setCell (p:=⟨X,3,none⟩) (by show w.heap.size≤X;have:=HGG.out;have:=HXG.out;omega) (.int .i32 en)
   change HBox ((W4.setCell ⟨X,2,none⟩ (.slice rs ns cs)).setCell ⟨X,3,none⟩ (.int .i32 en)) _ _ _ at hs7 hz7
   generalize ((W4.setCell ⟨X,2,none⟩ (.slice rs ns cs)).setCell ⟨X,3,none⟩ (.int .i32 en))=Wt at *
   clear k5 k6 x2 x3 xf2 xf3 xsz hx0 hs0 hz0 hb0 hx5 hs5 hz5 hb5 hx6 hs6 hz6 hb6
   obtain ⟨g,hg⟩:∃ g:Fr,(⟨f.C,f.U,o.starts,o.en⟩:Fr)=g:=⟨_,rfl⟩
   have hgE:g.E=en:=by rw [← hg];exact HEN.out
   have HDO:Hid (doneF f o = .ok g):=Lib.hid (by rw [HDO0.out,hg])
   have HXt:Hid (HBox Wt X [.slice r1 NC k1,.slice r2 n2 c2,.slice rs ns cs,.int .i32 g.E] 41):=Lib.hid (by rw [hgE];exact hx7)
   have HSt:=Lib.hid hs7
   have HZt:=Lib.hid hz7
   have HBt:=Lib.hid hb7
   have HFt:Hid (FrM g (.slice r1 NC k1) (.slice r2 n2 c2) (.slice rs ns cs) Wt):=Lib.hid (by rw [← hg];exact ⟨hr5,HFM.out.u.stay hb7,HRM.out.starts.stay hb7⟩)
   have HSW:Hid (Recs dcl 1 w (.slice rs ns cs) g.S):=Lib.hid (by rw [← hg];exact HRM.out.starts)
   clear hx7 hs7 hz7 hb7 hr5 hg hgE HX4 HG4 HS4 HO4 HZ4 HB4 HR4 k0 KU4 KA4
   go_meet
   exact ⟨0,rfl,.inr ⟨rfl,g,_,_,_,_,_,_,_,_,_,HDO,HXt,HSt,HZt,HBt,HFt,HSW⟩⟩
  ·have u7:((kd:Int) == 7)=false:=by rw [beq_eq_false_iff_ne];omega
   have u5:((kd:Int) == 5)=true:=by rw [h5];rfl
   have u6:((kd:Int) == 6)=false:=by rw [h5];rfl
   have KV4:=Lib.hid (KU4.out (by omega))
   have HK5:=Lib.hid h5
   clear h5
   have gg0:=HG4.out.cell (j:=0) rfl
   have gg1:=HG4.out.cell (j:=1) rfl
   have gg2:=HG4.out.cell (j:=2) rfl
   have gg3:=HG4.out.cell (j:=3) rfl
   have kk1:=HO4.out.cell (j:=1) rfl
   have kk2:=HO4.out.cell (j:=2) rfl
   have kk3:=HO4.out.cell (j:=3) rfl
   have k4:=HO4.out.cell (j:=4) rfl
   have k5:=HO4.out.cell (j:=5) rfl
   have k6:=HO4.out.cell (j:=6) rfl
   have k7:=HO4.out.cell (j:=7) rfl
   have x0:=HX4.out.cell (j:=0) rfl
   obtain ⟨RR,hRR⟩:∃ r,unitF f.U o=r:=⟨_,rfl⟩
   rw [hRR] at KV4
   have HRR:=Lib.hid hRR
   clear hRR
   cases RR with
   | error c =>
    go_wp2_with (go_at_call 37;refine (KV4.out).mono ?_;rintro e w5 ⟨hr,h5⟩;obtain ⟨xx,zz,rfl,hx9,hS9⟩:=hr.two;obtain ⟨a2,b2,k2,rfl⟩:=hS9;have HW5:=Lib.hid h5;have HV5:=Lib.hid hx9;have xf:=(HX4.out.stay h5).frozen 1;have xc:=(HX4.out.stay h5).cell (j:=1) rfl;have xs:=(HX4.out.stay h5).size;clear hr h5 hx9)
    have hx0:=HX4.out.stay HW5.out
    have hs0:=HS4.out.stay HW5.out
    have hz0:=HZ4.out.stay HW5.out
    have hb0:=HB4.out.trans (HW5.out.mono HB4.out.size)
    have hx5:=hx0
    have hs5:=hs0
    have hz5:=hz0
    have hb5:=hb0
    have hx6:=hx5.set 1 (.slice a2 b2 k2)
    change HBox _ X [.slice r1 NC k1,.slice a2 b2 k2,.slice r3 n3 c3,.int .i32 E0] _ at hx6
    have hs6:=(hs5.grown (grownBy_set w5 ⟨X,1,none⟩ (.slice a2 b2 k2)) (fun e=>absurd (show G+1=X from Option.some.inj e) (by have:=HXG.out;omega)))
    have hz6:=(hz5.grown (grownBy_set w5 ⟨X,1,none⟩ (.slice a2 b2 k2)) (fun e=>absurd (show G+1+1+1=X from Option.some.inj e) (by have:=HXG.out;omega)))
    have hb6:=hb5.setCell (p:=⟨X,1,none⟩) (by show w.heap.size≤X;have:=HGG.out;have:=HXG.out;omega) (.slice a2 b2 k2)
    change HBox (w5.setCell ⟨X,1,none⟩ (.slice a2 b2 k2)) _ _ _ at hs6 hz6
    generalize (w5.setCell ⟨X,1,none⟩ (.slice a2 b2 k2))=Wt at *
    obtain rfl:zz=c:=HV5.out
    have hc0:zz≠0:=unitF_err HRR.out
    have t1:((zz:Int) == 0)=false:=by rw [beq_eq_false_iff_ne];exact hc0
    have t2:((zz:Int) != 0)=true:=by rw [bne_iff_ne];exact hc0
    have HR:Hid (NX = .error zz):=Lib.hid (HNX.out.symm.trans (next_er (doneE_u (by rw [HKD0.out];have:=HK5.out;omega) HRR.out)))
    have HZt:=Lib.hid hz6
    have HBt:=Lib.hid hb6
    clear hx0 hs0 hz0 hb0 hx5 hs5 hz5 hb5 hx6 hs6 hz6 hb6 xf xc xs gg0 gg1 gg2 gg3 k0
    have HC0:=Lib.hid hc0
    clear hc0
    go_meet
    exact ⟨zz,rfl,.inl ⟨Lib.hid ⟨HC0.out,HR.out⟩,HZt,HBt⟩⟩
   | ok u9 =>
    go_wp2_with (go_at_call 37;refine (KV4.out).mono ?_;rintro e w5 ⟨hr,h5⟩;obtain ⟨xx,zz,rfl,hx9,hS9⟩:=hr.two;obtain ⟨a2,b2,k2,rfl⟩:=hS9;have HW5:=Lib.hid h5;have HV5:=Lib.hid hx9;have xf:=(HX4.out.stay h5).frozen 1;have xc:=(HX4.out.stay h5).cell (j:=1) rfl;have xs:=(HX4.out.stay h5).size;clear hr h5 hx9)
    have hx0:=HX4.out.stay HW5.out
    have hs0:=HS4.out.stay HW5.out
    have hz0:=HZ4.out.stay HW5.out
    have hb0:=HB4.out.trans (HW5.out.mono HB4.out.size)
    have hr5:=(HR4.out.stay HW5.out).setF hx0 ⟨_,_,_,rfl⟩ ⟨_,_,_,rfl⟩ ⟨_,_,_,rfl⟩ cc_num 1 (.slice a2 b2 k2)
    have hu5:=(HV5.out.2.2).setF hx0 ⟨_,_,_,rfl⟩ ⟨_,_,_,rfl⟩ ⟨_,_,_,rfl⟩ uc_num 1 (.slice a2 b2 k2)
    have hx5:=hx0
    have hs5:=hs0
    have hz5:=hz0
    have hb5:=hb0
    have hx6:=hx5.set 1 (.slice a2 b2 k2)
    change HBox _ X [.slice r1 NC k1,.slice a2 b2 k2,.slice r3 n3 c3,.int .i32 E0] _ at hx6
    have hs6:=(hs5.grown (grownBy_set w5 ⟨X,1,none⟩ (.slice a2 b2 k2)) (fun e=>absurd (show G+1=X from Option.some.inj e) (by have:=HXG.out;omega)))
    have hz6:=(hz5.grown (grownBy_set w5 ⟨X,1,none⟩ (.slice a2 b2 k2)) (fun e=>absurd (show G+1+1+1=X from Option.some.inj e) (by have:=HXG.out;omega)))
    have hb6:=hb5.setCell (p:=⟨X,1,none⟩) (by show w.heap.size≤X;have:=HGG.out;have:=HXG.out;omega) (.slice a2 b2 k2)
    change HBox (w5.setCell ⟨X,1,none⟩ (.slice a2 b2 k2)) _ _ _ at hs6 hz6
    generalize (w5.setCell ⟨X,1,none⟩ (.slice a2 b2 k2))=Wt at *
    obtain rfl:zz=0:=HV5.out.1
    obtain ⟨g,hg⟩:∃ g:Fr,(⟨f.C,u9,f.S,f.E⟩:Fr)=g:=⟨_,rfl⟩
    have hgE:g.E=E0:=by rw [← hg];exact HE0.out
    have HDO:Hid (doneF f o = .ok g):=Lib.hid (by rw [← hg];exact doneO_u (by rw [HKD0.out];have:=HK5.out;omega) HRR.out)
    have HXt:Hid (HBox Wt X [.slice r1 NC k1,.slice a2 b2 k2,.slice r3 n3 c3,.int .i32 g.E] 41):=Lib.hid (by rw [hgE];exact hx6)
    have HSt:=Lib.hid hs6
    have HZt:=Lib.hid hz6
    have HBt:=Lib.hid hb6
    have HFt:Hid (FrM g (.slice r1 NC k1) (.slice a2 b2 k2) (.slice r3 n3 c3) Wt):=Lib.hid (by rw [← hg];exact ⟨hr5,hu5,HFM.out.s.stay hb6⟩)
    have HSW:Hid (Recs dcl 1 w (.slice r3 n3 c3) g.S):=Lib.hid (by rw [← hg];exact HFM.out.s)
    clear hx0 hs0 hz0 hb0 hx5 hs5 hz5 hb5 hx6 hs6 hz6 hb6 hr5 hu5 hg hgE xf xc xs gg0 gg1 gg2 gg3 k0 HX4 HG4 HS4 HO4 HZ4 HB4 HR4 KU4 KA4
    go_meet
    exact ⟨0,rfl,.inr ⟨rfl,g,_,_,_,_,_,_,_,_,_,HDO,HXt,HSt,HZt,HBt,HFt,HSW⟩⟩
  ·have u7:((kd:Int) == 7)=false:=by rw [beq_eq_false_iff_ne];omega
   have u5:((kd:Int) == 5)=false:=by rw [h5];rfl
   have u6:((kd:Int) == 6)=true:=by rw [h5];rfl
   have KV4:=Lib.hid (KU4.out (by omega))
   have HK5:=Lib.hid h5
   clear h5
   have gg0:=HG4.out.cell (j:=0) rfl
   have gg1:=HG4.out.cell (j:=1) rfl
   have gg2:=HG4.out.cell (j:=2) rfl
   have gg3:=HG4.out.cell (j:=3) rfl
   have kk1:=HO4.out.cell (j:=1) rfl
   have kk2:=HO4.out.cell (j:=2) rfl
   have kk3:=HO4.out.cell (j:=3) rfl
   have k4:=HO4.out.cell (j:=4) rfl
   have k5:=HO4.out.cell (j:=5) rfl
   have k6:=HO4.out.cell (j:=6) rfl
   have k7:=HO4.out.cell (j:=7) rfl
   have x0:=HX4.out.cell (j:=0) rfl
   obtain ⟨RR,hRR⟩:∃ r,unitF f.U o=r:=⟨_,rfl⟩
   rw [hRR] at KV4
   have HRR:=Lib.hid hRR
   clear hRR
   cases RR with
   | error c =>
    go_wp2_with (go_at_call 37;refine (KV4.out).mono ?_;rintro e w5 ⟨hr,h5⟩;obtain ⟨xx,zz,rfl,hx9,hS9⟩:=hr.two;obtain ⟨a2,b2,k2,rfl⟩:=hS9;have HW5:=Lib.hid h5;have HV5:=Lib.hid hx9;have xf:=(HX4.out.stay h5).frozen 1;have xc:=(HX4.out.stay h5).cell (j:=1) rfl;have xs:=(HX4.out.stay h5).size;clear hr h5 hx9)
    have hx0:=HX4.out.stay HW5.out
    have hs0:=HS4.out.stay HW5.out
    have hz0:=HZ4.out.stay HW5.out
    have hb0:=HB4.out.trans (HW5.out.mono HB4.out.size)
    have hx5:=hx0
    have hs5:=hs0
    have hz5:=hz0
    have hb5:=hb0
    have hx6:=hx5.set 1 (.slice a2 b2 k2)
    change HBox _ X [.slice r1 NC k1,.slice a2 b2 k2,.slice r3 n3 c3,.int .i32 E0] _ at hx6
    have hs6:=(hs5.grown (grownBy_set w5 ⟨X,1,none⟩ (.slice a2 b2 k2)) (fun e=>absurd (show G+1=X from Option.some.inj e) (by have:=HXG.out;omega)))
    have hz6:=(hz5.grown (grownBy_set w5 ⟨X,1,none⟩ (.slice a2 b2 k2)) (fun e=>absurd (show G+1+1+1=X from Option.some.inj e) (by have:=HXG.out;omega)))
    have hb6:=hb5.setCell (p:=⟨X,1,none⟩) (by show w.heap.size≤X;have:=HGG.out;have:=HXG.out;omega) (.slice a2 b2 k2)
    change HBox (w5.setCell ⟨X,1,none⟩ (.slice a2 b2 k2)) _ _ _ at hs6 hz6
    generalize (w5.setCell ⟨X,1,none⟩ (.slice a2 b2 k2))=Wt at *
    obtain rfl:zz=c:=HV5.out
    have hc0:zz≠0:=unitF_err HRR.out
    have t1:((zz:Int) == 0)=false:=by rw [beq_eq_false_iff_ne];exact hc0
    have t2:((zz:Int) != 0)=true:=by rw [bne_iff_ne];exact hc0
    have HR:Hid (NX = .error zz):=Lib.hid (HNX.out.symm.trans (next_er (doneE_u (by rw [HKD0.out];have:=HK5.out;omega) HRR.out)))
    have HZt:=Lib.hid hz6
    have HBt:=Lib.hid hb6
    clear hx0 hs0 hz0 hb0 hx5 hs5 hz5 hb5 hx6 hs6 hz6 hb6 xf xc xs gg0 gg1 gg2 gg3 k0
    have HC0:=Lib.hid hc0
    clear hc0
    go_meet
    exact ⟨zz,rfl,.inl ⟨Lib.hid ⟨HC0.out,HR.out⟩,HZt,HBt⟩⟩
   | ok u9 =>
    go_wp2_with (go_at_call 37;refine (KV4.out).mono ?_;rintro e w5 ⟨hr,h5⟩;obtain ⟨xx,zz,rfl,hx9,hS9⟩:=hr.two;obtain ⟨a2,b2,k2,rfl⟩:=hS9;have HW5:=Lib.hid h5;have HV5:=Lib.hid hx9;have xf:=(HX4.out.stay h5).frozen 1;have xc:=(HX4.out.stay h5).cell (j:=1) rfl;have xs:=(HX4.out.stay h5).size;clear hr h5 hx9)
    have hx0:=HX4.out.stay HW5.out
    have hs0:=HS4.out.stay HW5.out
    have hz0:=HZ4.out.stay HW5.out
    have hb0:=HB4.out.trans (HW5.out.mono HB4.out.size)
    have hr5:=(HR4.out.stay HW5.out).setF hx0 ⟨_,_,_,rfl⟩ ⟨_,_,_,rfl⟩ ⟨_,_,_,rfl⟩ cc_num 1 (.slice a2 b2 k2)
    have hu5:=(HV5.out.2.2).setF hx0 ⟨_,_,_,rfl⟩ ⟨_,_,_,rfl⟩ ⟨_,_,_,rfl⟩ uc_num 1 (.slice a2 b2 k2)
    have hx5:=hx0
    have hs5:=hs0
    have hz5:=hz0
    have hb5:=hb0
    have hx6:=hx5.set 1 (.slice a2 b2 k2)
    change HBox _ X [.slice r1 NC k1,.slice a2 b2 k2,.slice r3 n3 c3,.int .i32 E0] _ at hx6
    have hs6:=(hs5.grown (grownBy_set w5 ⟨X,1,none⟩ (.slice a2 b2 k2)) (fun e=>absurd (show G+1=X from Option.some.inj e) (by have:=HXG.out;omega)))
    have hz6:=(hz5.grown (grownBy_set w5 ⟨X,1,none⟩ (.slice a2 b2 k2)) (fun e=>absurd (show G+1+1+1=X from Option.some.inj e) (by have:=HXG.out;omega)))
    have hb6:=hb5.setCell (p:=⟨X,1,none⟩) (by show w.heap.size≤X;have:=HGG.out;have:=HXG.out;omega) (.slice a2 b2 k2)
    change HBox (w5.setCell ⟨X,1,none⟩ (.slice a2 b2 k2)) _ _ _ at hs6 hz6
    generalize (w5.setCell ⟨X,1,none⟩ (.slice a2 b2 k2))=Wt at *
    obtain rfl:zz=0:=HV5.out.1
    obtain ⟨g,hg⟩:∃ g:Fr,(⟨f.C,u9,f.S,f.E⟩:Fr)=g:=⟨_,rfl⟩
    have hgE:g.E=E0:=by rw [← hg];exact HE0.out
    have HDO:Hid (doneF f o = .ok g):=Lib.hid (by rw [← hg];exact doneO_u (by rw [HKD0.out];have:=HK5.out;omega) HRR.out)
    have HXt:Hid (HBox Wt X [.slice r1 NC k1,.slice a2 b2 k2,.slice r3 n3 c3,.int .i32 g.E] 41):=Lib.hid (by rw [hgE];exact hx6)
    have HSt:=Lib.hid hs6
    have HZt:=Lib.hid hz6
    have HBt:=Lib.hid hb6
    have HFt:Hid (FrM g (.slice r1 NC k1) (.slice a2 b2 k2) (.slice r3 n3 c3) Wt):=Lib.hid (by rw [← hg];exact ⟨hr5,hu5,HFM.out.s.stay hb6⟩)
    have HSW:Hid (Recs dcl 1 w (.slice r3 n3 c3) g.S):=Lib.hid (by rw [← hg];exact HFM.out.s)
    clear hx0 hs0 hz0 hb0 hx5 hs5 hz5 hb5 hx6 hs6 hz6 hb6 hr5 hu5 hg hgE xf xc xs gg0 gg1 gg2 gg3 k0 HX4 HG4 HS4 HO4 HZ4 HB4 HR4 KU4 KA4
    go_meet
    exact ⟨0,rfl,.inr ⟨rfl,g,_,_,_,_,_,_,_,_,_,HDO,HXt,HSt,HZt,HBt,HFt,HSW⟩⟩
  ·have u7:((kd:Int) == 7)=false:=by rw [beq_eq_false_iff_ne];omega
   have u5:((kd:Int) == 5)=false:=by rw [beq_eq_false_iff_ne];omega
   have u6:((kd:Int) == 6)=false:=by rw [beq_eq_false_iff_ne];omega
   have u0:((kd:Int) == 0)=true:=by rw [h0];rfl
   have KB4:=Lib.hid (KA4.out (by omega))
   have HK5:=Lib.hid h0
   clear h0
   have gg0:=HG4.out.cell (j:=0) rfl
   have gg1:=HG4.out.cell (j:=1) rfl
   have gg2:=HG4.out.cell (j:=2) rfl
   have gg3:=HG4.out.cell (j:=3) rfl
   have kk1:=HO4.out.cell (j:=1) rfl
   have kk2:=HO4.out.cell (j:=2) rfl
   have kk3:=HO4.out.cell (j:=3) rfl
   have k4:=HO4.out.cell (j:=4) rfl
   have k5:=HO4.out.cell (j:=5) rfl
   have k6:=HO4.out.cell (j:=6) rfl
   have k7:=HO4.out.cell (j:=7) rfl
   have x0:=HX4.out.cell (j:=0) rfl
   obtain ⟨RR,hRR⟩:∃ r,accF f.C o=r:=⟨_,rfl⟩
   rw [hRR] at KB4
   have HRR:=Lib.hid hRR
   clear hRR
   cases RR with
   | error c =>
    go_wp2_with (go_at_call 38;refine (KB4.out).mono ?_;rintro e w5 ⟨hr,h5⟩;obtain ⟨xx,zz,rfl,hx9,hS9⟩:=hr.two;obtain ⟨a1,b1,k9,rfl⟩:=hS9;have HW5:=Lib.hid h5;have HV5:=Lib.hid hx9;have xf:=(HX4.out.stay h5).frozen 0;have xc:=(HX4.out.stay h5).cell (j:=0) rfl;have xs:=(HX4.out.stay h5).size;clear hr h5 hx9)
    have hx0:=HX4.out.stay HW5.out
    have hs0:=HS4.out.stay HW5.out
    have hz0:=HZ4.out.stay HW5.out
    have hb0:=HB4.out.trans (HW5.out.mono HB4.out.size)
    have hx5:=hx0
    have hs5:=hs0
    have hz5:=hz0
    have hb5:=hb0
    have hx6:=hx5.set 0 (.slice a1 b1 k9)
    change HBox _ X [.slice a1 b1 k9,.slice r2 n2 c2,.slice r3 n3 c3,.int .i32 E0] _ at hx6
    have hs6:=(hs5.grown (grownBy_set w5 ⟨X,0,none⟩ (.slice a1 b1 k9)) (fun e=>absurd (show G+1=X from Option.some.inj e) (by have:=HXG.out;omega)))
    have hz6:=(hz5.grown (grownBy_set w5 ⟨X,0,none⟩ (.slice a1 b1 k9)) (fun e=>absurd (show G+1+1+1=X from Option.some.inj e) (by have:=HXG.out;omega)))
    have hb6:=hb5.setCell (p:=⟨X,0,none⟩) (by show w.heap.size≤X;have:=HGG.out;have:=HXG.out;omega) (.slice a1 b1 k9)
    change HBox (w5.setCell ⟨X,0,none⟩ (.slice a1 b1 k9)) _ _ _ at hs6 hz6
    generalize (w5.setCell ⟨X,0,none⟩ (.slice a1 b1 k9))=Wt at *
    obtain rfl:zz=c:=HV5.out
    have hc0:zz≠0:=accF_err HRR.out
    have t1:((zz:Int) == 0)=false:=by rw [beq_eq_false_iff_ne];exact hc0
    have t2:((zz:Int) != 0)=true:=by rw [bne_iff_ne];exact hc0
    have HR:Hid (NX = .error zz):=Lib.hid (HNX.out.symm.trans (next_er (doneE_a (by rw [HKD0.out];have:=HK5.out;omega) HRR.out)))
    have HZt:=Lib.hid hz6
    have HBt:=Lib.hid hb6
    clear hx0 hs0 hz0 hb0 hx5 hs5 hz5 hb5 hx6 hs6 hz6 hb6 xf xc xs gg0 gg1 gg2 gg3 k0
    have HC0:=Lib.hid hc0
    clear hc0
    go_meet
    exact ⟨zz,rfl,.inl ⟨Lib.hid ⟨HC0.out,HR.out⟩,HZt,HBt⟩⟩
   | ok c9 =>
    go_wp2_with (go_at_call 38;refine (KB4.out).mono ?_;rintro e w5 ⟨hr,h5⟩;obtain ⟨xx,zz,rfl,hx9,hS9⟩:=hr.two;obtain ⟨a1,b1,k9,rfl⟩:=hS9;have HW5:=Lib.hid h5;have HV5:=Lib.hid hx9;have xf:=(HX4.out.stay h5).frozen 0;have xc:=(HX4.out.stay h5).cell (j:=0) rfl;have xs:=(HX4.out.stay h5).size;clear hr h5 hx9)
    have hx0:=HX4.out.stay HW5.out
    have hs0:=HS4.out.stay HW5.out
    have hz0:=HZ4.out.stay HW5.out
    have hb0:=HB4.out.trans (HW5.out.mono HB4.out.size)
    have hr5:=(HV5.out.2.2).setF hx0 ⟨_,_,_,rfl⟩ ⟨_,_,_,rfl⟩ ⟨_,_,_,rfl⟩ cc_num 0 (.slice a1 b1 k9)
    have hx5:=hx0
    have hs5:=hs0
    have hz5:=hz0
    have hb5:=hb0
    have hx6:=hx5.set 0 (.slice a1 b1 k9)
    change HBox _ X [.slice a1 b1 k9,.slice r2 n2 c2,.slice r3 n3 c3,.int .i32 E0] _ at hx6
    have hs6:=(hs5.grown (grownBy_set w5 ⟨X,0,none⟩ (.slice a1 b1 k9)) (fun e=>absurd (show G+1=X from Option.some.inj e) (by have:=HXG.out;omega)))
    have hz6:=(hz5.grown (grownBy_set w5 ⟨X,0,none⟩ (.slice a1 b1 k9)) (fun e=>absurd (show G+1+1+1=X from Option.some.inj e) (by have:=HXG.out;omega)))
    have hb6:=hb5.setCell (p:=⟨X,0,none⟩) (by show w.heap.size≤X;have:=HGG.out;have:=HXG.out;omega) (.slice a1 b1 k9)
    change HBox (w5.setCell ⟨X,0,none⟩ (.slice a1 b1 k9)) _ _ _ at hs6 hz6
    generalize (w5.setCell ⟨X,0,none⟩ (.slice a1 b1 k9))=Wt at *
    obtain rfl:zz=0:=HV5.out.1
    obtain ⟨g,hg⟩:∃ g:Fr,(⟨c9,f.U,f.S,f.E⟩:Fr)=g:=⟨_,rfl⟩
    have hgE:g.E=E0:=by rw [← hg];exact HE0.out
    have HDO:Hid (doneF f o = .ok g):=Lib.hid (by rw [← hg];exact doneO_a (by rw [HKD0.out];have:=HK5.out;omega) HRR.out)
    have HXt:Hid (HBox Wt X [.slice a1 b1 k9,.slice r2 n2 c2,.slice r3 n3 c3,.int .i32 g.E] 41):=Lib.hid (by rw [hgE];exact hx6)
    have HSt:=Lib.hid hs6
    have HZt:=Lib.hid hz6
    have HBt:=Lib.hid hb6
    have HFt:Hid (FrM g (.slice a1 b1 k9) (.slice r2 n2 c2) (.slice r3 n3 c3) Wt):=Lib.hid (by rw [← hg];exact ⟨hr5,HFM.out.u.stay hb6,HFM.out.s.stay hb6⟩)
    have HSW:Hid (Recs dcl 1 w (.slice r3 n3 c3) g.S):=Lib.hid (by rw [← hg];exact HFM.out.s)
    clear hx0 hs0 hz0 hb0 hx5 hs5 hz5 hb5 hx6 hs6 hz6 hb6 hr5 hg hgE xf xc xs gg0 gg1 gg2 gg3 k0 HX4 HG4 HS4 HO4 HZ4 HB4 HR4 KU4 KA4
    go_meet
    exact ⟨0,rfl,.inr ⟨rfl,g,_,_,_,_,_,_,_,_,_,HDO,HXt,HSt,HZt,HBt,HFt,HSW⟩⟩
  ·have u7:((kd:Int) == 7)=false:=by rw [beq_eq_false_iff_ne];omega
   have u5:((kd:Int) == 5)=false:=by rw [beq_eq_false_iff_ne];omega
   have u6:((kd:Int) == 6)=false:=by rw [beq_eq_false_iff_ne];omega
   have u0:((kd:Int) == 0)=false:=by rw [h0];rfl
   have u1:((kd:Int) == 1)=true:=by rw [h0];rfl
   have KB4:=Lib.hid (KA4.out (by omega))
   have HK5:=Lib.hid h0
   clear h0
   have gg0:=HG4.out.cell (j:=0) rfl
   have gg1:=HG4.out.cell (j:=1) rfl
   have gg2:=HG4.out.cell (j:=2) rfl
   have gg3:=HG4.out.cell (j:=3) rfl
   have kk1:=HO4.out.cell (j:=1) rfl
   have kk2:=HO4.out.cell (j:=2) rfl
   have kk3:=HO4.out.cell (j:=3) rfl
   have k4:=HO4.out.cell (j:=4) rfl
   have k5:=HO4.out.cell (j:=5) rfl
   have k6:=HO4.out.cell (j:=6) rfl
   have k7:=HO4.out.cell (j:=7) rfl
   have x0:=HX4.out.cell (j:=0) rfl
   obtain ⟨RR,hRR⟩:∃ r,accF f.C o=r:=⟨_,rfl⟩
   rw [hRR] at KB4
   have HRR:=Lib.hid hRR
   clear hRR
   cases RR with
   | error c =>
    go_wp2_with (go_at_call 38;refine (KB4.out).mono ?_;rintro e w5 ⟨hr,h5⟩;obtain ⟨xx,zz,rfl,hx9,hS9⟩:=hr.two;obtain ⟨a1,b1,k9,rfl⟩:=hS9;have HW5:=Lib.hid h5;have HV5:=Lib.hid hx9;have xf:=(HX4.out.stay h5).frozen 0;have xc:=(HX4.out.stay h5).cell (j:=0) rfl;have xs:=(HX4.out.stay h5).size;clear hr h5 hx9)
    have hx0:=HX4.out.stay HW5.out
    have hs0:=HS4.out.stay HW5.out
    have hz0:=HZ4.out.stay HW5.out
    have hb0:=HB4.out.trans (HW5.out.mono HB4.out.size)
    have hx5:=hx0
    have hs5:=hs0
    have hz5:=hz0
    have hb5:=hb0
    have hx6:=hx5.set 0 (.slice a1 b1 k9)
    change HBox _ X [.slice a1 b1 k9,.slice r2 n2 c2,.slice r3 n3 c3,.int .i32 E0] _ at hx6
    have hs6:=(hs5.grown (grownBy_set w5 ⟨X,0,none⟩ (.slice a1 b1 k9)) (fun e=>absurd (show G+1=X from Option.some.inj e) (by have:=HXG.out;omega)))
    have hz6:=(hz5.grown (grownBy_set w5 ⟨X,0,none⟩ (.slice a1 b1 k9)) (fun e=>absurd (show G+1+1+1=X from Option.some.inj e) (by have:=HXG.out;omega)))
    have hb6:=hb5.setCell (p:=⟨X,0,none⟩) (by show w.heap.size≤X;have:=HGG.out;have:=HXG.out;omega) (.slice a1 b1 k9)
    change HBox (w5.setCell ⟨X,0,none⟩ (.slice a1 b1 k9)) _ _ _ at hs6 hz6
    generalize (w5.setCell ⟨X,0,none⟩ (.slice a1 b1 k9))=Wt at *
    obtain rfl:zz=c:=HV5.out
    have hc0:zz≠0:=accF_err HRR.out
    have t1:((zz:Int) == 0)=false:=by rw [beq_eq_false_iff_ne];exact hc0
    have t2:((zz:Int) != 0)=true:=by rw [bne_iff_ne];exact hc0
    have HR:Hid (NX = .error zz):=Lib.hid (HNX.out.symm.trans (next_er (doneE_a (by rw [HKD0.out];have:=HK5.out;omega) HRR.out)))
    have HZt:=Lib.hid hz6
    have HBt:=Lib.hid hb6
    clear hx0 hs0 hz0 hb0 hx5 hs5 hz5 hb5 hx6 hs6 hz6 hb6 xf xc xs gg0 gg1 gg2 gg3 k0
    have HC0:=Lib.hid hc0
    clear hc0
    go_meet
    exact ⟨zz,rfl,.inl ⟨Lib.hid ⟨HC0.out,HR.out⟩,HZt,HBt⟩⟩
   | ok c9 =>
    go_wp2_with (go_at_call 38;refine (KB4.out).mono ?_;rintro e w5 ⟨hr,h5⟩;obtain ⟨xx,zz,rfl,hx9,hS9⟩:=hr.two;obtain ⟨a1,b1,k9,rfl⟩:=hS9;have HW5:=Lib.hid h5;have HV5:=Lib.hid hx9;have xf:=(HX4.out.stay h5).frozen 0;have xc:=(HX4.out.stay h5).cell (j:=0) rfl;have xs:=(HX4.out.stay h5).size;clear hr h5 hx9)
    have hx0:=HX4.out.stay HW5.out
    have hs0:=HS4.out.stay HW5.out
    have hz0:=HZ4.out.stay HW5.out
    have hb0:=HB4.out.trans (HW5.out.mono HB4.out.size)
    have hr5:=(HV5.out.2.2).setF hx0 ⟨_,_,_,rfl⟩ ⟨_,_,_,rfl⟩ ⟨_,_,_,rfl⟩ cc_num 0 (.slice a1 b1 k9)
    have hx5:=hx0
    have hs5:=hs0
    have hz5:=hz0
    have hb5:=hb0
    have hx6:=hx5.set 0 (.slice a1 b1 k9)
    change HBox _ X [.slice a1 b1 k9,.slice r2 n2 c2,.slice r3 n3 c3,.int .i32 E0] _ at hx6
    have hs6:=(hs5.grown (grownBy_set w5 ⟨X,0,none⟩ (.slice a1 b1 k9)) (fun e=>absurd (show G+1=X from Option.some.inj e) (by have:=HXG.out;omega)))
    have hz6:=(hz5.grown (grownBy_set w5 ⟨X,0,none⟩ (.slice a1 b1 k9)) (fun e=>absurd (show G+1+1+1=X from Option.some.inj e) (by have:=HXG.out;omega)))
    have hb6:=hb5.setCell (p:=⟨X,0,none⟩) (by show w.heap.size≤X;have:=HGG.out;have:=HXG.out;omega) (.slice a1 b1 k9)
    change HBox (w5.setCell ⟨X,0,none⟩ (.slice a1 b1 k9)) _ _ _ at hs6 hz6
    generalize (w5.setCell ⟨X,0,none⟩ (.slice a1 b1 k9))=Wt at *
    obtain rfl:zz=0:=HV5.out.1
    obtain ⟨g,hg⟩:∃ g:Fr,(⟨c9,f.U,f.S,f.E⟩:Fr)=g:=⟨_,rfl⟩
    have hgE:g.E=E0:=by rw [← hg];exact HE0.out
    have HDO:Hid (doneF f o = .ok g):=Lib.hid (by rw [← hg];exact doneO_a (by rw [HKD0.out];have:=HK5.out;omega) HRR.out)
    have HXt:Hid (HBox Wt X [.slice a1 b1 k9,.slice r2 n2 c2,.slice r3 n3 c3,.int .i32 g.E] 41):=Lib.hid (by rw [hgE];exact hx6)
    have HSt:=Lib.hid hs6
    have HZt:=Lib.hid hz6
    have HBt:=Lib.hid hb6
    have HFt:Hid (FrM g (.slice a1 b1 k9) (.slice r2 n2 c2) (.slice r3 n3 c3) Wt):=Lib.hid (by rw [← hg];exact ⟨hr5,HFM.out.u.stay hb6,HFM.out.s.stay hb6⟩)
    have HSW:Hid (Recs dcl 1 w (.slice r3 n3 c3) g.S):=Lib.hid (by rw [← hg];exact HFM.out.s)
    clear hx0 hs0 hz0 hb0 hx5 hs5 hz5 hb5 hx6 hs6 hz6 hb6 hr5 hg hgE xf xc xs gg0 gg1 gg2 gg3 k0 HX4 HG4 HS4 HO4 HZ4 HB4 HR4 KU4 KA4
    go_meet
    exact ⟨0,rfl,.inr ⟨rfl,g,_,_,_,_,_,_,_,_,_,HDO,HXt,HSt,HZt,HBt,HFt,HSW⟩⟩
  ·have u7:((kd:Int) == 7)=false:=by rw [beq_eq_false_iff_ne];omega
   have u5:((kd:Int) == 5)=false:=by rw [beq_eq_false_iff_ne];omega
   have u6:((kd:Int) == 6)=false:=by rw [beq_eq_false_iff_ne];omega
   have u0:((kd:Int) == 0)=false:=by rw [h0];rfl
   have u1:((kd:Int) == 1)=false:=by rw [h0];rfl
   have u2:((kd:Int) == 2)=true:=by rw [h0];rfl
   have KB4:=Lib.hid (KA4.out (by omega))
   have HK5:=Lib.hid h0
   clear h0
   have gg0:=HG4.out.cell (j:=0) rfl
   have gg1:=HG4.out.cell (j:=1) rfl
   have gg2:=HG4.out.cell (j:=2) rfl
   have gg3:=HG4.out.cell (j:=3) rfl
   have kk1:=HO4.out.cell (j:=1) rfl
   have kk2:=HO4.out.cell (j:=2) rfl
   have kk3:=HO4.out.cell (j:=3) rfl
   have k4:=HO4.out.cell (j:=4) rfl
   have k5:=HO4.out.cell (j:=5) rfl
   have k6:=HO4.out.cell (j:=6) rfl
   have k7:=HO4.out.cell (j:=7) rfl
   have x0:=HX4.out.cell (j:=0) rfl
   obtain ⟨RR,hRR⟩:∃ r,accF f.C o=r:=⟨_,rfl⟩
   rw [hRR] at KB4
   have HRR:=Lib.hid hRR
   clear hRR
   cases RR with
   | error c =>
    go_wp2_with (go_at_call 38;refine (KB4.out).mono ?_;rintro e w5 ⟨hr,h5⟩;obtain ⟨xx,zz,rfl,hx9,hS9⟩:=hr.two;obtain ⟨a1,b1,k9,rfl⟩:=hS9;have HW5:=Lib.hid h5;have HV5:=Lib.hid hx9;have xf:=(HX4.out.stay h5).frozen 0;have xc:=(HX4.out.stay h5).cell (j:=0) rfl;have xs:=(HX4.out.stay h5).size;clear hr h5 hx9)
    have hx0:=HX4.out.stay HW5.out
    have hs0:=HS4.out.stay HW5.out
    have hz0:=HZ4.out.stay HW5.out
    have hb0:=HB4.out.trans (HW5.out.mono HB4.out.size)
    have hx5:=hx0
    have hs5:=hs0
    have hz5:=hz0
    have hb5:=hb0
    have hx6:=hx5.set 0 (.slice a1 b1 k9)
    change HBox _ X [.slice a1 b1 k9,.slice r2 n2 c2,.slice r3 n3 c3,.int .i32 E0] _ at hx6
    have hs6:=(hs5.grown (grownBy_set w5 ⟨X,0,none⟩ (.slice a1 b1 k9)) (fun e=>absurd (show G+1=X from Option.some.inj e) (by have:=HXG.out;omega)))
    have hz6:=(hz5.grown (grownBy_set w5 ⟨X,0,none⟩ (.slice a1 b1 k9)) (fun e=>absurd (show G+1+1+1=X from Option.some.inj e) (by have:=HXG.out;omega)))
    have hb6:=hb5.setCell (p:=⟨X,0,none⟩) (by show w.heap.size≤X;have:=HGG.out;have:=HXG.out;omega) (.slice a1 b1 k9)
    change HBox (w5.setCell ⟨X,0,none⟩ (.slice a1 b1 k9)) _ _ _ at hs6 hz6
    generalize (w5.setCell ⟨X,0,none⟩ (.slice a1 b1 k9))=Wt at *
    obtain rfl:zz=c:=HV5.out
    have hc0:zz≠0:=accF_err HRR.out
    have t1:((zz:Int) == 0)=false:=by rw [beq_eq_false_iff_ne];exact hc0
    have t2:((zz:Int) != 0)=true:=by rw [bne_iff_ne];exact hc0
    have HR:Hid (NX = .error zz):=Lib.hid (HNX.out.symm.trans (next_er (doneE_a (by rw [HKD0.out];have:=HK5.out;omega) HRR.out)))
    have HZt:=Lib.hid hz6
    have HBt:=Lib.hid hb6
    clear hx0 hs0 hz0 hb0 hx5 hs5 hz5 hb5 hx6 hs6 hz6 hb6 xf xc xs gg0 gg1 gg2 gg3 k0
    have HC0:=Lib.hid hc0
    clear hc0
    go_meet
    exact ⟨zz,rfl,.inl ⟨Lib.hid ⟨HC0.out,HR.out⟩,HZt,HBt⟩⟩
   | ok c9 =>
    go_wp2_with (go_at_call 38;refine (KB4.out).mono ?_;rintro e w5 ⟨hr,h5⟩;obtain ⟨xx,zz,rfl,hx9,hS9⟩:=hr.two;obtain ⟨a1,b1,k9,rfl⟩:=hS9;have HW5:=Lib.hid h5;have HV5:=Lib.hid hx9;have xf:=(HX4.out.stay h5).frozen 0;have xc:=(HX4.out.stay h5).cell (j:=0) rfl;have xs:=(HX4.out.stay h5).size;clear hr h5 hx9)
    have hx0:=HX4.out.stay HW5.out
    have hs0:=HS4.out.stay HW5.out
    have hz0:=HZ4.out.stay HW5.out
    have hb0:=HB4.out.trans (HW5.out.mono HB4.out.size)
    have hr5:=(HV5.out.2.2).setF hx0 ⟨_,_,_,rfl⟩ ⟨_,_,_,rfl⟩ ⟨_,_,_,rfl⟩ cc_num 0 (.slice a1 b1 k9)
    have hx5:=hx0
    have hs5:=hs0
    have hz5:=hz0
    have hb5:=hb0
    have hx6:=hx5.set 0 (.slice a1 b1 k9)
    change HBox _ X [.slice a1 b1 k9,.slice r2 n2 c2,.slice r3 n3 c3,.int .i32 E0] _ at hx6
    have hs6:=(hs5.grown (grownBy_set w5 ⟨X,0,none⟩ (.slice a1 b1 k9)) (fun e=>absurd (show G+1=X from Option.some.inj e) (by have:=HXG.out;omega)))
    have hz6:=(hz5.grown (grownBy_set w5 ⟨X,0,none⟩ (.slice a1 b1 k9)) (fun e=>absurd (show G+1+1+1=X from Option.some.inj e) (by have:=HXG.out;omega)))
    have hb6:=hb5.setCell (p:=⟨X,0,none⟩) (by show w.heap.size≤X;have:=HGG.out;have:=HXG.out;omega) (.slice a1 b1 k9)
    change HBox (w5.setCell ⟨X,0,none⟩ (.slice a1 b1 k9)) _ _ _ at hs6 hz6
    generalize (w5.setCell ⟨X,0,none⟩ (.slice a1 b1 k9))=Wt at *
    obtain rfl:zz=0:=HV5.out.1
    obtain ⟨g,hg⟩:∃ g:Fr,(⟨c9,f.U,f.S,f.E⟩:Fr)=g:=⟨_,rfl⟩
    have hgE:g.E=E0:=by rw [← hg];exact HE0.out
    have HDO:Hid (doneF f o = .ok g):=Lib.hid (by rw [← hg];exact doneO_a (by rw [HKD0.out];have:=HK5.out;omega) HRR.out)
    have HXt:Hid (HBox Wt X [.slice a1 b1 k9,.slice r2 n2 c2,.slice r3 n3 c3,.int .i32 g.E] 41):=Lib.hid (by rw [hgE];exact hx6)
    have HSt:=Lib.hid hs6
    have HZt:=Lib.hid hz6
    have HBt:=Lib.hid hb6
    have HFt:Hid (FrM g (.slice a1 b1 k9) (.slice r2 n2 c2) (.slice r3 n3 c3) Wt):=Lib.hid (by rw [← hg];exact ⟨hr5,HFM.out.u.stay hb6,HFM.out.s.stay hb6⟩)
    have HSW:Hid (Recs dcl 1 w (.slice r3 n3 c3) g.S):=Lib.hid (by rw [← hg];exact HFM.out.s)
    clear hx0 hs0 hz0 hb0 hx5 hs5 hz5 hb5 hx6 hs6 hz6 hb6 hr5 hg hgE xf xc xs gg0 gg1 gg2 gg3 k0 HX4 HG4 HS4 HO4 HZ4 HB4 HR4 KU4 KA4
    go_meet
    exact ⟨0,rfl,.inr ⟨rfl,g,_,_,_,_,_,_,_,_,_,HDO,HXt,HSt,HZt,HBt,HFt,HSW⟩⟩
  ·have u7:((kd:Int) == 7)=false:=by rw [beq_eq_false_iff_ne];omega
   have u5:((kd:Int) == 5)=false:=by rw [beq_eq_false_iff_ne];omega
   have u6:((kd:Int) == 6)=false:=by rw [beq_eq_false_iff_ne];omega
   have u0:((kd:Int) == 0)=false:=by rw [h0];rfl
   have u1:((kd:Int) == 1)=false:=by rw [h0];rfl
   have u2:((kd:Int) == 2)=false:=by rw [h0];rfl
   have u3:((kd:Int) == 3)=true:=by rw [h0];rfl
   have KB4:=Lib.hid (KA4.out (by omega))
   have HK5:=Lib.hid h0
   clear h0
   have gg0:=HG4.out.cell (j:=0) rfl
   have gg1:=HG4.out.cell (j:=1) rfl
   have gg2:=HG4.out.cell (j:=2) rfl
   have gg3:=HG4.out.cell (j:=3) rfl
   have kk1:=HO4.out.cell (j:=1) rfl
   have kk2:=HO4.out.cell (j:=2) rfl
   have kk3:=HO4.out.cell (j:=3) rfl
   have k4:=HO4.out.cell (j:=4) rfl
   have k5:=HO4.out.cell (j:=5) rfl
   have k6:=HO4.out.cell (j:=6) rfl
   have k7:=HO4.out.cell (j:=7) rfl
   have x0:=HX4.out.cell (j:=0) rfl
   obtain ⟨RR,hRR⟩:∃ r,accF f.C o=r:=⟨_,rfl⟩
   rw [hRR] at KB4
   have HRR:=Lib.hid hRR
   clear hRR
   cases RR with
   | error c =>
    go_wp2_with (go_at_call 38;refine (KB4.out).mono ?_;rintro e w5 ⟨hr,h5⟩;obtain ⟨xx,zz,rfl,hx9,hS9⟩:=hr.two;obtain ⟨a1,b1,k9,rfl⟩:=hS9;have HW5:=Lib.hid h5;have HV5:=Lib.hid hx9;have xf:=(HX4.out.stay h5).frozen 0;have xc:=(HX4.out.stay h5).cell (j:=0) rfl;have xs:=(HX4.out.stay h5).size;clear hr h5 hx9)
    have hx0:=HX4.out.stay HW5.out
    have hs0:=HS4.out.stay HW5.out
    have hz0:=HZ4.out.stay HW5.out
    have hb0:=HB4.out.trans (HW5.out.mono HB4.out.size)
    have hx5:=hx0
    have hs5:=hs0
    have hz5:=hz0
    have hb5:=hb0
    have hx6:=hx5.set 0 (.slice a1 b1 k9)
    change HBox _ X [.slice a1 b1 k9,.slice r2 n2 c2,.slice r3 n3 c3,.int .i32 E0] _ at hx6
    have hs6:=(hs5.grown (grownBy_set w5 ⟨X,0,none⟩ (.slice a1 b1 k9)) (fun e=>absurd (show G+1=X from Option.some.inj e) (by have:=HXG.out;omega)))
    have hz6:=(hz5.grown (grownBy_set w5 ⟨X,0,none⟩ (.slice a1 b1 k9)) (fun e=>absurd (show G+1+1+1=X from Option.some.inj e) (by have:=HXG.out;omega)))
    have hb6:=hb5.setCell (p:=⟨X,0,none⟩) (by show w.heap.size≤X;have:=HGG.out;have:=HXG.out;omega) (.slice a1 b1 k9)
    change HBox (w5.setCell ⟨X,0,none⟩ (.slice a1 b1 k9)) _ _ _ at hs6 hz6
    generalize (w5.setCell ⟨X,0,none⟩ (.slice a1 b1 k9))=Wt at *
    obtain rfl:zz=c:=HV5.out
    have hc0:zz≠0:=accF_err HRR.out
    have t1:((zz:Int) == 0)=false:=by rw [beq_eq_false_iff_ne];exact hc0
    have t2:((zz:Int) != 0)=true:=by rw [bne_iff_ne];exact hc0
    have HR:Hid (NX = .error zz):=Lib.hid (HNX.out.symm.trans (next_er (doneE_a (by rw [HKD0.out];have:=HK5.out;omega) HRR.out)))
    have HZt:=Lib.hid hz6
    have HBt:=Lib.hid hb6
    clear hx0 hs0 hz0 hb0 hx5 hs5 hz5 hb5 hx6 hs6 hz6 hb6 xf xc xs gg0 gg1 gg2 gg3 k0
    have HC0:=Lib.hid hc0
    clear hc0
    go_meet
    exact ⟨zz,rfl,.inl ⟨Lib.hid ⟨HC0.out,HR.out⟩,HZt,HBt⟩⟩
   | ok c9 =>
    go_wp2_with (go_at_call 38;refine (KB4.out).mono ?_;rintro e w5 ⟨hr,h5⟩;obtain ⟨xx,zz,rfl,hx9,hS9⟩:=hr.two;obtain ⟨a1,b1,k9,rfl⟩:=hS9;have HW5:=Lib.hid h5;have HV5:=Lib.hid hx9;have xf:=(HX4.out.stay h5).frozen 0;have xc:=(HX4.out.stay h5).cell (j:=0) rfl;have xs:=(HX4.out.stay h5).size;clear hr h5 hx9)
    have hx0:=HX4.out.stay HW5.out
    have hs0:=HS4.out.stay HW5.out
    have hz0:=HZ4.out.stay HW5.out
    have hb0:=HB4.out.trans (HW5.out.mono HB4.out.size)
    have hr5:=(HV5.out.2.2).setF hx0 ⟨_,_,_,rfl⟩ ⟨_,_,_,rfl⟩ ⟨_,_,_,rfl⟩ cc_num 0 (.slice a1 b1 k9)
    have hx5:=hx0
    have hs5:=hs0
    have hz5:=hz0
    have hb5:=hb0
    have hx6:=hx5.set 0 (.slice a1 b1 k9)
    change HBox _ X [.slice a1 b1 k9,.slice r2 n2 c2,.slice r3 n3 c3,.int .i32 E0] _ at hx6
    have hs6:=(hs5.grown (grownBy_set w5 ⟨X,0,none⟩ (.slice a1 b1 k9)) (fun e=>absurd (show G+1=X from Option.some.inj e) (by have:=HXG.out;omega)))
    have hz6:=(hz5.grown (grownBy_set w5 ⟨X,0,none⟩ (.slice a1 b1 k9)) (fun e=>absurd (show G+1+1+1=X from Option.some.inj e) (by have:=HXG.out;omega)))
    have hb6:=hb5.setCell (p:=⟨X,0,none⟩) (by show w.heap.size≤X;have:=HGG.out;have:=HXG.out;omega) (.slice a1 b1 k9)
    change HBox (w5.setCell ⟨X,0,none⟩ (.slice a1 b1 k9)) _ _ _ at hs6 hz6
    generalize (w5.setCell ⟨X,0,none⟩ (.slice a1 b1 k9))=Wt at *
    obtain rfl:zz=0:=HV5.out.1
    obtain ⟨g,hg⟩:∃ g:Fr,(⟨c9,f.U,f.S,f.E⟩:Fr)=g:=⟨_,rfl⟩
    have hgE:g.E=E0:=by rw [← hg];exact HE0.out
    have HDO:Hid (doneF f o = .ok g):=Lib.hid (by rw [← hg];exact doneO_a (by rw [HKD0.out];have:=HK5.out;omega) HRR.out)
    have HXt:Hid (HBox Wt X [.slice a1 b1 k9,.slice r2 n2 c2,.slice r3 n3 c3,.int .i32 g.E] 41):=Lib.hid (by rw [hgE];exact hx6)
    have HSt:=Lib.hid hs6
    have HZt:=Lib.hid hz6
    have HBt:=Lib.hid hb6
    have HFt:Hid (FrM g (.slice a1 b1 k9) (.slice r2 n2 c2) (.slice r3 n3 c3) Wt):=Lib.hid (by rw [← hg];exact ⟨hr5,HFM.out.u.stay hb6,HFM.out.s.stay hb6⟩)
    have HSW:Hid (Recs dcl 1 w (.slice r3 n3 c3) g.S):=Lib.hid (by rw [← hg];exact HFM.out.s)
    clear hx0 hs0 hz0 hb0 hx5 hs5 hz5 hb5 hx6 hs6 hz6 hb6 hr5 hg hgE xf xc xs gg0 gg1 gg2 gg3 k0 HX4 HG4 HS4 HO4 HZ4 HB4 HR4 KU4 KA4
    go_meet
    exact ⟨0,rfl,.inr ⟨rfl,g,_,_,_,_,_,_,_,_,_,HDO,HXt,HSt,HZt,HBt,HFt,HSW⟩⟩
  ·have u7:((kd:Int) == 7)=false:=by rw [beq_eq_false_iff_ne];omega
   have u5:((kd:Int) == 5)=false:=by rw [beq_eq_false_iff_ne];omega
   have u6:((kd:Int) == 6)=false:=by rw [beq_eq_false_iff_ne];omega
   have u0:((kd:Int) == 0)=false:=by rw [h0];rfl
   have u1:((kd:Int) == 1)=false:=by rw [h0];rfl
   have u2:((kd:Int) == 2)=false:=by rw [h0];rfl
   have u3:((kd:Int) == 3)=false:=by rw [h0];rfl
   have u4:((kd:Int) == 4)=true:=by rw [h0];rfl
   have KB4:=Lib.hid (KA4.out (by omega))
   have HK5:=Lib.hid h0
   clear h0
   have gg0:=HG4.out.cell (j:=0) rfl
   have gg1:=HG4.out.cell (j:=1) rfl
   have gg2:=HG4.out.cell (j:=2) rfl
   have gg3:=HG4.out.cell (j:=3) rfl
   have kk1:=HO4.out.cell (j:=1) rfl
   have kk2:=HO4.out.cell (j:=2) rfl
   have kk3:=HO4.out.cell (j:=3) rfl
   have k4:=HO4.out.cell (j:=4) rfl
   have k5:=HO4.out.cell (j:=5) rfl
   have k6:=HO4.out.cell (j:=6) rfl
   have k7:=HO4.out.cell (j:=7) rfl
   have x0:=HX4.out.cell (j:=0) rfl
   obtain ⟨RR,hRR⟩:∃ r,accF f.C o=r:=⟨_,rfl⟩
   rw [hRR] at KB4
   have HRR:=Lib.hid hRR
   clear hRR
   cases RR with
   | error c =>
    go_wp2_with (go_at_call 38;refine (KB4.out).mono ?_;rintro e w5 ⟨hr,h5⟩;obtain ⟨xx,zz,rfl,hx9,hS9⟩:=hr.two;obtain ⟨a1,b1,k9,rfl⟩:=hS9;have HW5:=Lib.hid h5;have HV5:=Lib.hid hx9;have xf:=(HX4.out.stay h5).frozen 0;have xc:=(HX4.out.stay h5).cell (j:=0) rfl;have xs:=(HX4.out.stay h5).size;clear hr h5 hx9)
    have hx0:=HX4.out.stay HW5.out
    have hs0:=HS4.out.stay HW5.out
    have hz0:=HZ4.out.stay HW5.out
    have hb0:=HB4.out.trans (HW5.out.mono HB4.out.size)
    have hx5:=hx0
    have hs5:=hs0
    have hz5:=hz0
    have hb5:=hb0
    have hx6:=hx5.set 0 (.slice a1 b1 k9)
    change HBox _ X [.slice a1 b1 k9,.slice r2 n2 c2,.slice r3 n3 c3,.int .i32 E0] _ at hx6
    have hs6:=(hs5.grown (grownBy_set w5 ⟨X,0,none⟩ (.slice a1 b1 k9)) (fun e=>absurd (show G+1=X from Option.some.inj e) (by have:=HXG.out;omega)))
    have hz6:=(hz5.grown (grownBy_set w5 ⟨X,0,none⟩ (.slice a1 b1 k9)) (fun e=>absurd (show G+1+1+1=X from Option.some.inj e) (by have:=HXG.out;omega)))
    have hb6:=hb5.setCell (p:=⟨X,0,none⟩) (by show w.heap.size≤X;have:=HGG.out;have:=HXG.out;omega) (.slice a1 b1 k9)
    change HBox (w5.setCell ⟨X,0,none⟩ (.slice a1 b1 k9)) _ _ _ at hs6 hz6
    generalize (w5.setCell ⟨X,0,none⟩ (.slice a1 b1 k9))=Wt at *
    obtain rfl:zz=c:=HV5.out
    have hc0:zz≠0:=accF_err HRR.out
    have t1:((zz:Int) == 0)=false:=by rw [beq_eq_false_iff_ne];exact hc0
    have t2:((zz:Int) != 0)=true:=by rw [bne_iff_ne];exact hc0
    have HR:Hid (NX = .error zz):=Lib.hid (HNX.out.symm.trans (next_er (doneE_a (by rw [HKD0.out];have:=HK5.out;omega) HRR.out)))
    have HZt:=Lib.hid hz6
    have HBt:=Lib.hid hb6
    clear hx0 hs0 hz0 hb0 hx5 hs5 hz5 hb5 hx6 hs6 hz6 hb6 xf xc xs gg0 gg1 gg2 gg3 k0
    have HC0:=Lib.hid hc0
    clear hc0
    go_meet
    exact ⟨zz,rfl,.inl ⟨Lib.hid ⟨HC0.out,HR.out⟩,HZt,HBt⟩⟩
   | ok c9 =>
    go_wp2_with (go_at_call 38;refine (KB4.out).mono ?_;rintro e w5 ⟨hr,h5⟩;obtain ⟨xx,zz,rfl,hx9,hS9⟩:=hr.two;obtain ⟨a1,b1,k9,rfl⟩:=hS9;have HW5:=Lib.hid h5;have HV5:=Lib.hid hx9;have xf:=(HX4.out.stay h5).frozen 0;have xc:=(HX4.out.stay h5).cell (j:=0) rfl;have xs:=(HX4.out.stay h5).size;clear hr h5 hx9)
    have hx0:=HX4.out.stay HW5.out
    have hs0:=HS4.out.stay HW5.out
    have hz0:=HZ4.out.stay HW5.out
    have hb0:=HB4.out.trans (HW5.out.mono HB4.out.size)
    have hr5:=(HV5.out.2.2).setF hx0 ⟨_,_,_,rfl⟩ ⟨_,_,_,rfl⟩ ⟨_,_,_,rfl⟩ cc_num 0 (.slice a1 b1 k9)
    have hx5:=hx0
    have hs5:=hs0
    have hz5:=hz0
    have hb5:=hb0
    have hx6:=hx5.set 0 (.slice a1 b1 k9)
    change HBox _ X [.slice a1 b1 k9,.slice r2 n2 c2,.slice r3 n3 c3,.int .i32 E0] _ at hx6
    have hs6:=(hs5.grown (grownBy_set w5 ⟨X,0,none⟩ (.slice a1 b1 k9)) (fun e=>absurd (show G+1=X from Option.some.inj e) (by have:=HXG.out;omega)))
    have hz6:=(hz5.grown (grownBy_set w5 ⟨X,0,none⟩ (.slice a1 b1 k9)) (fun e=>absurd (show G+1+1+1=X from Option.some.inj e) (by have:=HXG.out;omega)))
    have hb6:=hb5.setCell (p:=⟨X,0,none⟩) (by show w.heap.size≤X;have:=HGG.out;have:=HXG.out;omega) (.slice a1 b1 k9)
    change HBox (w5.setCell ⟨X,0,none⟩ (.slice a1 b1 k9)) _ _ _ at hs6 hz6
    generalize (w5.setCell ⟨X,0,none⟩ (.slice a1 b1 k9))=Wt at *
    obtain rfl:zz=0:=HV5.out.1
    obtain ⟨g,hg⟩:∃ g:Fr,(⟨c9,f.U,f.S,f.E⟩:Fr)=g:=⟨_,rfl⟩
    have hgE:g.E=E0:=by rw [← hg];exact HE0.out
    have HDO:Hid (doneF f o = .ok g):=Lib.hid (by rw [← hg];exact doneO_a (by rw [HKD0.out];have:=HK5.out;omega) HRR.out)
    have HXt:Hid (HBox Wt X [.slice a1 b1 k9,.slice r2 n2 c2,.slice r3 n3 c3,.int .i32 g.E] 41):=Lib.hid (by rw [hgE];exact hx6)
    have HSt:=Lib.hid hs6
    have HZt:=Lib.hid hz6
    have HBt:=Lib.hid hb6
    have HFt:Hid (FrM g (.slice a1 b1 k9) (.slice r2 n2 c2) (.slice r3 n3 c3) Wt):=Lib.hid (by rw [← hg];exact ⟨hr5,HFM.out.u.stay hb6,HFM.out.s.stay hb6⟩)
    have HSW:Hid (Recs dcl 1 w (.slice r3 n3 c3) g.S):=Lib.hid (by rw [← hg];exact HFM.out.s)
    clear hx0 hs0 hz0 hb0 hx5 hs5 hz5 hb5 hx6 hs6 hz6 hb6 hr5 hg hgE xf xc xs gg0 gg1 gg2 gg3 k0 HX4 HG4 HS4 HO4 HZ4 HB4 HR4 KU4 KA4
    go_meet
    exact ⟨0,rfl,.inr ⟨rfl,g,_,_,_,_,_,_,_,_,_,HDO,HXt,HSt,HZt,HBt,HFt,HSW⟩⟩
 case rest =>
  obtain ⟨z,rfl,⟨HZE,HZt,HBt⟩ | ⟨rfl,g,a1,b1,k1',a2,b2,k2,a3,b3,k3,HDO,HXt,HSt,HZt,HBt,HFt,HSW⟩⟩:=hcut
  ·generalize wc=Wt at *
   have hc0:=HZE.out.1
   have HR:Hid (NX = .error z):=Lib.hid HZE.out.2
   have t1:((z:Int) == 0)=false:=by rw [beq_eq_false_iff_ne];exact hc0
   have t2:((z:Int) != 0)=true:=by rw [bne_iff_ne];exact hc0
   clear hc0 k0 HX4 HG4 HS4 HO4 HZ4 HB4 HR4 KU4 KA4
   have z0:=HZt.out.cell (j:=0) rfl
   have y0:=HZt.out.frozen 0
   have z1:=HZt.out.cell (j:=1) rfl
   have y1:=HZt.out.frozen 1
   have z2:=HZt.out.cell (j:=2) rfl
   have y2:=HZt.out.frozen 2
   have z3:=HZt.out.cell (j:=3) rfl
   have y3:=HZt.out.frozen 3
   have zs:=HZt.out.size
   go_wp2_with fail
   obtain ⟨z9,hb9⟩:=zset HZt.out HBt.out (by have:=HGG.out;omega) (.slice none 0 0) (.slice none 0 0) (.slice none 0 0) (.int .i32 0)
   generalize ((((Wt.setCell ⟨G+1+1+1,0,none⟩ (.slice none 0 0)).setCell ⟨G+1+1+1,1,none⟩ (.slice none 0 0)).setCell ⟨G+1+1+1,2,none⟩ (.slice none 0 0)).setCell ⟨G+1+1+1,3,none⟩ (.int .i32 0))=W9 at *
   obtain ⟨e0,e1,e2,e3⟩:=cells4 z9
   clear z9
   refine bodyPost_ret (v:=.tuple #[.agg #[.slice none 0 0,.slice none 0 0,.slice none 0 0,.int .i32 0],.int .i64 z]) (by simp [results,Tryz.results17,go_sem,e0,e1,e2,e3]) rfl ?_
   exact ⟨by rw [HR.out];rfl,hb9⟩
  ·generalize wc=Wt at *
   clear k0 HX4 HG4 HS4 HO4 HZ4 HB4 HR4 KU4 KA4
   have HRN:=Lib.hid (HNX.out.symm.trans (next_ok (s:=s) HDO.out))
   have HGI:=HIN.out g HDO.out
   have KC9:=Lib.hid (fun (W:World) (h:Below Wt.heap.size Wt W)=>HKC.out W _ g.C (HFt.out.c.stay h))
   have KV9:=Lib.hid (fun (W:World) (h:Below Wt.heap.size Wt W)=>HKV.out W _ g.U (HFt.out.u.stay h) HGI.u.1 HGI.u.2)
   have KD9:=Lib.hid (fun (W:World) (h:Below Wt.heap.size Wt W)=>HKD.out W (HBt.out.trans (h.mono HBt.out.size)) _ g.S g.E (HFt.out.s.stay h) HGI.s.1 HGI.s.2 HGI.e)
   obtain ⟨cA,hcA⟩:∃ c,chkA g.C=c:=⟨_,rfl⟩
   obtain ⟨cU,hcU⟩:∃ c,chkU g.U=c:=⟨_,rfl⟩
   obtain ⟨cD,hcD⟩:∃ c,chkD g.S g.E=c:=⟨_,rfl⟩
   have HCF:=Lib.hid (fun (h1:cA=0) (h2:cU=0) (h3:cD=0)=>FrOk.of (f:=g) (by unfold chkF;rw [hcA,hcU,hcD,h1,h2,h3];simp))
   rw [hcA,hcU,hcD] at HRN
   rw [hcA] at KC9
   rw [hcU] at KV9
   rw [hcD] at KD9
   have HSP:=HSO.out g
   obtain ⟨ge,hge⟩:∃ e,g.E=e:=⟨_,rfl⟩
   have HGE:=Lib.hid hge
   rw [hge] at KD9 HXt
   have HD0:=Lib.hid (Below.refl Wt.heap.size Wt)
   have HL9:=Lib.hid HGI.s.1
   clear hcA hcU hcD HGI
   have xt0:=HXt.out.cell (j:=0) rfl
   have xt1:=HXt.out.cell (j:=1) rfl
   have xt2:=HXt.out.cell (j:=2) rfl
   have xt3:=HXt.out.cell (j:=3) rfl
   by_cases hcA:cA=0
   case neg =>
    have tcA1:((cA:Int) == 0)=false:=by rw [beq_eq_false_iff_ne];exact hcA
    have tcA2:((cA:Int) != 0)=true:=by rw [bne_iff_ne];exact hcA
    have HR:Hid (NX = .error cA):=Lib.hid (by rw [HRN.out,if_pos hcA])
    clear hcA hge HSP
    go_wp2_with (first
     | (have hN:=HD0;clear hN;go_at_call 39;refine (KC9.out _ HD0.out).mono ?_;rintro e wa ⟨rfl,ha⟩;have HDa:=Lib.hid (HD0.out.trans (ha.mono HD0.out.size));obtain ⟨xa0,xa1,xa2,xa3⟩:=cells4 (HXt.out.stay HDa.out);obtain ⟨sa0,sa1,sa2⟩:=cells3 (HSt.out.stay HDa.out);have HZa:=Lib.hid (HZt.out.stay HDa.out);obtain ⟨za0,za1,za2,za3⟩:=cells4 HZa.out;obtain ⟨ya0,ya1,ya2,ya3,zsa⟩:=zbox HZa.out;clear ha))
    have HBz:=Lib.hid (HBt.out.trans (HDa.out.mono HBt.out.size))
    obtain ⟨z9,hb9⟩:=zset HZa.out HBz.out (by have:=HGG.out;omega) (.slice none 0 0) (.slice none 0 0) (.slice none 0 0) (.int .i32 0)
    generalize ((((wa.setCell ⟨G+1+1+1,0,none⟩ (.slice none 0 0)).setCell ⟨G+1+1+1,1,none⟩ (.slice none 0 0)).setCell ⟨G+1+1+1,2,none⟩ (.slice none 0 0)).setCell ⟨G+1+1+1,3,none⟩ (.int .i32 0))=W9 at *
    obtain ⟨e0,e1,e2,e3⟩:=cells4 z9
    clear z9
    refine bodyPost_ret (v:=.tuple #[.agg #[.slice none 0 0,.slice none 0 0,.slice none 0 0,.int .i32 0],.int .i64 cA]) (by simp [results,Tryz.results17,go_sem,e0,e1,e2,e3]) rfl ?_
    exact ⟨by rw [HR.out];rfl,hb9⟩
   case pos =>
    have tcA1:((cA:Int) == 0)=true:=by rw [hcA];rfl
    have tcA2:((cA:Int) != 0)=false:=by rw [hcA];rfl
    by_cases hcU:cU=0
    case neg =>
     have tcU1:((cU:Int) == 0)=false:=by rw [beq_eq_false_iff_ne];exact hcU
     have tcU2:((cU:Int) != 0)=true:=by rw [bne_iff_ne];exact hcU
     have HR:Hid (NX = .error cU):=Lib.hid (by rw [HRN.out,if_neg (by simp [hcA]),if_pos hcU])
     clear hcA hcU hge HSP
     go_wp2_with (first
      | (have hN:=HDa;clear hN;go_at_call 40;refine (KV9.out _ HDa.out).mono ?_;rintro e wb ⟨rfl,hb⟩;have HDb:=Lib.hid (HDa.out.trans (hb.mono HDa.out.size));obtain ⟨xb0,xb1,xb2,xb3⟩:=cells4 (HXt.out.stay HDb.out);obtain ⟨sb0,sb1,sb2⟩:=cells3 (HSt.out.stay HDb.out);have HZb:=Lib.hid (HZt.out.stay HDb.out);obtain ⟨zb0,zb1,zb2,zb3⟩:=cells4 HZb.out;obtain ⟨yb0,yb1,yb2,yb3,zsb⟩:=zbox HZb.out;clear hb)
      | (have hN:=HD0;clear hN;go_at_call 39;refine (KC9.out _ HD0.out).mono ?_;rintro e wa ⟨rfl,ha⟩;have HDa:=Lib.hid (HD0.out.trans (ha.mono HD0.out.size));obtain ⟨xa0,xa1,xa2,xa3⟩:=cells4 (HXt.out.stay HDa.out);obtain ⟨sa0,sa1,sa2⟩:=cells3 (HSt.out.stay HDa.out);have HZa:=Lib.hid (HZt.out.stay HDa.out);obtain ⟨za0,za1,za2,za3⟩:=cells4 HZa.out;obtain ⟨ya0,ya1,ya2,ya3,zsa⟩:=zbox HZa.out;clear ha))
     have HBz:=Lib.hid (HBt.out.trans (HDb.out.mono HBt.out.size))
     obtain ⟨z9,hb9⟩:=zset HZb.out HBz.out (by have:=HGG.out;omega) (.slice none 0 0) (.slice none 0 0) (.slice none 0 0) (.int .i32 0)
     generalize ((((wb.setCell ⟨G+1+1+1,0,none⟩ (.slice none 0 0)).setCell ⟨G+1+1+1,1,none⟩ (.slice none 0 0)).setCell ⟨G+1+1+1,2,none⟩ (.slice none 0 0)).setCell ⟨G+1+1+1,3,none⟩ (.int .i32 0))=W9 at *
     obtain ⟨e0,e1,e2,e3⟩:=cells4 z9
     clear z9
     refine bodyPost_ret (v:=.tuple #[.agg #[.slice none 0 0,.slice none 0 0,.slice none 0 0,.int .i32 0],.int .i64 cU]) (by simp [results,Tryz.results17,go_sem,e0,e1,e2,e3]) rfl ?_
     exact ⟨by rw [HR.out];rfl,hb9⟩
    case pos =>
     have tcU1:((cU:Int) == 0)=true:=by rw [hcU];rfl
     have tcU2:((cU:Int) != 0)=false:=by rw [hcU];rfl
     by_cases hcD:cD=0
     case neg =>
      have tcD1:((cD:Int) == 0)=false:=by rw [beq_eq_false_iff_ne];exact hcD
      have tcD2:((cD:Int) != 0)=true:=by rw [bne_iff_ne];exact hcD
      have HR:Hid (NX = .error cD):=Lib.hid (by rw [HRN.out,if_neg (by simp [hcA]),if_neg (by simp [hcU]),if_pos hcD])
      clear hcA hcU hcD hge HSP
      go_wp2_with (first
       | (have hN:=HDb;clear hN;go_at_call 41;refine (KD9.out _ HDb.out).mono ?_;rintro e wc ⟨rfl,hc⟩;have HDc:=Lib.hid (HDb.out.trans (hc.mono HDb.out.size));obtain ⟨xc0,xc1,xc2,xc3⟩:=cells4 (HXt.out.stay HDc.out);obtain ⟨sc0,sc1,sc2⟩:=cells3 (HSt.out.stay HDc.out);have HZc:=Lib.hid (HZt.out.stay HDc.out);obtain ⟨zc0,zc1,zc2,zc3⟩:=cells4 HZc.out;obtain ⟨yc0,yc1,yc2,yc3,zsc⟩:=zbox HZc.out;clear hc)
       | (have hN:=HDa;clear hN;go_at_call 40;refine (KV9.out _ HDa.out).mono ?_;rintro e wb ⟨rfl,hb⟩;have HDb:=Lib.hid (HDa.out.trans (hb.mono HDa.out.size));obtain ⟨xb0,xb1,xb2,xb3⟩:=cells4 (HXt.out.stay HDb.out);obtain ⟨sb0,sb1,sb2⟩:=cells3 (HSt.out.stay HDb.out);have HZb:=Lib.hid (HZt.out.stay HDb.out);obtain ⟨zb0,zb1,zb2,zb3⟩:=cells4 HZb.out;obtain ⟨yb0,yb1,yb2,yb3,zsb⟩:=zbox HZb.out;clear hb)
       | (have hN:=HD0;clear hN;go_at_call 39;refine (KC9.out _ HD0.out).mono ?_;rintro e wa ⟨rfl,ha⟩;have HDa:=Lib.hid (HD0.out.trans (ha.mono HD0.out.size));obtain ⟨xa0,xa1,xa2,xa3⟩:=cells4 (HXt.out.stay HDa.out);obtain ⟨sa0,sa1,sa2⟩:=cells3 (HSt.out.stay HDa.out);have HZa:=Lib.hid (HZt.out.stay HDa.out);obtain ⟨za0,za1,za2,za3⟩:=cells4 HZa.out;obtain ⟨ya0,ya1,ya2,ya3,zsa⟩:=zbox HZa.out;clear ha))
      have HBz:=Lib.hid (HBt.out.trans (HDc.out.mono HBt.out.size))
      obtain ⟨z9,hb9⟩:=zset HZc.out HBz.out (by have:=HGG.out;omega) (.slice none 0 0) (.slice none 0 0) (.slice none 0 0) (.int .i32 0)
      generalize ((((wc.setCell ⟨G+1+1+1,0,none⟩ (.slice none 0 0)).setCell ⟨G+1+1+1,1,none⟩ (.slice none 0 0)).setCell ⟨G+1+1+1,2,none⟩ (.slice none 0 0)).setCell ⟨G+1+1+1,3,none⟩ (.int .i32 0))=W9 at *
      obtain ⟨e0,e1,e2,e3⟩:=cells4 z9
      clear z9
      refine bodyPost_ret (v:=.tuple #[.agg #[.slice none 0 0,.slice none 0 0,.slice none 0 0,.int .i32 0],.int .i64 cD]) (by simp [results,Tryz.results17,go_sem,e0,e1,e2,e3]) rfl ?_
      exact ⟨by rw [HR.out];rfl,hb9⟩
     case pos =>
      have tcD1:((cD:Int) == 0)=true:=by rw [hcD];rfl
      have tcD2:((cD:Int) != 0)=false:=by rw [hcD];rfl
      have HRM:=Lib.hid (HRN.out.trans ((if_neg (by simp [hcA])).trans ((if_neg (by simp [hcU])).trans (if_neg (by simp [hcD])))))
      have HOK:=HCF.out hcA hcU hcD
      have KP9:=Lib.hid (fun (W:World) (h:Below Wt.heap.size Wt W) (d:Int)=>lperiod_c _ g.S g.E d W (HFt.out.s.stay h) (List.pairwise_append.1 HOK.riseD).1 (fun x hx=>(List.pairwise_append.1 HOK.riseD).2.2 x hx g.E (by simp)) HL9.out)
      rw [HGE.out] at KP9 HSP
      obtain ⟨p1,hp1⟩:∃ p,perI g.S ge fi=p:=⟨_,rfl⟩
      obtain ⟨p2,hp2⟩:∃ p,perI g.S ge la=p:=⟨_,rfl⟩
      have KPa:=Lib.hid (fun (W:World) (h:Below Wt.heap.size Wt W)=>KP9.out W h fi)
      have KPb:=Lib.hid (fun (W:World) (h:Below Wt.heap.size Wt W)=>KP9.out W h la)
      rw [hp1,hp2] at HSP
      rw [hp1] at KPa
      rw [hp2] at KPb
      have HSQ:=Lib.hid HSP
      clear hcA hcU hcD hge HSP hp1 hp2 KP9 HOK
      cases so with
      | false =>
       have HR:Hid (NX = .ok g):=Lib.hid (by rw [HRM.out,HSQ.out];simp)
       go_wp2_with (first
        | (have hN:=HDb;clear hN;go_at_call 41;refine (KD9.out _ HDb.out).mono ?_;rintro e wc ⟨rfl,hc⟩;have HDc:=Lib.hid (HDb.out.trans (hc.mono HDb.out.size));obtain ⟨xc0,xc1,xc2,xc3⟩:=cells4 (HXt.out.stay HDc.out);obtain ⟨sc0,sc1,sc2⟩:=cells3 (HSt.out.stay HDc.out);have HZc:=Lib.hid (HZt.out.stay HDc.out);obtain ⟨zc0,zc1,zc2,zc3⟩:=cells4 HZc.out;obtain ⟨yc0,yc1,yc2,yc3,zsc⟩:=zbox HZc.out;clear hc)
        | (have hN:=HDa;clear hN;go_at_call 40;refine (KV9.out _ HDa.out).mono ?_;rintro e wb ⟨rfl,hb⟩;have HDb:=Lib.hid (HDa.out.trans (hb.mono HDa.out.size));obtain ⟨xb0,xb1,xb2,xb3⟩:=cells4 (HXt.out.stay HDb.out);obtain ⟨sb0,sb1,sb2⟩:=cells3 (HSt.out.stay HDb.out);have HZb:=Lib.hid (HZt.out.stay HDb.out);obtain ⟨zb0,zb1,zb2,zb3⟩:=cells4 HZb.out;obtain ⟨yb0,yb1,yb2,yb3,zsb⟩:=zbox HZb.out;clear hb)
        | (have hN:=HD0;clear hN;go_at_call 39;refine (KC9.out _ HD0.out).mono ?_;rintro e wa ⟨rfl,ha⟩;have HDa:=Lib.hid (HD0.out.trans (ha.mono HD0.out.size));obtain ⟨xa0,xa1,xa2,xa3⟩:=cells4 (HXt.out.stay HDa.out);obtain ⟨sa0,sa1,sa2⟩:=cells3 (HSt.out.stay HDa.out);have HZa:=Lib.hid (HZt.out.stay HDa.out);obtain ⟨za0,za1,za2,za3⟩:=cells4 HZa.out;obtain ⟨ya0,ya1,ya2,ya3,zsa⟩:=zbox HZa.out;clear ha))
       have HBz:=Lib.hid (HBt.out.trans (HDc.out.mono HBt.out.size))
       obtain ⟨z9,b9,f9⟩:=frame_set (g:=g) HZc.out nilS nilS nilS (HFt.out.stay HDc.out) HSW.out HBz.out (by have:=HGG.out;omega)
       rw [HGE.out] at z9 b9 f9
       generalize ((((wc.setCell ⟨G+1+1+1,0,none⟩ (.slice a1 b1 k1')).setCell ⟨G+1+1+1,1,none⟩ (.slice a2 b2 k2)).setCell ⟨G+1+1+1,2,none⟩ (.slice a3 b3 k3)).setCell ⟨G+1+1+1,3,none⟩ (.int .i32 ge))=W9 at *
       obtain ⟨e0,e1,e2,e3⟩:=cells4 z9
       clear z9
       refine bodyPost_ret (v:=.tuple #[.agg #[.slice a1 b1 k1',.slice a2 b2 k2,.slice a3 b3 k3,.int .i32 ge],.int .i64 0]) (by simp [results,Tryz.results17,go_sem,e0,e1,e2,e3]) rfl ?_
       exact ⟨by rw [HR.out];exact ⟨_,_,_,_,_,_,_,_,_,by rw [HGE.out],f9⟩,b9⟩
      | true =>
       by_cases h1:p1<0
       ·have q1:decide (p1<0)=true:=decide_eq_true h1
        have HR:Hid (NX = .error 13):=Lib.hid (by rw [HRM.out,HSQ.out];simp [h1])
        clear h1
        go_wp2_with (first
         | (have hN:=HDc;clear hN;go_at_call 42;refine (KPa.out _ HDc.out).mono ?_;rintro e wd ⟨rfl,hd⟩;have HDd:=Lib.hid (HDc.out.trans (hd.mono HDc.out.size));obtain ⟨xd0,xd1,xd2,xd3⟩:=cells4 (HXt.out.stay HDd.out);obtain ⟨sd0,sd1,sd2⟩:=cells3 (HSt.out.stay HDd.out);have HZd:=Lib.hid (HZt.out.stay HDd.out);obtain ⟨zd0,zd1,zd2,zd3⟩:=cells4 HZd.out;obtain ⟨yd0,yd1,yd2,yd3,zsd⟩:=zbox HZd.out;clear hd)
         | (have hN:=HDb;clear hN;go_at_call 41;refine (KD9.out _ HDb.out).mono ?_;rintro e wc ⟨rfl,hc⟩;have HDc:=Lib.hid (HDb.out.trans (hc.mono HDb.out.size));obtain ⟨xc0,xc1,xc2,xc3⟩:=cells4 (HXt.out.stay HDc.out);obtain ⟨sc0,sc1,sc2⟩:=cells3 (HSt.out.stay HDc.out);have HZc:=Lib.hid (HZt.out.stay HDc.out);obtain ⟨zc0,zc1,zc2,zc3⟩:=cells4 HZc.out;obtain ⟨yc0,yc1,yc2,yc3,zsc⟩:=zbox HZc.out;clear hc)
         | (have hN:=HDa;clear hN;go_at_call 40;refine (KV9.out _ HDa.out).mono ?_;rintro e wb ⟨rfl,hb⟩;have HDb:=Lib.hid (HDa.out.trans (hb.mono HDa.out.size));obtain ⟨xb0,xb1,xb2,xb3⟩:=cells4 (HXt.out.stay HDb.out);obtain ⟨sb0,sb1,sb2⟩:=cells3 (HSt.out.stay HDb.out);have HZb:=Lib.hid (HZt.out.stay HDb.out);obtain ⟨zb0,zb1,zb2,zb3⟩:=cells4 HZb.out;obtain ⟨yb0,yb1,yb2,yb3,zsb⟩:=zbox HZb.out;clear hb)
         | (have hN:=HD0;clear hN;go_at_call 39;refine (KC9.out _ HD0.out).mono ?_;rintro e wa ⟨rfl,ha⟩;have HDa:=Lib.hid (HD0.out.trans (ha.mono HD0.out.size));obtain ⟨xa0,xa1,xa2,xa3⟩:=cells4 (HXt.out.stay HDa.out);obtain ⟨sa0,sa1,sa2⟩:=cells3 (HSt.out.stay HDa.out);have HZa:=Lib.hid (HZt.out.stay HDa.out);obtain ⟨za0,za1,za2,za3⟩:=cells4 HZa.out;obtain ⟨ya0,ya1,ya2,ya3,zsa⟩:=zbox HZa.out;clear ha))
        have HBz:=Lib.hid (HBt.out.trans (HDd.out.mono HBt.out.size))
        obtain ⟨z9,hb9⟩:=zset HZd.out HBz.out (by have:=HGG.out;omega) (.slice none 0 0) (.slice none 0 0) (.slice none 0 0) (.int .i32 0)
        generalize ((((wd.setCell ⟨G+1+1+1,0,none⟩ (.slice none 0 0)).setCell ⟨G+1+1+1,1,none⟩ (.slice none 0 0)).setCell ⟨G+1+1+1,2,none⟩ (.slice none 0 0)).setCell ⟨G+1+1+1,3,none⟩ (.int .i32 0))=W9 at *
        obtain ⟨e0,e1,e2,e3⟩:=cells4 z9
        clear z9
        refine bodyPost_ret (v:=.tuple #[.agg #[.slice none 0 0,.slice none 0 0,.slice none 0 0,.int .i32 0],.int .i64 13]) (by simp [results,Tryz.results17,go_sem,e0,e1,e2,e3]) rfl ?_
        exact ⟨by rw [HR.out];rfl,hb9⟩
       ·have q1:decide (p1<0)=false:=decide_eq_false h1
        by_cases h2:p2<0
        ·have q2:decide (p2<0)=true:=decide_eq_true h2
         have HR:Hid (NX = .error 13):=Lib.hid (by rw [HRM.out,HSQ.out];simp [h2])
         clear h1 h2
         go_wp2_with (first
          | (have hN:=HDd;clear hN;go_at_call 42;refine (KPb.out _ HDd.out).mono ?_;rintro e we ⟨rfl,he⟩;have HDe:=Lib.hid (HDd.out.trans (he.mono HDd.out.size));obtain ⟨xe0,xe1,xe2,xe3⟩:=cells4 (HXt.out.stay HDe.out);obtain ⟨se0,se1,se2⟩:=cells3 (HSt.out.stay HDe.out);have HZe:=Lib.hid (HZt.out.stay HDe.out);obtain ⟨ze0,ze1,ze2,ze3⟩:=cells4 HZe.out;obtain ⟨ye0,ye1,ye2,ye3,zse⟩:=zbox HZe.out;clear he)
          | (have hN:=HDc;clear hN;go_at_call 42;refine (KPa.out _ HDc.out).mono ?_;rintro e wd ⟨rfl,hd⟩;have HDd:=Lib.hid (HDc.out.trans (hd.mono HDc.out.size));obtain ⟨xd0,xd1,xd2,xd3⟩:=cells4 (HXt.out.stay HDd.out);obtain ⟨sd0,sd1,sd2⟩:=cells3 (HSt.out.stay HDd.out);have HZd:=Lib.hid (HZt.out.stay HDd.out);obtain ⟨zd0,zd1,zd2,zd3⟩:=cells4 HZd.out;obtain ⟨yd0,yd1,yd2,yd3,zsd⟩:=zbox HZd.out;clear hd)
          | (have hN:=HDb;clear hN;go_at_call 41;refine (KD9.out _ HDb.out).mono ?_;rintro e wc ⟨rfl,hc⟩;have HDc:=Lib.hid (HDb.out.trans (hc.mono HDb.out.size));obtain ⟨xc0,xc1,xc2,xc3⟩:=cells4 (HXt.out.stay HDc.out);obtain ⟨sc0,sc1,sc2⟩:=cells3 (HSt.out.stay HDc.out);have HZc:=Lib.hid (HZt.out.stay HDc.out);obtain ⟨zc0,zc1,zc2,zc3⟩:=cells4 HZc.out;obtain ⟨yc0,yc1,yc2,yc3,zsc⟩:=zbox HZc.out;clear hc)
          | (have hN:=HDa;clear hN;go_at_call 40;refine (KV9.out _ HDa.out).mono ?_;rintro e wb ⟨rfl,hb⟩;have HDb:=Lib.hid (HDa.out.trans (hb.mono HDa.out.size));obtain ⟨xb0,xb1,xb2,xb3⟩:=cells4 (HXt.out.stay HDb.out);obtain ⟨sb0,sb1,sb2⟩:=cells3 (HSt.out.stay HDb.out);have HZb:=Lib.hid (HZt.out.stay HDb.out);obtain ⟨zb0,zb1,zb2,zb3⟩:=cells4 HZb.out;obtain ⟨yb0,yb1,yb2,yb3,zsb⟩:=zbox HZb.out;clear hb)
          | (have hN:=HD0;clear hN;go_at_call 39;refine (KC9.out _ HD0.out).mono ?_;rintro e wa ⟨rfl,ha⟩;have HDa:=Lib.hid (HD0.out.trans (ha.mono HD0.out.size));obtain ⟨xa0,xa1,xa2,xa3⟩:=cells4 (HXt.out.stay HDa.out);obtain ⟨sa0,sa1,sa2⟩:=cells3 (HSt.out.stay HDa.out);have HZa:=Lib.hid (HZt.out.stay HDa.out);obtain ⟨za0,za1,za2,za3⟩:=cells4 HZa.out;obtain ⟨ya0,ya1,ya2,ya3,zsa⟩:=zbox HZa.out;clear ha))
         have HBz:=Lib.hid (HBt.out.trans (HDe.out.mono HBt.out.size))
         obtain ⟨z9,hb9⟩:=zset HZe.out HBz.out (by have:=HGG.out;omega) (.slice none 0 0) (.slice none 0 0) (.slice none 0 0) (.int .i32 0)
         generalize ((((we.setCell ⟨G+1+1+1,0,none⟩ (.slice none 0 0)).setCell ⟨G+1+1+1,1,none⟩ (.slice none 0 0)).setCell ⟨G+1+1+1,2,none⟩ (.slice none 0 0)).setCell ⟨G+1+1+1,3,none⟩ (.int .i32 0))=W9 at *
         obtain ⟨e0,e1,e2,e3⟩:=cells4 z9
         clear z9
         refine bodyPost_ret (v:=.tuple #[.agg #[.slice none 0 0,.slice none 0 0,.slice none 0 0,.int .i32 0],.int .i64 13]) (by simp [results,Tryz.results17,go_sem,e0,e1,e2,e3]) rfl ?_
         exact ⟨by rw [HR.out];rfl,hb9⟩
        ·have q2:decide (p2<0)=false:=decide_eq_false h2
         have HR:Hid (NX = .ok g):=Lib.hid (by rw [HRM.out,HSQ.out];simp [h1,h2])
         clear h1 h2
         go_wp2_with (first
          | (have hN:=HDd;clear hN;go_at_call 42;refine (KPb.out _ HDd.out).mono ?_;rintro e we ⟨rfl,he⟩;have HDe:=Lib.hid (HDd.out.trans (he.mono HDd.out.size));obtain ⟨xe0,xe1,xe2,xe3⟩:=cells4 (HXt.out.stay HDe.out);obtain ⟨se0,se1,se2⟩:=cells3 (HSt.out.stay HDe.out);have HZe:=Lib.hid (HZt.out.stay HDe.out);obtain ⟨ze0,ze1,ze2,ze3⟩:=cells4 HZe.out;obtain ⟨ye0,ye1,ye2,ye3,zse⟩:=zbox HZe.out;clear he)
          | (have hN:=HDc;clear hN;go_at_call 42;refine (KPa.out _ HDc.out).mono ?_;rintro e wd ⟨rfl,hd⟩;have HDd:=Lib.hid (HDc.out.trans (hd.mono HDc.out.size));obtain ⟨xd0,xd1,xd2,xd3⟩:=cells4 (HXt.out.stay HDd.out);obtain ⟨sd0,sd1,sd2⟩:=cells3 (HSt.out.stay HDd.out);have HZd:=Lib.hid (HZt.out.stay HDd.out);obtain ⟨zd0,zd1,zd2,zd3⟩:=cells4 HZd.out;obtain ⟨yd0,yd1,yd2,yd3,zsd⟩:=zbox HZd.out;clear hd)
          | (have hN:=HDb;clear hN;go_at_call 41;refine (KD9.out _ HDb.out).mono ?_;rintro e wc ⟨rfl,hc⟩;have HDc:=Lib.hid (HDb.out.trans (hc.mono HDb.out.size));obtain ⟨xc0,xc1,xc2,xc3⟩:=cells4 (HXt.out.stay HDc.out);obtain ⟨sc0,sc1,sc2⟩:=cells3 (HSt.out.stay HDc.out);have HZc:=Lib.hid (HZt.out.stay HDc.out);obtain ⟨zc0,zc1,zc2,zc3⟩:=cells4 HZc.out;obtain ⟨yc0,yc1,yc2,yc3,zsc⟩:=zbox HZc.out;clear hc)
          | (have hN:=HDa;clear hN;go_at_call 40;refine (KV9.out _ HDa.out).mono ?_;rintro e wb ⟨rfl,hb⟩;have HDb:=Lib.hid (HDa.out.trans (hb.mono HDa.out.size));obtain ⟨xb0,xb1,xb2,xb3⟩:=cells4 (HXt.out.stay HDb.out);obtain ⟨sb0,sb1,sb2⟩:=cells3 (HSt.out.stay HDb.out);have HZb:=Lib.hid (HZt.out.stay HDb.out);obtain ⟨zb0,zb1,zb2,zb3⟩:=cells4 HZb.out;obtain ⟨yb0,yb1,yb2,yb3,zsb⟩:=zbox HZb.out;clear hb)
          | (have hN:=HD0;clear hN;go_at_call 39;refine (KC9.out _ HD0.out).mono ?_;rintro e wa ⟨rfl,ha⟩;have HDa:=Lib.hid (HD0.out.trans (ha.mono HD0.out.size));obtain ⟨xa0,xa1,xa2,xa3⟩:=cells4 (HXt.out.stay HDa.out);obtain ⟨sa0,sa1,sa2⟩:=cells3 (HSt.out.stay HDa.out);have HZa:=Lib.hid (HZt.out.stay HDa.out);obtain ⟨za0,za1,za2,za3⟩:=cells4 HZa.out;obtain ⟨ya0,ya1,ya2,ya3,zsa⟩:=zbox HZa.out;clear ha))
         have HBz:=Lib.hid (HBt.out.trans (HDe.out.mono HBt.out.size))
         obtain ⟨z9,b9,f9⟩:=frame_set (g:=g) HZe.out nilS nilS nilS (HFt.out.stay HDe.out) HSW.out HBz.out (by have:=HGG.out;omega)
         rw [HGE.out] at z9 b9 f9
         generalize ((((we.setCell ⟨G+1+1+1,0,none⟩ (.slice a1 b1 k1')).setCell ⟨G+1+1+1,1,none⟩ (.slice a2 b2 k2)).setCell ⟨G+1+1+1,2,none⟩ (.slice a3 b3 k3)).setCell ⟨G+1+1+1,3,none⟩ (.int .i32 ge))=W9 at *
         obtain ⟨e0,e1,e2,e3⟩:=cells4 z9
         clear z9
         refine bodyPost_ret (v:=.tuple #[.agg #[.slice a1 b1 k1',.slice a2 b2 k2,.slice a3 b3 k3,.int .i32 ge],.int .i64 0]) (by simp [results,Tryz.results17,go_sem,e0,e1,e2,e3]) rfl ?_
         exact ⟨by rw [HR.out];exact ⟨_,_,_,_,_,_,_,_,_,by rw [HGE.out],f9⟩,b9⟩
