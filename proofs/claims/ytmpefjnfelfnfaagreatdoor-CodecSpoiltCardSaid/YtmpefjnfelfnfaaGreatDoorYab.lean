/- Contracts of the document's answer for layer 1: Bits. -/
import Derived.Test.YtmpefjnfelfnfaaGreatDoorOne
import Derived.LoopTactic
import Derived.Laws.Rows
import Derived.Laws.Tables
import Derived.Deep.QuietTactic
import Derived.BigQuiet
set_option maxRecDepth 100000
set_option maxHeartbeats 1000000
namespace Go.Proofs.YtmpefjnfelfnfaaGreatDoor
open Go.RowKit
set_option linter.unusedVariables false
set_option linter.unusedSimpArgs false
def IsArr (w:World) (b:Nat) (f:Nat→Int):Prop:=w.heap[b]?=some (.cells (arr f) 193 (0,0))
theorem zeroArr (w:World):(zeroValue 193).run Tryz.prog w = .ok (.agg (arr fun _=>0)) w:=by kernel_rfl
theorem infoArr0:(Tryz.prog.info? 193).map (·.size)=some 128:=by kernel_rfl
theorem infoArr (f:Nat→Int):(Tryz.prog.info? 193).map (·.size)=some (arr f).size:=by rw [arr_size];exact infoArr0
theorem IsArr.cell {w:World} {b:Nat} {f:Nat→Int} (h:IsArr w b f) {j:Nat} (hj:j<128):w.cell? ⟨b,j,none⟩=some (.int .i64 (f j)):=by
 rw [cell_of_row w b j _ _ _ h];exact arr_get hj
theorem IsArr.frozen {w:World} {b:Nat} {f:Nat→Int} (h:IsArr w b f) (j:Nat):w.frozen? ⟨b,j,none⟩=false:=frozen_of_row w b j _ _ h
theorem IsArr.set {w:World} {b:Nat} {f:Nat→Int} (h:IsArr w b f) (j:Nat) (x:Int):IsArr (w.setCell ⟨b,j,none⟩ (.int .i64 x)) b (fun i=>if i=j then x else f i):=by
 unfold IsArr;rw [heap_setCell_same w b j _ _ _ h,arr_set]
theorem IsArr.setOther {w:World} {b:Nat} {f:Nat→Int} (h:IsArr w b f) (a:Addr) (hne:b≠a.block) (v:Value):IsArr (w.setCell a v) b f:=by
 unfold IsArr;rw [heap_setCell_other w a b v hne];exact h
theorem IsArr.lt {w:World} {b:Nat} {f:Nat→Int} (h:IsArr w b f):b<w.heap.size:=(Array.getElem?_eq_some_iff.1 h).1
theorem IsArr.congr {w:World} {b:Nat} {f g:Nat→Int} (h:IsArr w b f) (e:∀ j,j<128→f j=g j):IsArr w b g:=by unfold IsArr;rw [← arr_congr e];exact h
theorem IsArr.new (w:World) (f:Nat→Int):IsArr (w.alloc (.cells (arr f) 193)) w.heap.size f:=heap_alloc_new w _
theorem IsArr.alloc {w:World} {b:Nat} {f:Nat→Int} (h:IsArr w b f) (o:Obj):IsArr (w.alloc o) b f:=by
 unfold IsArr;rw [Below.heap_alloc w o b h.lt];exact h
theorem IsArr.below {w w':World} {b:Nat} {f:Nat→Int} (h:IsArr w b f) (hb:Below w.heap.size w w'):IsArr w' b f:=by
 unfold IsArr;rw [hb.block b h.lt];exact h
theorem IsArr.setRow {w:World} {b:Nat} {f:Nat→Int} (h:IsArr w b f) (g:Nat→Int):IsArr (w.setRow b (arr g)) b g:=setRow_heap w b _ _ _ _ h
theorem below_setRow {B:Nat} {a w:World} (h:Below B a w) {g:Nat} (hg:B≤g) (cs:Array Value):Below B a (w.setRow g cs) :=
 h.trans ⟨rfl,rfl,rfl,by simp,fun k hk=>setRow_other w g k cs (by omega)⟩
def mkBits (h l:Int) (k j:Nat):Int:=if j<k then l / 2 ^ j % 2 else if 64≤j∧j<64+k then h / 2 ^ (j-64) % 2 else 0
theorem mkBits_step (h l:Int) (k:Nat) (hk:k<64) (j:Nat):(if j=64+k then h / 2 ^ k % 2 else if j=k then l / 2 ^ k % 2 else mkBits h l k j)=mkBits h l (k+1) j:=by
 unfold mkBits
 by_cases h1:j=64+k
 ·subst h1
  rw [if_pos rfl,if_neg (by omega:¬ 64+k<k+1),if_pos (by omega:64≤64+k∧64+k<64+(k+1)),show 64+k-64=k by omega]
 ·rw [if_neg h1]
  by_cases h2:j=k
  ·subst h2;rw [if_pos rfl,if_pos (by omega:j<j+1)]
  ·rw [if_neg h2]
   by_cases h3:j<k
   ·rw [if_pos h3,if_pos (by omega:j<k+1)]
   ·rw [if_neg h3,if_neg (by omega:¬ j<k+1)]
    by_cases h4:64≤j∧j<64+k
    ·rw [if_pos h4,if_pos (by omega:64≤j∧j<64+(k+1))]
    ·rw [if_neg h4,if_neg (by omega:¬ (64≤j∧j<64+(k+1)))]
theorem mkBits_zero (h l:Int) (j:Nat):0=mkBits h l 0 j:=by
 unfold mkBits;rw [if_neg (by omega),if_neg (by omega)]
theorem quo_pow_nonneg {x:Int} (h:0≤x) (k:Nat):0≤x / 2 ^ k:=Int.ediv_nonneg h (Int.le_of_lt (Int.pow_pos (by omega)))
theorem bits_core (h l:Int) (w:World) (l0:0≤l) :
 Calls Tryz.prog 160 #[.int .i64 h,.int .u64 l] w fun e w'=>e = .returned (.agg (arr (mkBits (IntKind.u64.wrap h) l 64)))∧Below w.heap.size w w':=by
 have hza:=zeroArr
 go_enter Tryz.func160,Tryz.ntmps160
 go_wp2
 go_loopw [6] (fun i wr=>∃ k:Nat,k≤64∧i = .int .i64 k∧IsArr wr w.heap.size (fun _=>0)∧IsArr wr (w.heap.size+1) (mkBits (IntKind.u64.wrap h) l k)∧Below w.heap.size w wr) (fun i _=>(64-(intOf i)).toNat)
 case atStart =>
  refine ⟨0,by omega,rfl,(IsArr.new w _).alloc _,?_,((Below.refl _ _).alloc (Nat.le_refl _) _).alloc (by simp) _⟩
  exact IsArr.congr (f:=fun _=>0) (by have:=IsArr.new (w.alloc (.cells (arr fun _=>0) 193)) (fun _=>0);simpa using this) (fun j _=>mkBits_zero _ _ _)
 case round =>
  obtain ⟨k,hk,rfl,ha0,ha1,hbl⟩:=hrel
  by_cases hz:k<64
  ·have hc0:=ha1.cell (j:=k) (by omega)
   have hc1:=ha1.cell (j:=64+k) (by omega)
   have hf0:=ha1.frozen k
   have hf1:=ha1.frozen (64+k)
   have HA:=Lib.hid ha0
   have HB:=Lib.hid ha1
   clear ha0 ha1
   have p0:=quo_pow_nonneg l0 k
   have p1:=quo_pow_nonneg (wrap_u64_nonneg h) k
   go_wp2
   go_roundw
   case rel =>
    refine ⟨k+1,by omega,by go_num,(HA.out.setOther _ (by simp) _).setOther _ (by simp) _,?_,(hbl.setCell (by simp) _).setCell (by simp) _⟩
    exact ((HB.out.set _ _).set _ _).congr fun j _=>mkBits_step _ _ k hz j
   case measure=>simp [intOf];omega
  ·obtain rfl:k=64:=by omega
   have HA:=Lib.hid ha0
   have HB:=Lib.hid ha1
   clear ha0 ha1
   go_wp2_with (first
    | refine wpList_load_row rfl 193 _ rfl (w.heap.size+1) rfl 193 _ (0,0) _ HB.out Tryz.underlying193 rfl (infoArr _) ?_
    | refine wpList_store_row rfl 193 _ _ rfl w.heap.size _ rfl rfl 193 _ HA.out (infoArr _) (by rw [arr_size,arr_size]) (arr_one _) ?_)
   exact bodyPost_ret (v:=.agg (arr (mkBits (IntKind.u64.wrap h) l 64))) (results_cell_row Tryz.results160 _ _ w.heap.size 193 _ (0,0) _ rfl (HA.out.setRow _) Tryz.underlying193 rfl (infoArr _)) rfl ⟨rfl,below_setRow hbl (Nat.le_refl _) _⟩
theorem mkBits_bit (v:Int):arr (mkBits (IntKind.u64.wrap (hiW v)) (loW v) 64)=arr (bitZ v):=by
 refine arr_congr fun j hj=>?_
 unfold mkBits
 by_cases h:j<64
 ·rw [if_pos h];exact bit_lo v j h
 ·rw [if_neg h,if_pos (by omega)]
  have:=bit_hi v (j-64) (by omega)
  rw [show 64+(j-64)=j by omega] at this
  exact this
theorem bits_any (v:Int) (w:World) :
 Calls Tryz.prog 160 #[.int .i64 (hiW v),.int .u64 (loW v)] w fun e w'=>e = .returned (.agg (arr (bitZ v)))∧Below w.heap.size w w':=by
 have:=bits_core (hiW v) (loW v) w (by unfold loW;omega)
 rw [mkBits_bit] at this
 exact this
theorem IsArr.drewN {w:World} {b:Nat} {f:Nat→Int} (h:IsArr w b f) (n:Nat):IsArr (w.drewN n) b f:=h
def mkArr (F:Nat→Int) (k j:Nat):Int:=if j<k then F j else 0
theorem mkArr_step (F:Nat→Int) (k j:Nat) (x:Int) (h:x=F k):(if j=k then x else mkArr F k j)=mkArr F (k+1) j:=by
 unfold mkArr
 by_cases h2:j=k
 ·subst h2;rw [if_pos rfl,if_pos (by omega:j<j+1),h]
 ·rw [if_neg h2]
  by_cases h3:j<k
  ·rw [if_pos h3,if_pos (by omega:j<k+1)]
  ·rw [if_neg h3,if_neg (by omega:¬ j<k+1)]
theorem mkArr_zero (F:Nat→Int) (j:Nat):0=mkArr F 0 j:=by unfold mkArr;rw [if_neg (by omega)]
theorem mkArr_all (F:Nat→Int):arr (mkArr F 128)=arr F:=arr_congr fun j hj=>by unfold mkArr;rw [if_pos hj]
theorem radd_any (u v:Int) (w:World) :
 Calls Tryz.prog 159 #[.agg (arr (bitZ u)),.agg (arr (bitZ v))] w fun e w'=>e = .returned (.agg (arr (bitZ (u+v))))∧Below w.heap.size w w':=by
 have hza:=zeroArr
 go_enter Tryz.func159,Tryz.ntmps159
 go_wp2
 go_loopw [6,7,8] (fun c i _ wr=>∃ k:Nat,k≤128∧i = .int .i64 k∧c = .int .i64 (car u v k)∧IsArr wr w.heap.size (bitZ u)∧IsArr wr (w.heap.size+1) (bitZ v)∧IsArr wr (w.heap.size+1+1) (fun _=>0)∧IsArr wr (w.heap.size+1+1+1) (mkArr (bitZ (u+v)) k)∧Below w.heap.size w wr) (fun _ i _ _=>(128-(intOf i)).toNat)
 case atStart =>
  have a0:=(((IsArr.new w (bitZ u)).alloc (.cells (arr (bitZ v)) 193)).alloc (.cells (arr fun _=>0) 193)).alloc (.cells (arr fun _=>0) 193)
  have a1:=((IsArr.new (w.alloc (.cells (arr (bitZ u)) 193)) (bitZ v)).alloc (.cells (arr fun _=>0) 193)).alloc (.cells (arr fun _=>0) 193)
  have a2:=(IsArr.new ((w.alloc (.cells (arr (bitZ u)) 193)).alloc (.cells (arr (bitZ v)) 193)) (fun _=>0)).alloc (.cells (arr fun _=>0) 193)
  have a3:=IsArr.new (((w.alloc (.cells (arr (bitZ u)) 193)).alloc (.cells (arr (bitZ v)) 193)).alloc (.cells (arr fun _=>0) 193)) (fun _=>0)
  simp only [World.size_alloc] at a1 a2 a3
  exact ⟨0,by omega,rfl,int_int (car_zero u v).symm,a0,a1,a2,a3.congr (fun j _=>mkArr_zero _ _),((((Below.refl _ _).alloc (Nat.le_refl _) _).alloc (by simp) _).alloc (by simp;omega) _).alloc (by simp;omega) _⟩
 case round =>
  obtain ⟨k,hk,rfl,rfl,ha0,ha1,ha2,ha3,hbl⟩:=hrel
  by_cases hz:k<128
  ·have hc0:=ha0.cell (j:=k) (by omega)
   have hc1:=ha1.cell (j:=k) (by omega)
   have hc3:=ha3.cell (j:=k) (by omega)
   have hf3:=ha3.frozen k
   have b0:=bit_01 u k
   have b1:=bit_01 v k
   have b2:=car_01 u v k
   have HA:=Lib.hid (And.intro ha0 (And.intro ha1 (And.intro ha2 ha3)))
   clear ha0 ha1 ha2 ha3
   have s1:IntKind.i64.wrap (bitZ u k+bitZ v k)=bitZ u k+bitZ v k:=by rw [i64w];omega
   have s2:IntKind.i64.wrap (bitZ u k+bitZ v k+car u v k)=bitZ u k+bitZ v k+car u v k:=by rw [i64w];omega
   go_wp2
   go_quiet (fail)
   go_wp2
   go_roundw
   case rel =>
    obtain ⟨ha0,ha1,ha2,ha3⟩:=HA.out
    refine ⟨k+1,by omega,by go_num,int_int (car_step u v k),(ha0.drewN _).setOther _ (by simp;omega) _,(ha1.drewN _).setOther _ (by simp) _,(ha2.drewN _).setOther _ (by simp) _,?_,(below_drewN hbl _).setCell (by simp;omega) _⟩
    exact ((ha3.drewN _).set _ _).congr fun j _=>mkArr_step _ k j _ (sum_bit u v k)
   case measure=>simp [intOf];omega
  ·obtain rfl:k=128:=by omega
   have HA:=Lib.hid (And.intro ha2 ha3)
   clear ha0 ha1 ha2 ha3
   go_wp2_with (first
    | refine wpList_load_row rfl 193 _ rfl (w.heap.size+1+1+1) rfl 193 _ (0,0) _ HA.out.2 Tryz.underlying193 rfl (infoArr _) ?_
    | refine wpList_store_row rfl 193 _ _ rfl (w.heap.size+1+1) _ rfl rfl 193 _ HA.out.1 (infoArr _) (by rw [arr_size,arr_size]) (arr_one _) ?_)
   exact bodyPost_ret (v:=.agg (arr (mkArr (bitZ (u+v)) 128))) (results_cell_row Tryz.results159 _ _ (w.heap.size+1+1) 193 _ (0,0) _ rfl (HA.out.1.setRow _) Tryz.underlying193 rfl (infoArr _)) rfl ⟨by rw [mkArr_all],below_setRow hbl (by omega) _⟩
end Go.Proofs.YtmpefjnfelfnfaaGreatDoor
