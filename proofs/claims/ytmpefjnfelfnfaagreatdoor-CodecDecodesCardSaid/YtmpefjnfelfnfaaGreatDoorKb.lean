/- Contracts of law 4's year, month, Number, Right. -/
import Derived.Test.YtmpefjnfelfnfaaGreatDoorKall
import Derived.Below
import Derived.Lib.Hide
import Derived.Test.YtmpefjnfelfnfaaGreatDoorOne
import Derived.LoopTactic
set_option maxHeartbeats 2000000
namespace Go.Proofs.YtmpefjnfelfnfaaGreatDoor
open Go.RowKit
set_option linter.unusedVariables false
set_option linter.unusedSimpArgs false
theorem year_any (y:Int) (w:World) (h0:0≤y) (h1:y≤20000) :
 Calls Tryz.prog 157 #[.int .i64 y] w fun e w'=>e = .returned (.int .i64 (yl y))∧w=w':=by
 by_cases a:y % 400=0
 ·have e1:(y % 400 == 0)=true:=by simpa using a
  have e:yl y=366:=by unfold yl;rw [if_pos (.inl a)]
  rw [e]
  go_enter Tryz.func157,Tryz.ntmps157
  go_wp2
  go_ret
  exact ⟨rfl,rfl⟩
 ·have e1:(y % 400 == 0)=false:=by simpa using a
  by_cases b:y % 4=0
  ·have e2:(y % 4 == 0)=true:=by simpa using b
   by_cases c:y % 100=0
   ·have e3:(y % 100 != 0)=false:=by simpa using c
    have e:yl y=365:=by unfold yl;rw [if_neg (by rintro (h | h);exact a h;exact h.2 c)]
    rw [e]
    go_enter Tryz.func157,Tryz.ntmps157
    go_wp2
    go_ret
    exact ⟨rfl,rfl⟩
   ·have e3:(y % 100 != 0)=true:=by simpa using c
    have e:yl y=366:=by unfold yl;rw [if_pos (.inr ⟨b,c⟩)]
    rw [e]
    go_enter Tryz.func157,Tryz.ntmps157
    go_wp2
    go_ret
    exact ⟨rfl,rfl⟩
  ·have e2:(y % 4 == 0)=false:=by simpa using b
   have e:yl y=365:=by unfold yl;rw [if_neg (by rintro (h | h);exact a h;exact b h.1)]
   rw [e]
   go_enter Tryz.func157,Tryz.ntmps157
   go_wp2
   go_ret
   exact ⟨rfl,rfl⟩
theorem month_any (y m:Int) (w:World) (h0:0≤y) (h1:y≤20000) :
 Calls Tryz.prog 158 #[.int .i64 y,.int .i64 m] w fun e w'=>e = .returned (.int .i64 (ml y m))∧w=w':=by
 have K:=Lib.hid (year_any y w h0 h1)
 have hy:=yl_two y
 by_cases a:m=4∨m=6∨m=9∨m=11
 ·have e:ml y m=30:=by unfold ml;rw [if_pos a]
  rw [e]
  rcases a with rfl | rfl | rfl | rfl
  all_goals
   go_enter Tryz.func158,Tryz.ntmps158
   go_wp2
   go_ret
   exact ⟨rfl,rfl⟩
 ·have a1:(m == 4)=false:=beq_eq_false_iff_ne.2 fun h=>a (.inl h)
  have a2:(m == 6)=false:=beq_eq_false_iff_ne.2 fun h=>a (.inr (.inl h))
  have a3:(m == 9)=false:=beq_eq_false_iff_ne.2 fun h=>a (.inr (.inr (.inl h)))
  have a4:(m == 11)=false:=beq_eq_false_iff_ne.2 fun h=>a (.inr (.inr (.inr h)))
  by_cases b:m=2
  ·subst b
   have e:ml y 2=yl y-337:=by unfold ml;rw [if_neg a,if_pos rfl]
   rw [e]
   clear e a a1 a2 a3 a4
   generalize yl y=q at *
   go_enter Tryz.func158,Tryz.ntmps158
   go_wp2_with (go_at_call 157;refine K.out.mono ?_;rintro e w1 ⟨rfl,rfl⟩)
   go_ret
   exact ⟨rfl,rfl⟩
  ·have b1:(m == 2)=false:=beq_eq_false_iff_ne.2 b
   have e:ml y m=31:=by unfold ml;rw [if_neg a,if_neg b]
   rw [e]
   clear a b
   go_enter Tryz.func158,Tryz.ntmps158
   go_wp2
   go_ret
   exact ⟨rfl,rfl⟩
theorem number_of (y m d:Int) (w:World) (h1:1≤y) (h2:y≤9999) (h3:1≤m) (h4:m≤12) (h5:0≤d) (h6:d≤1000) :
 Calls Tryz.prog 129 #[.int .i64 y,.int .i64 m,.int .i64 d] w fun e w'=>e = .returned (.int .i64 (numD y m d))∧w=w':=by
 have K:=Lib.hid (fun k (h0:0≤k) (h1:k≤20000)=>year_any k w h0 h1)
 have M:=Lib.hid (fun k=>month_any y k w (by omega) (by omega))
 have D:=Lib.hid (fun k (a:1≤k) (b:k≤10000)=>dby_bd a b)
 have S:=Lib.hid (fun k=>dby_step k)
 have S7:=Lib.hid dby_1970
 have B:=Lib.hid (fun k (a:1≤k) (b:k≤12)=>dbm_bd y a b)
 have BS:=Lib.hid (fun k (a:1≤k) (b:k≤12)=>dbm_step y a b)
 have B1:=Lib.hid (dbm_one y)
 have Y2:=Lib.hid (fun k=>yl_two k)
 have L:=Lib.hid (fun k=>ml_bd y k)
 have N:=Lib.hid (show numD y m d=dby y-719162+dbm y m+d-1 from rfl)
 have by0:=D.out y h1 (by omega)
 go_enter Tryz.func129,Tryz.ntmps129
 go_wp2
 go_loop [7,8] (fun s k=>∃ q:Int,k = .int .i64 q∧1970≤q∧(q≤y∨q=1970)∧s = .int .i64 (dby q-719162)) (fun _ k=>(y-RowKit.intOf k).toNat)
 case atStart=>exact ⟨1970,rfl,by omega,.inr rfl,int_int (by rw [S7.out];rfl)⟩
 case round =>
  obtain ⟨q,rfl,q1,q2,rfl⟩:=hrel
  by_cases hlt:q<y
  ·have c:=K.out q (by omega) (by omega)
   have dq:=D.out q (by omega) (by omega)
   have sq:=Lib.hid (S.out q)
   have yq:=Y2.out q
   generalize dby q=t at *
   generalize yl q=u at *
   go_wp2_with (go_at_call 157;refine c.mono ?_;rintro e w1 ⟨rfl,rfl⟩)
   go_round
   case rel=>exact ⟨q+1,by first | rfl | go_num,by omega,by omega,int_int (by rw [sq.out];omega)⟩
   case measure=>simp [RowKit.intOf];omega
  ·have st:∃ t:Int,dby q-719162=t∧((y≤1970∧t=0)∨(1970<y∧t=dby y-719162)):=by
    refine ⟨_,rfl,?_⟩
    rcases q2 with q2 | rfl
    ·obtain rfl:q=y:=by omega
     by_cases h:q≤1970
     ·obtain rfl:q=1970:=by omega
      exact .inl ⟨by omega,by rw [S7.out];rfl⟩
     ·exact .inr ⟨by omega,rfl⟩
    ·exact .inl ⟨by omega,by rw [S7.out];rfl⟩
   obtain ⟨t,ht,st⟩:=st
   rw [ht]
   have ST:=Lib.hid st
   clear ht st
   go_wp2
   go_loop [7,9] (fun s k=>∃ q t:Int,k = .int .i64 q∧s = .int .i64 t∧((y≤1970∧y≤q∧q≤1970∧t=dby y-dby q)∨(1970<y∧q=y∧t=dby y-719162))) (fun _ k=>(1970-RowKit.intOf k).toNat)
   case atStart =>
    refine ⟨y,_,rfl,rfl,?_⟩
    rcases ST.out with ⟨a,b⟩ | ⟨a,b⟩
    ·exact .inl ⟨a,by omega,a,by rw [b];omega⟩
    ·exact .inr ⟨a,rfl,b⟩
   case round =>
    obtain ⟨q,s,rfl,rfl,hq⟩:=hrel
    by_cases hlt:q<1970
    ·rcases hq with ⟨a1,a2,a3,rfl⟩ | ⟨a1,rfl,_⟩
     ·have c:=K.out q (by omega) (by omega)
      have dq:=D.out q (by omega) (by omega)
      have sq:=Lib.hid (S.out q)
      have yq:=Y2.out q
      generalize dby q=t at *
      generalize yl q=u at *
      generalize dby y=z at *
      go_wp2_with (go_at_call 157;refine c.mono ?_;rintro e w1 ⟨rfl,rfl⟩)
      go_round
      case rel=>exact ⟨q+1,_,by first | rfl | go_num,rfl,.inl ⟨a1,by omega,by omega,by rw [sq.out];omega⟩⟩
      case measure=>simp [RowKit.intOf];omega
     ·omega
    ·obtain rfl:s=dby y-719162:=by
      rcases hq with ⟨a1,a2,a3,rfl⟩ | ⟨a1,rfl,rfl⟩
      ·obtain rfl:q=1970:=by omega
       rw [S7.out]
      ·rfl
     clear hq
     go_wp2
     go_loop [7,10] (fun s k=>∃ q:Int,k = .int .i64 q∧1≤q∧q≤m∧s = .int .i64 (dby y-719162+dbm y q)) (fun _ k=>(m-RowKit.intOf k).toNat)
     case atStart=>exact ⟨1,rfl,by omega,h3,int_int (by rw [B1.out];omega)⟩
     case round =>
      obtain ⟨q,rfl,q1,q2,rfl⟩:=hrel
      have bq:=B.out q (by omega) (by omega)
      have yy:=Y2.out y
      have lq:=L.out q
      by_cases hlt:q<m
      ·have c:=M.out q
       have sq:=Lib.hid (BS.out q (by omega) (by omega))
       generalize dbm y q=t at *
       generalize dby y=z at *
       generalize yl y=x at *
       generalize ml y q=u at *
       go_wp2_with (go_at_call 158;refine c.mono ?_;rintro e w1 ⟨rfl,rfl⟩)
       go_round
       case rel=>exact ⟨q+1,by first | rfl | go_num,by omega,by omega,int_int (by rw [sq.out];omega)⟩
       case measure=>simp [RowKit.intOf];omega
      ·obtain rfl:q=m:=by omega
       generalize dbm y q=t at *
       generalize dby y=z at *
       generalize yl y=x at *
       go_wp2
       go_ret
       exact ⟨ret_int N.out.symm,rfl⟩
end Go.Proofs.YtmpefjnfelfnfaaGreatDoor
