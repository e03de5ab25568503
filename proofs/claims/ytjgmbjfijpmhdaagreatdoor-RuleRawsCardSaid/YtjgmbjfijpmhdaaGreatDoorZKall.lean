/- Days in plain words: years, months, a day's number; each date has its own number, and each number from the first day to the last one date. -/
import Derived.Test.YtjgmbjfijpmhdaaGreatDoorChecked
import Derived.WalkKit
import Derived.Test.YtjgmbjfijpmhdaaGreatDoorZOne
import Derived.Below
import Derived.Lib.Hide
import Derived.LoopTactic
import Derived.Test.YtjgmbjfijpmhdaaGreatDoorZThree
import Derived.Lib.LaidTab
import Derived.Deep.RegionWith
import Derived.Test.YtjgmbjfijpmhdaaGreatDoorZTwo
import Derived.IntWalk
import Derived.Deep.QuietTactic
import Derived.BigQuiet
set_option maxRecDepth 100000
set_option maxHeartbeats 4000000
namespace Go.Proofs.YtjgmbjfijpmhdaaGreatDoor
open Go.RowKit
set_option linter.unusedVariables false
set_option linter.unusedSimpArgs false
def yl (y:Int):Int:=if y % 400=0∨(y % 4=0∧y % 100≠0) then 366 else 365
def ml (y m:Int):Int:=if m=4∨m=6∨m=9∨m=11 then 30 else if m=2 then yl y-337 else 31
def dby (y:Int):Int:=365 * (y-1)+(y-1) / 4-(y-1) / 100+(y-1) / 400
def dbm (y m:Int):Int:=if m=1 then 0 else if m=2 then 31 else (yl y-365)+(if m=3 then 59 else if m=4 then 90 else if m=5 then 120 else if m=6 then 151 else if m=7 then 181 else if m=8 then 212 else if m=9 then 243 else if m=10 then 273 else if m=11 then 304 else if m=12 then 334 else 365)
def numD (y m d:Int):Int:=dby y-719162+dbm y m+d-1
def RightD (y m d:Int):Prop:=1≤y∧y≤9999∧1≤m∧m≤12∧1≤d∧d≤ml y m
theorem yl_two (y:Int):yl y=365∨yl y=366:=by unfold yl;split <;> simp
theorem dby_step (y:Int):dby (y+1)=dby y+yl y:=by
 unfold dby yl
 split
 ·omega
 ·omega
theorem dby_mono {y z:Int} (h:y≤z):dby y≤dby z:=by unfold dby;omega
theorem m_cases {m:Int} (h1:1≤m) (h2:m≤12):m=1∨m=2∨m=3∨m=4∨m=5∨m=6∨m=7∨m=8∨m=9∨m=10∨m=11∨m=12:=by omega
theorem dbm_step (y:Int) {m:Int} (h1:1≤m) (h2:m≤12):dbm y (m+1)=dbm y m+ml y m:=by
 rcases m_cases h1 h2 with rfl | rfl | rfl | rfl | rfl | rfl | rfl | rfl | rfl | rfl | rfl | rfl <;> (unfold dbm ml;simp;try omega)
theorem dbm_one (y:Int):dbm y 1=0:=by unfold dbm;simp
theorem dbm_all (y:Int):dbm y 13=yl y:=by unfold dbm;simp
theorem ml_bd (y:Int) (m:Int):28≤ml y m∧ml y m≤31:=by
 have:=yl_two y
 unfold ml
 split
 ·omega
 ·split <;> omega
theorem dbm_mono (y:Int) {m k:Int} (h1:1≤m) (h:m≤k) (h2:k≤13):dbm y m≤dbm y k:=by
 obtain ⟨n,rfl⟩:∃ n:Nat,k=m+n:=⟨(k-m).toNat,by omega⟩
 induction n with
 | zero=>simp
 | succ n ih =>
  have h3:=ih (by omega) (by omega)
  have h4:=dbm_step y (m:=m+n) (by omega) (by omega)
  have h5:=ml_bd y (m+n)
  have e:m+((n+1:Nat):Int)=m+n+1:=by omega
  rw [e,h4];omega
theorem dbm_bd (y:Int) {m:Int} (h1:1≤m) (h2:m≤12):0≤dbm y m∧dbm y m+ml y m≤yl y:=by
 have a:=dbm_mono y (m:=1) (k:=m) (by omega) h1 (by omega)
 have b:=dbm_mono y (m:=m+1) (k:=13) (by omega) (by omega) (by omega)
 rw [dbm_one] at a
 rw [dbm_all,dbm_step y h1 h2] at b
 exact ⟨a,b⟩
theorem num_year {y m d:Int} (h:RightD y m d):dby y-719162≤numD y m d∧numD y m d<dby (y+1)-719162:=by
 obtain ⟨_,_,h1,h2,h3,h4⟩:=h
 have:=dbm_bd y h1 h2
 rw [dby_step]
 unfold numD
 omega
theorem num_range {y m d:Int} (h:RightD y m d) : -719162≤numD y m d∧numD y m d≤2932896:=by
 have a:=num_year h
 have b:=dby_mono (y:=1) (z:=y) h.1
 have c:=dby_mono (y:=y+1) (z:=10000) (by have:=h.2.1;omega)
 have e1:dby 1=0:=by decide
 have e2:dby 10000=3652059:=by decide
 omega
def Ahead (y m d y' m' d':Int):Prop:=y<y'∨(y=y'∧(m<m'∨(m=m'∧d<d')))
theorem num_some {n:Int} (h1 : -719162≤n) (h2:n≤2932896):∃ y m d,RightD y m d∧numD y m d=n:=by
 have up:∀ k:Nat, -719162+(k:Int)≤2932896 → ∃ y m d,RightD y m d∧numD y m d = -719162+(k:Int):=by
  intro k
  induction k with
  | zero=>intro _;exact ⟨1,1,1,by unfold RightD ml yl;decide,by decide⟩
  | succ k ih =>
   intro hk
   obtain ⟨y,m,d,⟨a1,a2,a3,a4,a5,a6⟩,e⟩:=ih (by omega)
   by_cases h1:d<ml y m
   ·exact ⟨y,m,d+1,⟨a1,a2,a3,a4,by omega,by omega⟩,by unfold numD at *;push_cast;omega⟩
   ·by_cases h2:m<12
    ·have hb:=ml_bd y (m+1)
     have hs:=dbm_step y a3 a4
     exact ⟨y,m+1,1,⟨a1,a2,by omega,by omega,by omega,by omega⟩,by unfold numD at *;push_cast;omega⟩
    ·obtain rfl:m=12:=by omega
     have hs:=dby_step y
     have hm:=dbm_step y (m:=12) (by omega) (by omega)
     have ha:=dbm_all y
     rw [show (12:Int)+1=13 by rfl,ha] at hm
     have en:numD y 12 d+1=dby (y+1)-719162:=by unfold numD;rw [hs];omega
     have hb:=ml_bd (y+1) 1
     have hy:y+1≤9999:=by
      by_cases hh:y+1≤9999
      ·exact hh
      ·exfalso
       have c:=dby_mono (y:=10000) (z:=y+1) (by omega)
       have e2:dby 10000=3652059:=by decide
       push_cast at hk
       omega
     exact ⟨y+1,1,1,⟨by omega,hy,by omega,by omega,by omega,by omega⟩,by unfold numD at *;rw [dbm_one];push_cast;omega⟩
 have:=up (n+719162).toNat (by omega)
 have e : -719162+((n+719162).toNat:Int)=n:=by omega
 rw [e] at this
 exact this
def digL (n:Nat):Nat→List UInt8
 | 0=>[]
 | k+1=>UInt8.ofNat (48+n / 10 ^ k % 10) :: digL n k
theorem digL_len (n:Nat):∀ k,(digL n k).length=k
 | 0=>rfl
 | k+1=>by unfold digL;rw [List.length_cons,digL_len n k]
def dateL (y m d:Int):List UInt8:=digL y.toNat 4 ++ [45] ++ digL m.toNat 2 ++ [45] ++ digL d.toNat 2
theorem dby_bd {y:Int} (h0:1≤y) (h1:y≤10000):0≤dby y∧dby y≤3652059:=by
 have a:=dby_mono h0
 have b:=dby_mono h1
 have e1:dby 1=0:=by decide
 have e2:dby 10000=3652059:=by decide
 omega
theorem dash (a:List UInt8):(⟨a.toArray⟩:ByteArray) ++ ⟨#[45]⟩=⟨(a ++ [45]).toArray⟩:=by
 apply ByteArray.ext
 simp
theorem both (a b:List UInt8):(⟨a.toArray⟩:ByteArray) ++ ⟨b.toArray⟩=⟨(a ++ b).toArray⟩:=by
 apply ByteArray.ext
 simp
theorem date_parts (Y M D:Nat):∃ l1 l2 l3:List UInt8,(⟨(digL Y 4).toArray⟩:ByteArray) ++ ⟨#[45]⟩=⟨l1.toArray⟩∧(⟨l1.toArray⟩:ByteArray) ++ ⟨(digL M 2).toArray⟩=⟨l2.toArray⟩∧(⟨l2.toArray⟩:ByteArray) ++ ⟨#[45]⟩=⟨l3.toArray⟩ ∧
 (⟨l3.toArray⟩:ByteArray) ++ ⟨(digL D 2).toArray⟩=⟨(dateL Y M D).toArray⟩∧l1.length=5∧l2.length=7∧l3.length=8∧(dateL Y M D).length=10:=by
 have a:=digL_len Y 4
 have b:=digL_len M 2
 have c:=digL_len D 2
 refine ⟨_,_,_,dash _,both _ _,dash _,?_,?_,?_,?_,?_⟩
 ·rw [both];rfl
 ·simp [a]
 ·simp [a,b]
 ·simp [a,b]
 ·unfold dateL;simp [a,b,c]
theorem i32_wf {n:Int} (h : -2147483648≤n∧n<2147483648):(Lit.int .i32 n).wf=true:=by
 simp [Lit.wf,IntKind.min,IntKind.max,IntKind.signed,IntKind.bits];omega
def strV (l:List UInt8):Value:=.string ⟨l.toArray⟩
structure DayC (I:World→Prop):Prop where
 stay:∀ {w w':World},I w→Below w.heap.size w w'→I w'
 tab:∀ {w:World},I w→Pow w∧6<w.heap.size
 of_yes:∀ (y m d:Int) (w:World),I w→RightD y m d→Calls Tryz.prog 225 #[.int .i64 y,.int .i64 m,.int .i64 d] w fun e w'=>e = .returned (.tuple #[.int .i32 (numD y m d),.bool true])∧Below w.heap.size w w'
 of_no:∀ (y m d:Int) (w:World),I w→(Lit.int .i64 y).wf=true→(Lit.int .i64 m).wf=true→(Lit.int .i64 d).wf=true → ¬ RightD y m d→Calls Tryz.prog 225 #[.int .i64 y,.int .i64 m,.int .i64 d] w fun e w'=>e = .returned (.tuple #[.int .i32 0,.bool false])∧Below w.heap.size w w'
 date_yes:∀ (y m d:Int) (w:World),I w→RightD y m d→Calls Tryz.prog 103 #[.int .i32 (numD y m d)] w fun e w'=>e = .returned (.tuple #[.int .i64 y,.int .i64 m,.int .i64 d])∧Below w.heap.size w w'
 date_no:∀ (n:Int) (w:World),I w→(Lit.int .i32 n).wf=true → ¬ (-719162≤n∧n≤2932896)→Calls Tryz.prog 103 #[.int .i32 n] w fun e w'=>e = .returned (.tuple #[.int .i64 0,.int .i64 0,.int .i64 0])∧Below w.heap.size w w'
 text_yes:∀ (y m d:Int) (w:World),I w→RightD y m d→Calls Tryz.prog 169 #[.int .i32 (numD y m d)] w fun e w'=>e = .returned (strV (dateL y m d))∧Below w.heap.size w w'
 text_no:∀ (n:Int) (w:World),I w→(Lit.int .i32 n).wf=true → ¬ (-719162≤n∧n≤2932896)→Calls Tryz.prog 169 #[.int .i32 n] w fun e w'=>e = .returned (strV [])∧Below w.heap.size w w'
 parse_yes:∀ (y m d:Int) (w:World),I w→RightD y m d→Calls Tryz.prog 196 #[strV (dateL y m d)] w fun e w'=>e = .returned (.tuple #[.int .i32 (numD y m d),.bool true])∧Below w.heap.size w w'
 parse_no:∀ (l:List UInt8) (w:World),I w→l.length≤9223372036854775807→(∀ y m d,RightD y m d→l≠dateL y m d)→Calls Tryz.prog 196 #[strV l] w fun e w'=>e = .returned (.tuple #[.int .i32 0,.bool false])∧Below w.heap.size w w'
def lens:List Int:=[31,28,31,30,31,30,31,31,30,31,30,31]
def LenTab (w : World) : Prop := Lib.TabIs Tryz.prog w "transposal/day.lengths" .i64 lens
theorem LenTab.stay {w w':World} (h:LenTab w) (hb:Below w.heap.size w w'):LenTab w':=by
 unfold LenTab Lib.TabIs World.var? at *
 have e : Tryz.prog.globalNamed "transposal/day.lengths" = some 0 := by kernel_rfl
 rw [e] at h ⊢
 simp only [Option.bind_some] at h ⊢
 have hlt:0<w.heap.size:=by
  rcases Nat.lt_or_ge 0 w.heap.size with h' | h'
  ·exact h'
  ·rw [Array.getElem?_eq_none h'] at h;cases h
 rw [hb.block 0 hlt]
 exact h
theorem LenTab.cell {w:World} (h:LenTab w) (i:Nat) (hi:i<12):w.cell? ⟨0,i,none⟩=some (.int .i64 (lens.getD i 0)) :=
 Lib.TabIs.cell h (by kernel_rfl) i hi
def leapB (y:Int):Bool:=decide (yl y=366)
theorem leap_any (y:Int) (w:World) (h0:0≤y) (h1:y≤20000) :
 Calls Tryz.prog 194 #[.int .i64 y] w fun e w'=>e = .returned (.bool (leapB y))∧w=w':=by
 by_cases a:y % 4=0
 ·have e1:(y % 4 == 0)=true:=by simpa using a
  by_cases b:y % 100=0
  ·have e2:(y % 100 != 0)=false:=by simpa using b
   by_cases c:y % 400=0
   ·have e3:(y % 400 == 0)=true:=by simpa using c
    have e:leapB y=true:=by unfold leapB yl;rw [if_pos (.inl c)];rfl
    rw [e]
    go_enter Tryz.func194,Tryz.ntmps194
    go_wp2
    go_ret
    exact ⟨rfl,rfl⟩
   ·have e3:(y % 400 == 0)=false:=by simpa using c
    have e:leapB y=false:=by unfold leapB yl;rw [if_neg (by rintro (h | h);exact c h;exact h.2 b)];rfl
    rw [e]
    go_enter Tryz.func194,Tryz.ntmps194
    go_wp2
    go_ret
    exact ⟨rfl,rfl⟩
  ·have e2:(y % 100 != 0)=true:=by simpa using b
   have e:leapB y=true:=by unfold leapB yl;rw [if_pos (.inr ⟨a,b⟩)];rfl
   rw [e]
   go_enter Tryz.func194,Tryz.ntmps194
   go_wp2
   go_ret
   exact ⟨rfl,rfl⟩
 ·have e1:(y % 4 == 0)=false:=by simpa using a
  have e:leapB y=false:=by unfold leapB yl;rw [if_neg (by rintro (h | h);exact a (by omega);exact a h.1)];rfl
  rw [e]
  go_enter Tryz.func194,Tryz.ntmps194
  go_wp2
  go_ret
  exact ⟨rfl,rfl⟩
theorem length_any (y m:Int) (w:World) (hL:LenTab w) (h0:0≤y) (h1:y≤20000) (h2:1≤m) (h3:m≤12) :
 Calls Tryz.prog 146 #[.int .i64 y,.int .i64 m] w fun e w'=>e = .returned (.int .i64 (ml y m))∧w=w':=by
 have c:∀ i,i<12→w.cell? ⟨0,i,none⟩=some (.int .i64 (lens.getD i 0)):=fun i hi=>hL.cell i hi
 have K:=Lib.hid (leap_any y w h0 h1)
 have C:=Lib.hid c
 clear c hL
 rcases m_cases h2 h3 with rfl | rfl | rfl | rfl | rfl | rfl | rfl | rfl | rfl | rfl | rfl | rfl
 case inr.inl =>
  have c:=C.out 1 (by omega)
  simp [lens] at c
  by_cases b:yl y=366
  ·have e:leapB y=true:=by unfold leapB;simpa using b
   have e':ml y 2=29:=by unfold ml;simp [b]
   rw [e] at K
   rw [e']
   go_enter Tryz.func146,Tryz.ntmps146
   go_wp2_with (go_at_call 194;refine K.out.mono ?_;rintro e w1 ⟨rfl,rfl⟩)
   go_ret
   exact ⟨rfl,rfl⟩
  ·have e:leapB y=false:=by unfold leapB;simpa using b
   have e':ml y 2=28:=by have:=yl_two y;unfold ml;simp;omega
   rw [e] at K
   rw [e']
   go_enter Tryz.func146,Tryz.ntmps146
   go_wp2_with (go_at_call 194;refine K.out.mono ?_;rintro e w1 ⟨rfl,rfl⟩)
   go_ret
   exact ⟨rfl,rfl⟩
 case inl=>have c:=C.out 0 (by omega);simp [lens] at c;go_enter Tryz.func146,Tryz.ntmps146;go_wp2;go_ret;exact ⟨rfl,rfl⟩
 case inr.inr.inl=>have c:=C.out 2 (by omega);simp [lens] at c;go_enter Tryz.func146,Tryz.ntmps146;go_wp2;go_ret;exact ⟨rfl,rfl⟩
 case inr.inr.inr.inl=>have c:=C.out 3 (by omega);simp [lens] at c;go_enter Tryz.func146,Tryz.ntmps146;go_wp2;go_ret;exact ⟨rfl,rfl⟩
 case inr.inr.inr.inr.inl=>have c:=C.out 4 (by omega);simp [lens] at c;go_enter Tryz.func146,Tryz.ntmps146;go_wp2;go_ret;exact ⟨rfl,rfl⟩
 case inr.inr.inr.inr.inr.inl=>have c:=C.out 5 (by omega);simp [lens] at c;go_enter Tryz.func146,Tryz.ntmps146;go_wp2;go_ret;exact ⟨rfl,rfl⟩
 case inr.inr.inr.inr.inr.inr.inl=>have c:=C.out 6 (by omega);simp [lens] at c;go_enter Tryz.func146,Tryz.ntmps146;go_wp2;go_ret;exact ⟨rfl,rfl⟩
 case inr.inr.inr.inr.inr.inr.inr.inl=>have c:=C.out 7 (by omega);simp [lens] at c;go_enter Tryz.func146,Tryz.ntmps146;go_wp2;go_ret;exact ⟨rfl,rfl⟩
 case inr.inr.inr.inr.inr.inr.inr.inr.inl=>have c:=C.out 8 (by omega);simp [lens] at c;go_enter Tryz.func146,Tryz.ntmps146;go_wp2;go_ret;exact ⟨rfl,rfl⟩
 case inr.inr.inr.inr.inr.inr.inr.inr.inr.inl=>have c:=C.out 9 (by omega);simp [lens] at c;go_enter Tryz.func146,Tryz.ntmps146;go_wp2;go_ret;exact ⟨rfl,rfl⟩
 case inr.inr.inr.inr.inr.inr.inr.inr.inr.inr.inl=>have c:=C.out 10 (by omega);simp [lens] at c;go_enter Tryz.func146,Tryz.ntmps146;go_wp2;go_ret;exact ⟨rfl,rfl⟩
 case inr.inr.inr.inr.inr.inr.inr.inr.inr.inr.inr=>have c:=C.out 11 (by omega);simp [lens] at c;go_enter Tryz.func146,Tryz.ntmps146;go_wp2;go_ret;exact ⟨rfl,rfl⟩
theorem ahead_any (y:Int) (w:World) (h0:1≤y) (h1:y≤20000) :
 Calls Tryz.prog 144 #[.int .i64 y] w fun e w'=>e = .returned (.int .i64 (dby y))∧w=w':=by
 go_enter Tryz.func144,Tryz.ntmps144
 go_wp2
 go_ret
 exact ⟨ret_int (by unfold dby;omega),rfl⟩
theorem guess_lo (s:Int):dby (s * 400 / 146097+1)≤s:=by unfold dby;omega
theorem guess_hi (s:Int):s<dby (s * 400 / 146097+1+1+1):=by unfold dby;omega
theorem dby_lt {y z s:Int} (h1:dby y≤s) (h2:s<dby z):y<z:=by
 by_cases h:y<z
 ·exact h
 ·have:=dby_mono (y:=z) (z:=y) (by omega)
  omega
theorem dayyear_any (y s:Int) (w:World) (h0:0≤s) (hs:s≤4000000) (h1:dby y≤s) (h2:s<dby (y+1)) :
 Calls Tryz.prog 145 #[.int .i64 s] w fun e w'=>e = .returned (.int .i64 y)∧w=w':=by
 have g1:=dby_lt (guess_lo s) h2
 have g2:=dby_lt h1 (guess_hi s)
 have K:=Lib.hid (fun w'=>ahead_any (s * 400 / 146097+1+1) w' (by omega) (by omega))
 by_cases c:dby (s * 400 / 146097+1+1)≤s
 ·have e:s * 400 / 146097+1+1=y:=by have:=dby_lt c h2;omega
  have E:=Lib.hid e
  clear e h1 h2 g1 g2
  generalize dby (s * 400 / 146097+1+1)=q at *
  go_enter Tryz.func145,Tryz.ntmps145
  go_wp2_with (go_at_call 144;refine (K.out _).mono ?_;rintro e w1 ⟨rfl,rfl⟩)
  go_ret
  exact ⟨ret_int E.out,rfl⟩
 ·have e:s * 400 / 146097+1=y:=by have:=dby_lt h1 (show s<dby (s * 400 / 146097+1+1) by omega);omega
  have E:=Lib.hid e
  clear e h1 h2 g1 g2
  generalize dby (s * 400 / 146097+1+1)=q at *
  go_enter Tryz.func145,Tryz.ntmps145
  go_wp2_with (go_at_call 144;refine (K.out _).mono ?_;rintro e w1 ⟨rfl,rfl⟩)
  go_ret
  exact ⟨ret_int E.out,rfl⟩
theorem of_right (y m d:Int) (w:World) (hL:LenTab w) (h:RightD y m d) :
 Calls Tryz.prog 225 #[.int .i64 y,.int .i64 m,.int .i64 d] w fun e w'=>e = .returned (.tuple #[.int .i32 (numD y m d),.bool true])∧w=w':=by
 have hr:=num_range h
 obtain ⟨h1,h2,h3,h4,h5,h6⟩:=h
 have K:=Lib.hid (fun k (a:1≤k) (b:k≤12)=>length_any y k w hL (by omega) (by omega) a b)
 have KM:=Lib.hid (length_any y m w hL (by omega) (by omega) h3 h4)
 have KA:=Lib.hid (ahead_any y w h1 (by omega))
 have db:=dby_bd h1 (show y≤10000 by omega)
 have mb:=ml_bd y m
 have B:=Lib.hid (fun k (a:1≤k) (b:k≤12)=>dbm_bd y a b)
 have BS:=Lib.hid (fun k (a:1≤k) (b:k≤12)=>dbm_step y a b)
 have B1:=Lib.hid (dbm_one y)
 have Y2:=yl_two y
 have L:=Lib.hid (fun k=>ml_bd y k)
 have N:=Lib.hid (show numD y m d=dby y-719162+dbm y m+d-1 from rfl)
 have n1:¬ y<1:=by omega
 have n2:¬ 9999<y:=by omega
 have n3:¬ m<1:=by omega
 have n4:¬ 12<m:=by omega
 have n5:¬ d<1:=by omega
 have n6:¬ ml y m<d:=by omega
 have bm:=B.out m h3 h4
 have N':dby y+dbm y m+d-1-719162=numD y m d:=by rw [N.out];omega
 generalize numD y m d=X at *
 have NX:=Lib.hid N'
 clear N N'
 have hz:∃ z,z=dby y:=⟨_,rfl⟩
 generalize dby y=z at *
 generalize yl y=x at *
 have hq:∃ q,q=ml y m:=⟨_,rfl⟩
 obtain ⟨q,hq⟩:=hq
 rw [← hq] at KM h6 mb n6 bm
 have HQ:=Lib.hid hq
 clear hq hz
 go_enter Tryz.func225,Tryz.ntmps225
 go_wp2_with (first
  | (go_at_call 146;refine KM.out.mono ?_;rintro e w1 ⟨rfl,rfl⟩)
  | (go_at_call 144;refine KA.out.mono ?_;rintro e w1 ⟨rfl,rfl⟩))
 go_loop [8,9] (fun s k=>∃ p:Int,k = .int .i64 p∧1≤p∧p≤m∧s = .int .i64 (z+dbm y p+d-1)) (fun _ k=>(m-RowKit.intOf k).toNat)
 case atStart=>exact ⟨1,rfl,by omega,h3,int_int (by rw [B1.out];omega)⟩
 case round =>
  obtain ⟨p,rfl,p1,p2,rfl⟩:=hrel
  have bp:=B.out p (by omega) (by omega)
  have lp:=L.out p
  by_cases hlt:p<m
  ·have c:=K.out p (by omega) (by omega)
   have sp:=Lib.hid (BS.out p (by omega) (by omega))
   generalize dbm y p=t at *
   generalize ml y p=u at *
   go_wp2_with (go_at_call 146;refine c.mono ?_;rintro e w1 ⟨rfl,rfl⟩)
   go_round
   case rel=>exact ⟨p+1,by first | rfl | go_num,by omega,by omega,int_int (by rw [sp.out];omega)⟩
   case measure=>simp [RowKit.intOf];omega
  ·obtain rfl:p=m:=by omega
   generalize dbm y p=t at *
   have nx:=NX.out
   clear NX
   have W:=IntKind.wrap_i32 X
   have e1:z+t+d-1-719162=X:=nx
   have E1:=Lib.hid e1
   have e2:IntKind.i32.wrap (z+t+d-1-719162)=X:=by rw [e1,IntKind.wrap_i32];omega
   clear e1 nx W
   go_wp2
   go_ret2
   exact ⟨by simp [*],rfl⟩
theorem of_wrong (y m d:Int) (w:World) (hL:LenTab w) (h:¬ RightD y m d) :
 Calls Tryz.prog 225 #[.int .i64 y,.int .i64 m,.int .i64 d] w fun e w'=>e = .returned (.tuple #[.int .i32 0,.bool false])∧w=w':=by
 by_cases g:1≤y∧y≤9999∧1≤m∧m≤12∧1≤d
 ·obtain ⟨h1,h2,h3,h4,h5⟩:=g
  have h6:¬ d≤ml y m:=fun h6=>h ⟨h1,h2,h3,h4,h5,h6⟩
  have KM:=Lib.hid (length_any y m w hL (by omega) (by omega) h3 h4)
  have b:=ml_bd y m
  clear h
  have n1:¬ y<1:=by omega
  have n2:¬ 9999<y:=by omega
  have n3:¬ m<1:=by omega
  have n4:¬ 12<m:=by omega
  have n5:¬ d<1:=by omega
  have n6:ml y m<d:=by omega
  generalize ml y m=q at *
  go_enter Tryz.func225,Tryz.ntmps225
  go_wp2_with (go_at_call 146;refine KM.out.mono ?_;rintro e w1 ⟨rfl,rfl⟩)
  go_ret2
  exact ⟨rfl,rfl⟩
 ·have n:decide (y<1)=true∨(decide (y<1)=false∧decide (9999<y)=true)∨(decide (y<1)=false∧decide (9999<y)=false∧decide (m<1)=true)∨(decide (y<1)=false∧decide (9999<y)=false∧decide (m<1)=false∧decide (12<m)=true)∨(decide (y<1)=false∧decide (9999<y)=false∧decide (m<1)=false∧decide (12<m)=false∧decide (d<1)=true):=by
   simp only [decide_eq_true_eq,decide_eq_false_iff_not];omega
  clear h g
  rcases n with n1 | ⟨n1,n2⟩ | ⟨n1,n2,n3⟩ | ⟨n1,n2,n3,n4⟩ | ⟨n1,n2,n3,n4,n5⟩
  all_goals
   go_enter Tryz.func225,Tryz.ntmps225
   go_wp2
   go_ret2
   exact ⟨rfl,rfl⟩
theorem dby_last:dby 10000=3652059:=by decide
theorem date_right (y m d:Int) (w:World) (hL:LenTab w) (h:RightD y m d) :
 Calls Tryz.prog 103 #[.int .i32 (numD y m d)] w fun e w'=>e = .returned (.tuple #[.int .i64 y,.int .i64 m,.int .i64 d])∧w=w':=by
 have hr:=num_range h
 have hy:=num_year h
 obtain ⟨h1,h2,h3,h4,h5,h6⟩:=h
 have K:=Lib.hid (fun k (a:1≤k) (b:k≤12)=>length_any y k w hL (by omega) (by omega) a b)
 have KA:=Lib.hid (ahead_any y w h1 (by omega))
 have KE:=Lib.hid (ahead_any 10000 w (by omega) (by omega))
 rw [dby_last] at KE
 have KY:=Lib.hid (dayyear_any y (numD y m d+719162) w (by omega) (by omega) (by omega) (by omega))
 have db:=dby_bd h1 (show y≤10000 by omega)
 have mb:=ml_bd y m
 have B:=Lib.hid (fun k (a:1≤k) (b:k≤12)=>dbm_bd y a b)
 have BM:=Lib.hid (fun k (a:1≤k) (b:k+1≤m)=>dbm_mono y (m:=k+1) (k:=m) (by omega) b (by omega))
 have BS:=Lib.hid (fun k (a:1≤k) (b:k≤12)=>dbm_step y a b)
 have B1:=Lib.hid (dbm_one y)
 have Y2:=yl_two y
 have L:=Lib.hid (fun k=>ml_bd y k)
 have bm:=B.out m h3 h4
 have N':numD y m d+719162-dby y+1=dbm y m+d:=by unfold numD;omega
 generalize numD y m d=X at *
 generalize dby (y+1)=z' at *
 have NX:=Lib.hid N'
 clear N'
 generalize dby y=z at *
 generalize yl y=x at *
 have H6:=Lib.hid h6
 have n0:¬ X+719162<0:=by omega
 have n1:¬ 3652059≤X+719162:=by omega
 obtain ⟨D,hD⟩:∃ D,D=dbm y m:=⟨_,rfl⟩
 rw [← hD] at bm
 rw [← hD] at NX
 have HD:=Lib.hid hD
 clear hD
 obtain ⟨M,hM⟩:∃ M,M=ml y m:=⟨_,rfl⟩
 rw [← hM] at bm mb h6
 have HM:=Lib.hid hM
 clear hM H6
 go_enter Tryz.func103,Tryz.ntmps103
 go_wp2_with (first
  | (go_at_call_of 144 (10000:Int);refine KE.out.mono ?_;rintro e w1 ⟨rfl,rfl⟩)
  | (go_at_call 145;refine KY.out.mono ?_;rintro e w1 ⟨rfl,rfl⟩)
  | (go_at_call 144;refine KA.out.mono ?_;rintro e w1 ⟨rfl,rfl⟩))
 go_loop [3,4] (fun k s=>∃ p:Int,k = .int .i64 p∧1≤p∧p≤m∧s = .int .i64 (D+d-dbm y p)) (fun k _=>(m-RowKit.intOf k).toNat)
 case atStart=>exact ⟨1,rfl,by omega,h3,int_int (by rw [B1.out,NX.out];omega)⟩
 case round =>
  obtain ⟨p,rfl,p1,p2,rfl⟩:=hrel
  have bp:=B.out p (by omega) (by omega)
  have lp:=L.out p
  have c:=K.out p (by omega) (by omega)
  by_cases hlt:p<m
  ·have sp:=Lib.hid (BS.out p (by omega) (by omega))
   have mp:=BM.out p (by omega) (by omega)
   rw [sp.out,← HD.out] at mp
   generalize dbm y p=t at *
   generalize ml y p=u at *
   go_wp2_with (go_at_call 146;refine c.mono ?_;rintro e w1 ⟨rfl,rfl⟩)
   go_round
   case rel=>exact ⟨p+1,by first | rfl | go_num,by omega,by omega,int_int (by rw [sp.out];omega)⟩
   case measure=>simp [RowKit.intOf];omega
  ·obtain rfl:p=m:=by omega
   have e:D+d-dbm y p=d:=by rw [HD.out];omega
   rw [e]
   rw [← HM.out] at c
   clear e
   have n2:¬ M<d:=by omega
   go_wp2_with (go_at_call 146;refine c.mono ?_;rintro e w1 ⟨rfl,rfl⟩)
   go_ret3
   exact ⟨rfl,rfl⟩
theorem date_wrong (n:Int) (w:World) (hn:(Lit.int .i32 n).wf=true) (h:¬ (-719162≤n∧n≤2932896)) :
 Calls Tryz.prog 103 #[.int .i32 n] w fun e w'=>e = .returned (.tuple #[.int .i64 0,.int .i64 0,.int .i64 0])∧w=w':=by
 have bn : -2147483648≤n∧n<2147483648:=by
  simp [Lit.wf,IntKind.min,IntKind.max,IntKind.signed,IntKind.bits] at hn;omega
 have KE:=Lib.hid (ahead_any 10000 w (by omega) (by omega))
 rw [dby_last] at KE
 rcases (by omega:n+719162<0∨(¬ n+719162<0∧3652059≤n+719162)) with n1 | ⟨n1,n2⟩
 all_goals
  clear h
  go_enter Tryz.func103,Tryz.ntmps103
  go_wp2_with (go_at_call 144;refine KE.out.mono ?_;rintro e w1 ⟨rfl,rfl⟩)
  go_ret3
  exact ⟨rfl,rfl⟩
end Go.Proofs.YtjgmbjfijpmhdaaGreatDoor
namespace Go.Proofs.YtjgmbjfijpmhdaaGreatDoor
open Go.RowKit Go.Sort Go.Lib
set_option linter.unusedVariables false
set_option linter.unusedSimpArgs false
def InI (w:World):Prop:=Pow w∧6<w.heap.size∧LenTab w
theorem InI.stay {w w':World} (h:InI w) (hb:Below w.heap.size w w'):InI w' :=
 ⟨h.1.stay h.2.1 hb,Nat.lt_of_lt_of_le h.2.1 hb.size,h.2.2.stay hb⟩
theorem InI.drew {w:World} (h:InI w):InI w.drew:=h.stay ((Below.refl _ _).drew)
def Stp (w0 w:World):Prop:=InI w∧Below w0.heap.size w0 w
theorem Stp.ini {w0 w:World} (h:Stp w0 w):InI w:=h.1
theorem Stp.drew {w0 w:World} (h:Stp w0 w):Stp w0 w.drew:=⟨h.1.drew,h.2.drew⟩
theorem Stp.next {w0 w w':World} (h:Stp w0 w) (hb:Below w.heap.size w w'):Stp w0 w':=⟨h.1.stay hb,h.2.trans (hb.mono h.2.size)⟩
theorem two_dig (c:Nat) (h:c<100):two c=digL c 2:=by
 unfold two digL digL digL
 have e:c / 10 % 10=c / 10:=by omega
 simp [e]
theorem hundred_dig (c:Nat) (h:c<100):Lib.decDigits (100+c)=49 :: digL c 2:=by rw [hundred_two c h,two_dig c h]
theorem myriad_dig (c:Nat) (h:c<10000):Lib.decDigits (10000+c)=49 :: digL c 4:=by
 rw [decDigits_ten (by omega),decDigits_ten (by omega),decDigits_ten (by omega),decDigits_ten (by omega),Lib.decDigits_one (by omega)]
 unfold digL digL digL digL digL
 have e0:(10000+c) / 10 / 10 / 10 / 10=1:=by omega
 have e1:(10000+c) / 10 / 10 / 10 % 10=c / 10 ^ 3 % 10:=by omega
 have e2:(10000+c) / 10 / 10 % 10=c / 10 ^ 2 % 10:=by omega
 have e3:(10000+c) / 10 % 10=c / 10 ^ 1 % 10:=by omega
 have e4:(10000+c) % 10=c / 10 ^ 0 % 10:=by omega
 rw [e0,e1,e2,e3,e4]
 rfl
theorem below_grow_any {w w':World} (h:∃ k os,w'=grow (w.drewN k) os):Below w.heap.size w w':=by
 obtain ⟨k,os,rfl⟩:=h
 exact below_grow w k os
theorem itoa_y (Y:Nat) (h:Y<10000) (w:World) (hI:InI w) :
 Calls Tryz.prog 206 #[.int .i64 (10000+(Y:Int))] w fun e w'=>e = .returned (.string ⟨(49 :: digL Y 4).toArray⟩)∧Below w.heap.size w w' :=
 (Tryz.strconv_Itoa (10000+(Y:Int)) (by omega) (by omega) w hI.1).mono fun e w' ⟨he,hb⟩=>by
  refine ⟨?_,below_grow_any hb⟩
  rw [he,show (10000+(Y:Int))=((10000+Y:Nat):Int) by omega,Lib.itoa_nonneg,myriad_dig Y h]
theorem itoa_m (Y:Nat) (h:Y<100) (w:World) (hI:InI w) :
 Calls Tryz.prog 206 #[.int .i64 (100+(Y:Int))] w fun e w'=>e = .returned (.string ⟨(49 :: digL Y 2).toArray⟩)∧Below w.heap.size w w' :=
 (Tryz.strconv_Itoa (100+(Y:Int)) (by omega) (by omega) w hI.1).mono fun e w' ⟨he,hb⟩=>by
  refine ⟨?_,below_grow_any hb⟩
  rw [he,show (100+(Y:Int))=((100+Y:Nat):Int) by omega,Lib.itoa_nonneg,hundred_dig Y h]
theorem cut_one (b:UInt8) (l:List UInt8) (w:World) :
 (Instr.slice 9 (.string ⟨(b :: l).toArray⟩) (some (.int .i64 1)) none none).run Tryz.prog w = .ok (.string ⟨l.toArray⟩) w:=by
 rw [run_slice_string_l w 9 _ Tryz.underlying9 .i64 1 (by decide) (by simp [ByteArray.size];omega),← bytes_tail b l]
 rfl
theorem text_right (y m d:Int) (w:World) (hI:InI w) (h:RightD y m d) :
 Calls Tryz.prog 169 #[.int .i32 (numD y m d)] w fun e w'=>e = .returned (strV (dateL y m d))∧Below w.heap.size w w':=by
 have K1:=Lib.hid (date_right y m d w hI.2.2 h)
 have mb:=ml_bd y m
 obtain ⟨h1,h2,h3,h4,h5,h6⟩:=h
 obtain ⟨Y,rfl⟩:=Int.eq_ofNat_of_zero_le (show 0≤y by omega)
 obtain ⟨M,rfl⟩:=Int.eq_ofNat_of_zero_le (show 0≤m by omega)
 obtain ⟨Q,rfl⟩:=Int.eq_ofNat_of_zero_le (show 0≤d by omega)
 have KY:=Lib.hid (fun w' (hw:InI w')=>itoa_y Y (by omega) w' hw)
 have KM:=Lib.hid (fun w' (hw:InI w')=>itoa_m M (by omega) w' hw)
 have KD:=Lib.hid (fun w' (hw:InI w')=>itoa_m Q (by omega) w' hw)
 have yl4:=digL_len Y 4
 have ml2:=digL_len M 2
 have dl2:=digL_len Q 2
 obtain ⟨l1,l2,l3,g1,g2,g3,g4,n1,n2,n3,n4⟩:=date_parts Y M Q
 have c1:=cut_one 49 (digL Y 4)
 have c2:=cut_one 49 (digL M 2)
 have c3:=cut_one 49 (digL Q 2)
 unfold strV
 have x1:IntKind.i64.wrap (10000+(Y:Int))=10000+(Y:Int):=IntWalk.i64_in _ (by omega)
 have x2:IntKind.i64.wrap (100+(M:Int))=100+(M:Int):=IntWalk.i64_in _ (by omega)
 have x3:IntKind.i64.wrap (100+(Q:Int))=100+(Q:Int):=IntWalk.i64_in _ (by omega)
 have y0:((Y:Int) == 0)=false:=by simp;omega
 generalize digL Y 4=sy at *
 generalize digL M 2=sm at *
 generalize digL Q 2=sd at *
 generalize dateL Y M Q=T at *
 generalize numD Y M Q=N at *
 clear h6 mb h1 h2 h3 h4 h5
 go_enter Tryz.func169,Tryz.ntmps169
 go_wp2_with (go_at_call 103;refine K1.out.mono ?_;rintro e w1 ⟨rfl,rfl⟩)
 have s0:Stp w w:=⟨hI,Below.refl _ _⟩
 go_region_with (first
  | (go_at_call_of 206 Y;refine (KY.out _ (Stp.ini (by first | exact s0 | exact s0.drew | exact s0.drew.drew))).mono ?_;rintro e w1 ⟨rfl,hb1⟩;have s1:=Stp.next (w0:=w) (by first | exact s0 | exact s0.drew | exact s0.drew.drew) hb1)
  | (go_at_call_of 206 M;refine (KM.out _ (Stp.ini (by first | exact s1 | exact s1.drew | exact s1.drew.drew))).mono ?_;rintro e w2 ⟨rfl,hb2⟩;have s2:=Stp.next (w0:=w) (by first | exact s1 | exact s1.drew | exact s1.drew.drew) hb2)
  | (go_at_call_of 206 Q;refine (KD.out _ (Stp.ini (by first | exact s2 | exact s2.drew | exact s2.drew.drew))).mono ?_;rintro e w3 ⟨rfl,hb3⟩;have s3:=Stp.next (w0:=w) (by first | exact s2 | exact s2.drew | exact s2.drew.drew) hb3))
 all_goals
  go_wp2
  go_ret
  exact ⟨rfl,by first | exact s3.2 | exact s3.drew.2 | exact s3.drew.drew.2⟩
def dgtB (l:List UInt8):Int:=l.foldl (fun n b=>n * 10+(b.toNat:Int)-48) 0
theorem dgtB_snoc (l:List UInt8) (b:UInt8):dgtB (l ++ [b])=dgtB l * 10+(b.toNat:Int)-48:=by unfold dgtB;simp
theorem dgtB_bd (l:List UInt8) (h:l.length≤4) : -1000000≤dgtB l∧dgtB l≤1000000:=by
 match l,h with
 | [],_=>simp [dgtB]
 | [a],_=>have:=a.toNat_lt;simp [dgtB];omega
 | [a,b],_=>have:=a.toNat_lt;have:=b.toNat_lt;simp [dgtB];omega
 | [a,b,c],_=>have:=a.toNat_lt;have:=b.toNat_lt;have:=c.toNat_lt;simp [dgtB];omega
 | [a,b,c,d],_=>have:=a.toNat_lt;have:=b.toNat_lt;have:=c.toNat_lt;have:=d.toNat_lt;simp [dgtB];omega
 | _ :: _ :: _ :: _ :: _ :: _,h=>simp at h
theorem take_next (s:ByteArray) (k:Nat) (h:k<s.size):s.data.toList.take (k+1)=s.data.toList.take k ++ [s[k]]:=by
 rw [List.take_succ_eq_append_getElem (by simpa using h)];rfl
theorem daynumber_any (s:ByteArray) (w:World) (hs:s.size≤4) :
 Calls Tryz.prog 226 #[.string s] w fun e w'=>e = .returned (.int .i64 (dgtB s.data.toList))∧w'=w:=by
 go_enter Tryz.func226,Tryz.ntmps226
 go_wp2
 go_loop [3,7] (fun n i=>∃ k:Nat,k≤s.size∧i = .int .i64 k∧n = .int .i64 (dgtB (s.data.toList.take k))) (fun _ i=>s.size-(RowKit.intOf i).toNat)
 case atStart=>exact ⟨0,Nat.zero_le _,rfl,rfl⟩
 case round =>
  obtain ⟨k,hk,rfl,rfl⟩:=hrel
  have hb:=dgtB_bd (s.data.toList.take k) (by have:=List.length_take_le k s.data.toList;omega)
  by_cases hlt:k<s.size
  ·have e:=dgtB_snoc (s.data.toList.take k) s[k]
   rw [← take_next s k hlt] at e
   have E:=Lib.hid e
   have hc:=(s[k]).toNat_lt
   clear e
   generalize dgtB (s.data.toList.take k)=q at *
   go_wp2
   go_round
   case rel=>exact ⟨k+1,by omega,by go_num,int_int (by rw [E.out])⟩
   case measure=>simp [RowKit.intOf];omega
  ·go_wp2
   go_ret
   exact ⟨ret_int (by rw [List.take_of_length_le (by simp;omega)]),rfl⟩
theorem below_drewN (w:World) (k:Nat):Below w.heap.size w (w.drewN k):=by
 refine ⟨rfl,rfl,rfl,?_,fun j hj=>?_⟩
 ·simp
 ·simp
theorem parse_short (l:List UInt8) (w:World) (hm:l.length≤9223372036854775807) (h:¬ l.length=10) :
 Calls Tryz.prog 196 #[strV l] w fun e w'=>e = .returned (.tuple #[.int .i32 0,.bool false])∧Below w.heap.size w w':=by
 have e0:(⟨l.toArray⟩:ByteArray).size=l.length:=by simp [ByteArray.size]
 unfold strV
 generalize (⟨l.toArray⟩:ByteArray)=s at *
 rw [← e0] at hm h
 clear e0
 have e1:((s.size:Int) != 10)=true:=by simp;omega
 clear h
 go_enter Tryz.func196,Tryz.ntmps196
 go_wp2
 go_ret2
 exact ⟨rfl,Below.refl _ _⟩
theorem parse_parts (l:List UInt8) (h:l.length=10):∃ p1 p2 p3:ByteArray,p1.data.toList=l.take 4∧p2.data.toList=(l.drop 5).take 2∧p3.data.toList=l.drop 8∧p1.size≤4∧p2.size≤4∧p3.size≤4 ∧
 (∀ W:World,(Instr.slice 9 (.string ⟨l.toArray⟩) none (some (.int .i64 4)) none).run Tryz.prog W = .ok (.string p1) W) ∧
 (∀ W:World,(Instr.slice 9 (.string ⟨l.toArray⟩) (some (.int .i64 5)) (some (.int .i64 7)) none).run Tryz.prog W = .ok (.string p2) W) ∧
 (∀ W:World,(Instr.slice 9 (.string ⟨l.toArray⟩) (some (.int .i64 8)) none none).run Tryz.prog W = .ok (.string p3) W):=by
 have hs:(⟨l.toArray⟩:ByteArray).size=10:=by rw [← h];simp [ByteArray.size]
 refine ⟨(⟨l.toArray⟩:ByteArray).extract 0 4,(⟨l.toArray⟩:ByteArray).extract 5 7,(⟨l.toArray⟩:ByteArray).extract 8 (⟨l.toArray⟩:ByteArray).size,?_,?_,?_,?_,?_,?_,fun W=>?_,fun W=>?_,fun W=>?_⟩
 ·rw [Lib.extract_data];simp
 ·rw [Lib.extract_data]
 ·rw [Lib.extract_data,hs];simp;rw [List.take_of_length_le (by rw [List.length_drop];omega)]
 ·simp [hs]
 ·simp [hs]
 ·simp [hs]
 ·rw [run_slice_string_h W 9 _ Tryz.underlying9 .i64 4 (by decide) (by omega)];rfl
 ·rw [run_slice_string W 9 _ .i64 .i64 5 7 Tryz.underlying9 (by decide) (by decide) (by omega)];rfl
 ·rw [run_slice_string_l W 9 _ Tryz.underlying9 .i64 8 (by decide) (by omega)];rfl
theorem parse_wrong (l:List UInt8) (w:World) (hI:InI w) (h:l.length=10) (hw:¬ RightD (dgtB (l.take 4)) (dgtB ((l.drop 5).take 2)) (dgtB (l.drop 8))) :
 Calls Tryz.prog 196 #[strV l] w fun e w'=>e = .returned (.tuple #[.int .i32 0,.bool false])∧Below w.heap.size w w':=by
 obtain ⟨p1,p2,p3,d1,d2,d3,z1,z2,z3,s1,s2,s3⟩:=parse_parts l h
 have e0:(⟨l.toArray⟩:ByteArray).size=l.length:=by simp [ByteArray.size]
 have C1:=Lib.hid (fun W=>daynumber_any p1 W z1)
 have C2:=Lib.hid (fun W=>daynumber_any p2 W z2)
 have C3:=Lib.hid (fun W=>daynumber_any p3 W z3)
 rw [← d1,← d2,← d3] at hw
 have O:=Lib.hid (fun (W:World) (hW:InI W)=>(of_wrong _ _ _ W hW.2.2 hw).mono fun e w' ⟨a,b⟩=>(⟨a,b.symm⟩:e=Ending.returned (.tuple #[.int .i32 0,.bool false])∧w'=W))
 have hJ:∀ k,InI (w.drewN k):=fun k=>hI.stay (below_drewN w k)
 clear hw d1 d2 d3 z1 z2 z3
 generalize dgtB p1.data.toList=a at *
 generalize dgtB p2.data.toList=b at *
 generalize dgtB p3.data.toList=c at *
 unfold strV
 generalize (⟨l.toArray⟩:ByteArray)=s at *
 rw [h] at e0
 have e1:((s.size:Int) != 10)=false:=by simp;omega
 clear h e0
 have J:=Lib.hid hJ
 clear hJ
 go_enter Tryz.func196,Tryz.ntmps196
 go_wp2
 go_quiet (first
  | (go_at_call_of 226 p1;exact Calls.quiet_of_same (C1.out _))
  | (go_at_call_of 226 p2;exact Calls.quiet_of_same (C2.out _))
  | (go_at_call_of 226 p3;exact Calls.quiet_of_same (C3.out _))
  | (go_at_call 225;exact Calls.quiet_of_same (O.out _ (J.out _))))
 go_wp2
 go_ret2
 exact ⟨rfl,below_drewN _ _⟩
theorem parse_right (l:List UInt8) (y m d:Int) (w:World) (hI:InI w) (h:l.length=10) (hy:dgtB (l.take 4)=y) (hm:dgtB ((l.drop 5).take 2)=m) (hd:dgtB (l.drop 8)=d) (hw:RightD y m d) (r:Bool) (hr:(dateL y m d == l)=r) :
 Calls Tryz.prog 196 #[strV l] w fun e w'=>e = .returned (.tuple #[.int .i32 (if r=true then numD y m d else 0),.bool r])∧Below w.heap.size w w':=by
 obtain ⟨p1,p2,p3,d1,d2,d3,z1,z2,z3,s1,s2,s3⟩:=parse_parts l h
 have e0:(⟨l.toArray⟩:ByteArray).size=l.length:=by simp [ByteArray.size]
 have e9:(⟨l.toArray⟩:ByteArray).toList=l:=ByteArray.toList_mk l
 have C1:=Lib.hid (fun W=>daynumber_any p1 W z1)
 have C2:=Lib.hid (fun W=>daynumber_any p2 W z2)
 have C3:=Lib.hid (fun W=>daynumber_any p3 W z3)
 rw [d1,hy] at C1
 rw [d2,hm] at C2
 rw [d3,hd] at C3
 have O:=Lib.hid (fun (W:World) (hW:InI W)=>(of_right y m d W hW.2.2 hw).mono fun e w' ⟨a,b⟩=>(⟨a,b.symm⟩:e=Ending.returned (.tuple #[.int .i32 (numD y m d),.bool true])∧w'=W))
 have T:=Lib.hid (fun (W:World) (hW:InI W)=>text_right y m d W hW hw)
 unfold strV at T
 have J:=Lib.hid (fun k=>hI.stay (below_drewN w k))
 clear hw d1 d2 d3 z1 z2 z3 hy hm hd
 generalize numD y m d=N at *
 generalize dateL y m d=D at *
 unfold strV
 generalize (⟨l.toArray⟩:ByteArray)=s at *
 rw [h] at e0
 have e1:((s.size:Int) != 10)=false:=by simp;omega
 clear h e0
 cases r with
 | true =>
  rw [← e9] at hr
  clear e9
  go_enter Tryz.func196,Tryz.ntmps196
  go_wp2
  go_quiet (first
   | (go_at_call_of 226 p1;exact Calls.quiet_of_same (C1.out _))
   | (go_at_call_of 226 p2;exact Calls.quiet_of_same (C2.out _))
   | (go_at_call_of 226 p3;exact Calls.quiet_of_same (C3.out _))
   | (go_at_call 225;exact Calls.quiet_of_same (O.out _ (J.out _))))
  go_wp2_with (go_at_call 169;refine (T.out _ (J.out _)).mono ?_;rintro e w1 ⟨rfl,hb1⟩)
  go_ret2
  exact ⟨rfl,(below_drewN _ _).trans (hb1.mono (below_drewN _ _).size)⟩
 | false =>
  rw [← e9] at hr
  clear e9
  go_enter Tryz.func196,Tryz.ntmps196
  go_wp2
  go_quiet (first
   | (go_at_call_of 226 p1;exact Calls.quiet_of_same (C1.out _))
   | (go_at_call_of 226 p2;exact Calls.quiet_of_same (C2.out _))
   | (go_at_call_of 226 p3;exact Calls.quiet_of_same (C3.out _))
   | (go_at_call 225;exact Calls.quiet_of_same (O.out _ (J.out _))))
  go_wp2_with (go_at_call 169;refine (T.out _ (J.out _)).mono ?_;rintro e w1 ⟨rfl,hb1⟩)
  go_ret2
  exact ⟨rfl,(below_drewN _ _).trans (hb1.mono (below_drewN _ _).size)⟩
theorem dig_nat (n:Nat) (h:n<10):(UInt8.ofNat (48+n)).toNat=48+n:=by simp;omega
theorem numB_four (n:Nat) (h:n<10000):dgtB (digL n 4)=n:=by
 unfold digL digL digL digL digL
 simp only [dgtB,List.foldl]
 rw [dig_nat _ (by omega),dig_nat _ (by omega),dig_nat _ (by omega),dig_nat _ (by omega)]
 omega
theorem numB_two (n:Nat) (h:n<100):dgtB (digL n 2)=n:=by
 unfold digL digL digL
 simp only [dgtB,List.foldl]
 rw [dig_nat _ (by omega),dig_nat _ (by omega)]
 omega
theorem dateL_one (y m d:Int):(dateL y m d).take 4=digL y.toNat 4:=rfl
theorem dateL_two (y m d:Int):((dateL y m d).drop 5).take 2=digL m.toNat 2:=rfl
theorem dateL_three (y m d:Int):(dateL y m d).drop 8=digL d.toNat 2:=rfl
theorem dateL_ten (y m d:Int):(dateL y m d).length=10:=rfl
theorem date_reads {y m d:Int} (h:RightD y m d):dgtB ((dateL y m d).take 4)=y∧dgtB (((dateL y m d).drop 5).take 2)=m∧dgtB ((dateL y m d).drop 8)=d:=by
 have mb:=ml_bd y m
 obtain ⟨h1,h2,h3,h4,h5,h6⟩:=h
 rw [dateL_one,dateL_two,dateL_three,numB_four _ (by omega),numB_two _ (by omega),numB_two _ (by omega)]
 omega
end Go.Proofs.YtjgmbjfijpmhdaaGreatDoor
namespace Go.Proofs.YtjgmbjfijpmhdaaGreatDoor
open Go.RowKit
set_option linter.unusedVariables false
set_option linter.unusedSimpArgs false
theorem inI {w:World} (h:Pow w) (hw:6<w.heap.size) (hL:LenTab w):InI w:=⟨h,hw,hL⟩
theorem text_wrong (n:Int) (w:World) (hn:(Lit.int .i32 n).wf=true) (h:¬ (-719162≤n∧n≤2932896)) :
 Calls Tryz.prog 169 #[.int .i32 n] w fun e w'=>e = .returned (strV [])∧Below w.heap.size w w':=by
 have K1:=Lib.hid (date_wrong n w hn h)
 unfold strV
 clear h
 go_enter Tryz.func169,Tryz.ntmps169
 go_wp2_with (go_at_call 103;refine K1.out.mono ?_;rintro e w1 ⟨rfl,rfl⟩)
 go_ret
 exact ⟨rfl,Below.refl _ _⟩
theorem dayC:DayC InI where
 stay h hb:=h.stay hb
 tab h:=⟨h.1,h.2.1⟩
 of_yes y m d w hI h:=(of_right y m d w hI.2.2 h).mono fun e w' ⟨a,b⟩=>⟨a,b ▸ Below.refl _ _⟩
 of_no y m d w hI _ _ _ h:=(of_wrong y m d w hI.2.2 h).mono fun e w' ⟨a,b⟩=>⟨a,b ▸ Below.refl _ _⟩
 date_yes y m d w hI h:=(date_right y m d w hI.2.2 h).mono fun e w' ⟨a,b⟩=>⟨a,b ▸ Below.refl _ _⟩
 date_no n w hI hn h:=(date_wrong n w hn h).mono fun e w' ⟨a,b⟩=>⟨a,b ▸ Below.refl _ _⟩
 text_yes y m d w hI h:=text_right y m d w hI h
 text_no n w hI hn h:=text_wrong n w hn h
 parse_yes y m d w hI h:=by
  obtain ⟨a,b,c⟩:=date_reads h
  exact parse_right (dateL y m d) y m d w hI (dateL_ten y m d) a b c h true (by simp)
 parse_no l w hI hl h:=by
  by_cases h10:l.length=10
  ·by_cases hr:RightD (dgtB (l.take 4)) (dgtB ((l.drop 5).take 2)) (dgtB (l.drop 8))
   ·exact parse_right l _ _ _ w hI h10 rfl rfl rfl hr false (beq_eq_false_iff_ne.2 fun e=>h _ _ _ hr e.symm)
   ·exact parse_wrong l w hI h10 hr
  ·exact parse_short l w hl h10
