/- Lines in plain words; maps by entities. -/
import Derived.Test.YtjgmbjfijpmhdaaGreatDoorZVab
import Derived.Test.YtjgmbjfijpmhdaaGreatDoorZBa
import Derived.Test.YtjgmbjfijpmhdaaGreatDoorZYab
import Derived.Test.YtjgmbjfijpmhdaaGreatDoorZJall
import Derived.Test.YtjgmbjfijpmhdaaGreatDoorZTall
import Derived.WalkSpells
import Derived.Lib.SliceRun
import Derived.Laws.StructEq
import Derived.Test.YtjgmbjfijpmhdaaGreatDoorZKall
namespace Go.Proofs.YtjgmbjfijpmhdaaGreatDoor
open Go.RowKit
set_option linter.unusedVariables false
set_option linter.unusedSimpArgs false
structure En where
 n:Nat
 h:n<65536
deriving DecidableEq
structure Ln where
 acc:Nat
 ent:En
 ctr:Nat
 amt:Int
 ha:acc<4294967296
 hc:ctr<65536
 hm : -9223372036854775808≤amt∧amt≤9223372036854775807
deriving DecidableEq
def lc (x:Ln):List Value:=[.int .u32 (x.acc:Int),.int .u16 (x.ent.n:Int),.int .u16 (x.ctr:Int),.int .i64 x.amt]
theorem lc_len (x:Ln):(lc x).length=4:=rfl
def ep (x:Ln):En × Int:=(x.ent,x.amt)
def sumE (ls:List Ln) (n:En):Option Int:=sumK (ls.map ep) n
def ec (n:En):Value:=.int .u16 (n.n:Int)
theorem ec_inj (x y:En) (h:ec x=ec y):x=y:=by
 unfold ec at h
 injection h with _ h
 obtain ⟨a,ha⟩:=x
 obtain ⟨b,hb⟩:=y
 have h':(a:Int)=(b:Int):=h
 have:a=b:=by omega
 subst this;rfl
theorem ec_key (x:En):∃ q,keyOf Tryz.prog 77 (ec x)=some q:=by
 refine ⟨.int .u16 (x.n:Int),?_⟩
 have hw:(Lit.int .u16 (x.n:Int)).wf=true:=by
  have:=x.h
  exact WalkArith.wf_u16 (by omega)
 simp [keyOf,mapKey,Tryz.underlying77,ec,hw]
theorem law_e:Maps.Keyed Tryz.prog 77:=Maps.int_keyed Tryz.underlying77
def bv (v:Int):Value:=.agg (arr (bitZ v))
def wv9 (n:Int):Value:=.agg #[.int .i64 (hiW n),.int .u64 (loW n)]
theorem hi9:hiW 0=0:=by unfold hiW;rw [i64w];decide
theorem lo9:loW 0=0:=by unfold loW;decide
theorem zero_w9 (w:World):(zeroValue 313).run Tryz.prog w = .ok (wv9 0) w:=by
 unfold wv9;rw [hi9,lo9];kernel_rfl
theorem map_w:MapT Tryz.prog 300 77 313 ec wv9 0:=⟨law_e,Tryz.underlying300,ec_key,ec_inj,zero_w9⟩
def badB (ls:List Ln):Bool:=ls.any (fun x=>decide ((sumE ls x.ent).getD 0 % 340282366920938463463374607431768211456≠0))
def chkJ (d:Int) (ls:List Ln):Int :=
 if d < -719162∨2932896<d then 13 else if ls.length<1∨60<ls.length then 2 else if (ls.any fun x=>decide (x.amt=0∨x.amt = -9223372036854775808))=true then 5 else if badB ls=true then 14 else 0
def MapV (v:Value) (M:List (En × Int)) (w:World):Prop:=(v = .map none∧M=[]) ∨ ∃ b,v = .map (some b)∧MapOf ec wv9 b M w
theorem MapV.look {v:Value} {M:List (En × Int)} {w:World} (h:MapV v M w) (x:En):(Instr.lookup 300 v (ec x) false).run Tryz.prog w = .ok (wv9 ((getK M x).getD 0)) w:=by
 rcases h with ⟨rfl,rfl⟩ | ⟨b,rfl,h⟩
 ·exact map_w.look_nil x w
 ·have:=h.look map_w x false
  simpa using this
theorem MapV.len {v:Value} {M:List (En × Int)} {w:World} (h:MapV v M w) (ty:TypeId):(Builtin.len_ #[300] ty #[v]).run Tryz.prog w = .ok (goInt M.length) w:=by
 rcases h with ⟨rfl,rfl⟩ | ⟨b,rfl,h⟩
 ·simp [Builtin.len_,run_underlying (Tryz.underlying300)]
 ·exact h.len map_w ty
theorem MapV.stay {v:Value} {M:List (En × Int)} {w w':World} (h:MapV v M w) (hb:Below w.heap.size w w'):MapV v M w':=by
 rcases h with h | ⟨b,rfl,h⟩
 ·exact .inl h
 ·exact .inr ⟨b,rfl,h.below hb h.lt⟩
theorem MapV.nodup {v:Value} {M:List (En × Int)} {w:World} (h:MapV v M w):(M.map Prod.fst).Nodup:=by
 rcases h with ⟨_,rfl⟩ | ⟨b,rfl,h⟩
 ·exact List.nodup_nil
 ·exact h.nodup
