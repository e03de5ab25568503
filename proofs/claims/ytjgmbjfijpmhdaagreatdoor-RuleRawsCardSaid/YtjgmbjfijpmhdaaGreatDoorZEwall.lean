/- Fixed calls reckoned: strings and their bytes, len, cap, copy. It speaks of any program. -/
import Derived.Test.YtjgmbjfijpmhdaaGreatDoorZEvall
import Derived.Test.YtjgmbjfijpmhdaaGreatDoorZKall
import Derived.Recover
set_option maxHeartbeats 2000000
namespace Go.Proofs.YtjgmbjfijpmhdaaGreatDoor
open Go Go.RowKit
namespace Ev
set_option linter.unusedVariables false
set_option linter.unusedSimpArgs false
variable {P:Program}
theorem push_all:∀ (ns:List Int) (r:ByteArray),ns.foldl (fun r n=>r.push (UInt8.ofNat n.toNat)) r=⟨r.data ++ (ns.map fun n=>UInt8.ofNat n.toNat).toArray⟩
 | [],r=>by simp
 | n :: ns,r=>by
  rw [List.foldl_cons,push_all ns]
  simp [ByteArray.push]
theorem bw_heap (w:World) (e:TypeId) (b:ByteArray):(Lib.bytesWorld w e b).heap=w.heap.push (.cells (Lib.bytesCells w e b) e ((Lib.bytesCells w e b).size,(Lib.bytesCells w e b).size+1)):=by
 apply Array.ext_getElem?
 intro i
 rw [Array.getElem?_push]
 by_cases h1:i=w.heap.size
 ·subst h1;rw [if_pos rfl];exact Lib.bytesWorld_at_new w e b
 ·rw [if_neg h1]
  by_cases h2:i<w.heap.size
  ·exact Lib.bytesWorld_at_old w e b i h2
  ·rw [Array.getElem?_eq_none (by rw [Lib.bytesWorld_size];omega),Array.getElem?_eq_none (by omega)]
theorem bytesCells_size (w:World) (e:TypeId) (b:ByteArray):(Lib.bytesCells w e b).size=grownCap w b.size 0 e:=by
 have:=grown_ge w b.size 0 e
 have h2:b.data.size=b.size:=rfl
 unfold Lib.bytesCells
 simp [h2];omega
section
variable {ρ:Ren} {M:Mem} {s:St} {base:Nat} {w0 w:World}
theorem toBytes_ok (hI:In ρ M s base w0 w) {a:Act} {o:Oper} {src dst e:TypeId} {x:Operand} {b:ByteArray} {u:TypeDesc} (ho:o.op = .convert src dst x) (hx:a.eval x = .string b) (hs:P.underlying src=some u) (hd:P.underlying dst=some (.slice e)) (he:P.underlying e=some (.int .u8)) (hc:ρ s.c=none) :
 OpOk P ρ M s base w0 w (execOp a.eval o) (.val (.slice (some ⟨s.c,0,none⟩) b.size (BIG+1))) (new s (.cells (b.data.toList.map fun x=>some (.int .u8 (x.toNat:Int))) e true false)):=by
 refine ⟨Nat.le_succ _,mark_cov _ _,.slice (some ⟨w.heap.size,0,none⟩) b.size (grownCap w b.size 0 e),Lib.bytesWorld w e b,?_,?_⟩
 ·have:=Lib.run_convert_string_bytes w src dst e b hs hd he
  simp [execOp,ho,hx,this]
 ·have hsz:=bytesCells_size w e b
  have hge:=grown_ge w b.size 0 e
  have hds:b.data.size=b.size:=rfl
  have hbr:BR ρ (.cells (b.data.toList.map fun x=>some (.int .u8 (x.toNat:Int))) e true false) (.cells (Lib.bytesCells w e b) e ((Lib.bytesCells w e b).size,(Lib.bytesCells w e b).size+1)):=by
   refine ⟨fun _=>rfl,by simp [hsz,hds];exact hge,?_,fun _ i hi=>⟨fun h=>by simp only at h;omega,by simp⟩,fun i v hv=>?_⟩
   ·intro h;cases h
   ·rw [List.getElem?_map] at hv
    cases hb:b.data.toList[i]? with
    | none=>rw [hb] at hv;cases hv
    | some q =>
     rw [hb] at hv
     cases hv
     refine ⟨.int .u8 (q.toNat:Int),?_,.int _ _⟩
     have hlt:i<b.data.size:=by have:=(List.getElem?_eq_some_iff.1 hb).1;simpa using this
     unfold Lib.bytesCells
     rw [Array.getElem?_append_left (by simpa using hlt),Array.getElem?_map]
     rw [Array.getElem?_toList] at hb
     rw [hb];rfl
  refine Done.fresh (o:=.cells (Lib.bytesCells w e b) e ((Lib.bytesCells w e b).size,(Lib.bytesCells w e b).size+1)) hI rfl rfl rfl (bw_heap w e b) hbr rfl hc (fun ρ' hl hp=>VR.slice (k:=(w.heap.size,_)) 0 none b.size _ _ hp hge (fun h=>by omega) (fun _=>?_))
  simp only [cellsIn,hsz,Nat.add_sub_cancel_left]
  omega
theorem fromBytes_ok (hI:In ρ M s base w0 w) {T:Tmps} {a:Act} {o:Oper} {src dst e:TypeId} {x:Operand} {ad:Addr} {n c:Nat} {xs:List Value} (ho:o.op = .convert src dst x) (hv:VR ρ (.slice (some ad) n c) (a.eval x)) (hs:P.underlying src=some (.slice e)) (hd:P.underlying dst=some .string) (he:P.underlying e=some (.int .u8))
 (hc:cellsOf s 1 (.slice (some ad) n 0) n=some xs) (h8:xs.all (fun v=>match v with | .int .u8 _=>true | _=>false)=true) :
 OpOk P ρ M s base w0 w (execOp a.eval o) (.val (.string ⟨(xs.map fun v=>match v with | .int _ m=>UInt8.ofNat m.toNat | _=>0).toArray⟩)) s:=by
 obtain ⟨ns,rfl⟩:∃ ns:List Int,xs=ns.map (Value.int .u8):=by
  clear hc
  induction xs with
  | nil=>exact ⟨[],rfl⟩
  | cons v r ih =>
   simp only [List.all_cons,Bool.and_eq_true] at h8
   obtain ⟨ns,rfl⟩:=ih h8.2
   have h9:=h8.1
   split at h9
   ·exact ⟨_ :: ns,rfl⟩
   ·cases h9
 have hc':cellsOf s 1 (.slice (some ad) n c) n=some (ns.map (Value.int .u8)):=hc
 have hlen:=cellsOf_len hc'
 obtain ⟨ys,y1,y2⟩:=cellsOf_run (P:=P) hc' hI hv
 have hys:ys=ns.map (Value.int .u8):=by
  apply List.ext_getElem?
  intro i
  by_cases hi:i<ys.length
  ·have hi2:i<(ns.map (Value.int .u8)).length:=by rw [y1.1];exact hi
   have h3:=y1.2 i _ _ (List.getElem?_eq_getElem hi2) (List.getElem?_eq_getElem hi)
   rw [List.getElem?_eq_getElem hi,List.getElem?_eq_getElem hi2]
   simp only [List.getElem_map] at h3 ⊢
   cases h3':ys[i] with
   | int k m=>rw [h3'] at h3;cases h3;rfl
   | _=>rw [h3'] at h3;cases h3
  ·rw [List.getElem?_eq_none (by omega),List.getElem?_eq_none (by rw [y1.1];omega)]
 subst hys
 generalize hex:a.eval x=u at hv y2
 cases hv with
 | slice off sp n' c1 c' f1 f2 f3 f4 =>
  have hl:=y2 w (Same.refl w)
  simp only [Builtin.firstCells,Nat.mul_one] at hl
  have h6:=(fun (ad':Addr) (hl:(loadCells ad' n).run P w = .ok (ns.map (Value.int .u8)).toArray w)=>(run_convert_bytes_string (P:=P) w src dst e (some ad') n c' hs he hd).trans (run_bytesToString (P:=P) w ad' n c' ns hl)) _ hl
  refine ok_val hI (y:=.string ⟨(ns.map fun n=>UInt8.ofNat n.toNat).toArray⟩) ?_ ?_
  ·simp only [execOp,ho,hex,Sem.run_bind,Sem.run_map,bind_pure_comp,h6,push_all,Result.andThen_ok,Sem.run_pure]
   simp
  ·have:((ns.map (Value.int .u8)).map fun v=>match v with | .int _ m=>UInt8.ofNat m.toNat | _=>0)=ns.map fun n=>UInt8.ofNat n.toNat:=by simp
   rw [this]
   exact .string _
theorem run_mark {w:World} {k:Nat} {c:Array Value} {e:TypeId} {fz:Nat × Nat} (h:w.heap[k]?=some (.cells c e fz)) (hf:∀ i,i<c.size → ¬ (fz.1≤i∧i<fz.2)∧fz.1≤fz.2) {off:Nat} {sp:Option Nat} :
 ∃ w' fz',(markStringish ⟨k,off,sp⟩).run P w = .ok () w'∧WSet w w' k (.cells c e fz') ∧ ∀ i,i<c.size → ¬ (fz'.1≤i∧i<fz'.2)∧fz'.1≤fz'.2:=by
 have hsh:w.shape? k=some (e,c.size):=by simp [World.shape?,h]
 obtain ⟨lo,hi⟩:=fz
 refine ⟨w.freeze ⟨k,c.size,none⟩ 1,(if lo == hi then (c.size,c.size+1) else (min lo c.size,max hi (c.size+1))),?_,⟨rfl,rfl,rfl,?_,?_,fun j hj=>?_⟩,fun i hi2=>?_⟩
 ·simp [markStringish,shape,freeze,Sem.run,hsh]
 ·simp [World.freeze]
 ·simp [World.freeze,Array.getElem?_modify,h]
 ·simp only [World.freeze,if_neg Nat.one_ne_zero,Array.getElem?_modify]
  rw [if_neg (Ne.symm hj)]
 ·split
  ·simp only;omega
  ·rename_i hne
   have hne:lo≠hi:=by simpa using hne
   have h1:=hf i hi2
   have h0:=hf lo
   simp only at h1 h0 ⊢
   have:c.size≤lo:=by
    rcases Nat.lt_or_ge lo c.size with h3 | h3
    ·exact absurd ⟨Nat.le_refl _,by omega⟩ (h0 h3).1
    ·exact h3
   omega
theorem sameBytes_ok (hI:In ρ M s base w0 w) {a:Act} {o:Oper} {t e:TypeId} {x:Operand} {ad:Addr} {n c:Nat} {cs:List (Option Value)} {e':TypeId} {m:Bool} (ho:o.op = .convert t t x) (hv:VR ρ (.slice (some ad) n c) (a.eval x)) (hd:P.underlying t=some (.slice e)) (he:P.underlying e=some (.int .u8))
 (hg:get s.es ad.block=some (.cells cs e' m false)):OpOk P ρ M s base w0 w (execOp a.eval o) (.val (.slice (some ad) n c)) s:=by
 obtain ⟨b',k',ob,hM,hle,e1,e2,e3,e3',e4,e5⟩:=hI.see hg rfl
 obtain ⟨bn,off,sp⟩:=ad
 have hv2:=hv
 generalize hex:a.eval x=u at hv
 cases hv with
 | slice off sp n' c1 c' f1 f2 f3 f4 =>
  have ek:=Option.some.inj (e1.symm.trans f1)
  subst ek
  obtain ⟨cc,e'',fz,rfl⟩:∃ cc e'' fz,ob = .cells cc e'' fz:=by cases ob <;> first | exact ⟨_,_,_,rfl⟩ | exact e3.elim
  obtain ⟨cs',rfl,hlen⟩:=shp_cells hle.1
  obtain ⟨g1,g2,g3,g4,g5⟩:=e3'
  obtain ⟨w',fz',h1,h2,h3⟩:=run_mark (P:=P) e2 (g4 rfl) (off:=off) (sp:=sp)
  refine ⟨Nat.le_refl _,cov.refl _,.slice (some ⟨k'.1,off,sp⟩) n c',w',?_,?_⟩
  ·simp [execOp,ho,hex,convert,run_underlying hd,run_underlying he,h1]
  ·refine ⟨ρ,M,ρ.le_refl,fun _=>.inl rfl,⟨hI.sub,⟨fun m2 f hf hfd=>?_,hI.hr.inj,by rw [h2.size];exact hI.hr.base⟩,hI.bel.trans ⟨h2.os,h2.tape,h2.output,Nat.le_of_eq h2.size.symm,fun j hj=>h2.other j (by have:=e4 rfl;omega)⟩⟩,agree.refl _ _,.slice off sp n c c' f1 f2 f3 f4⟩
   by_cases hn:m2=bn
   ·subst hn
    rw [hM] at hf;cases hf
    exact ⟨k',_,f1,h2.at_,⟨g1,g2,g3,fun _=>h3,g5⟩,fun _=>e4 rfl,e5⟩
   ·obtain ⟨k2,o2,q1,q2,q3,q4,q5⟩:=hI.hr.blk m2 f hf hfd
    have hne:k2.1≠k'.1:=fun e=>hn (hI.hr.inj m2 bn f _ k2 k' hf hfd hM rfl q1 f1 e)
    exact ⟨k2,o2,q1,by rw [h2.other _ hne];exact q2,q3,q4,q5⟩
end
end Ev
namespace Ev
set_option linter.unusedVariables false
set_option linter.unusedSimpArgs false
variable {P:Program}
theorem pureRun_bind {α β:Type} (x:Sem α) (f:α→Sem β):pureRun P (x >>= f)=(pureRun P x).bind fun a=>pureRun P (f a):=by
 show pureRun P (x.bind f)=_
 induction x with
 | pure a=>rfl
 | program k ih=>simp only [Sem.bind,pureRun];exact ih P
 | mark m k ih=>simp only [Sem.bind,pureRun];exact ih
 | choose q k ih =>
  simp only [Sem.bind,pureRun]
  cases q.forced with
  | true=>exact ih 0
  | false=>rfl
 | _=>rfl
section
variable {ρ:Ren} {M:Mem} {s:St} {base:Nat} {w0 w:World}
def ERs (ρ:Ren) (es es':List MapEntry):Prop:=es.length=es'.length ∧ ∀ (i:Nat) (x y:MapEntry),es[i]?=some x→es'[i]?=some y→ER ρ x y
theorem ERs.tail {x y:MapEntry} {es es':List MapEntry} (h:ERs ρ (x :: es) (y :: es')):ER ρ x y∧ERs ρ es es' :=
 ⟨h.2 0 x y rfl rfl,by simpa using h.1,fun i a b h1 h2=>h.2 (i+1) a b (by simpa using h1) (by simpa using h2)⟩
def FR (ρ:Ren):Option (Nat × Value)→Option (Nat × Value)→Prop
 | none,none=>True
 | some (i,v),some (j,u)=>i=j∧VR ρ v u
 | _,_=>False
theorem findNow_rel {kind:TypeDesc} {k:Value}:∀ (es es':List MapEntry) (i:Nat),ERs ρ es es'→es.all (fun e=>fl e.key)=true →
 (∀ r,Instr.findNow kind k es i=some r → ∃ r',Instr.findNow kind k es' i=some r'∧FR ρ r r')∧(Instr.findNow kind k es i=none→Instr.findNow kind k es' i=none)
 | [],es',i,h,_=>by
  obtain rfl:es'=[]:=List.eq_nil_of_length_eq_zero (by simpa using h.1.symm)
  exact ⟨fun r hr=>⟨none,rfl,by simp only [Instr.findNow,Option.some.injEq] at hr;subst hr;trivial⟩,fun hn=>by simp [Instr.findNow] at hn⟩
 | e :: es,es',i,h,hf=>by
  cases es' with
  | nil=>simp [ERs] at h
  | cons e' es' =>
   obtain ⟨⟨h1,h2,h3⟩,ht⟩:=h.tail
   simp only [List.all_cons,Bool.and_eq_true] at hf
   have hk:e'.key=e.key:=fl_eq hf.1 h1
   have ih:=findNow_rel (kind:=kind) (k:=k) es es' (i+1) ht hf.2
   simp only [Instr.findNow,hk]
   cases Instr.sameNow kind k e.key with
   | none=>exact ⟨fun r hr=>(by cases hr),fun _=>rfl⟩
   | some b=>cases b with
    | true=>exact ⟨fun r hr=>by cases hr;exact ⟨_,rfl,show _∧_ from ⟨rfl,h2⟩⟩,fun hn=>by cases hn⟩
    | false=>exact ih
theorem findAsking_rel {kt:TypeId} {k:Value} (w:World):∀ (es es':List MapEntry) (i:Nat) (r:Option (Nat × Value)),ERs ρ es es'→es.all (fun e=>fl e.key)=true→pureRun P (Instr.findAsking kt k es i)=some r →
 ∃ r',(Instr.findAsking kt k es' i).run P w = .ok r' w∧FR ρ r r'
 | [],es',i,r,h,_,hr=>by
  obtain rfl:es'=[]:=List.eq_nil_of_length_eq_zero (by simpa using h.1.symm)
  simp only [Instr.findAsking] at hr
  cases hr
  exact ⟨none,rfl,trivial⟩
 | e :: es,es',i,r,h,hf,hr=>by
  cases es' with
  | nil=>simp [ERs] at h
  | cons e' es' =>
   obtain ⟨⟨h1,h2,h3⟩,ht⟩:=h.tail
   simp only [List.all_cons,Bool.and_eq_true] at hf
   have hk:e'.key=e.key:=fl_eq hf.1 h1
   simp only [Instr.findAsking] at hr
   rw [pureRun_bind] at hr
   cases hq:pureRun P (Op.equal kt k e.key) with
   | none=>rw [hq] at hr;cases hr
   | some b =>
    rw [hq] at hr
    simp only [Option.bind_some] at hr
    have hrun:=pureRun_run P _ _ w hq
    cases b with
    | true =>
     simp only [if_true] at hr
     cases hr
     exact ⟨some (i,e'.val),by simp [Instr.findAsking,hk,hrun],rfl,h2⟩
    | false =>
     simp only [Bool.false_eq_true,if_false] at hr
     obtain ⟨r',g1,g2⟩:=findAsking_rel w es es' (i+1) r ht hf.2 hr
     exact ⟨r',by simp [Instr.findAsking,hk,hrun,g1],g2⟩
theorem findKey_rel {kt:TypeId} {k:Value} {es es':List MapEntry} {r:Option (Nat × Value)} (w:World) (h:ERs ρ es es') (hf:es.all (fun e=>fl e.key)=true) (hr:pureRun P (Instr.findKey kt k es)=some r) :
 ∃ r',(Instr.findKey kt k es').run P w = .ok r' w∧FR ρ r r':=by
 unfold Instr.findKey at hr
 rw [pureRun_bind] at hr
 cases hu:pureRun P (underlying kt) with
 | none=>rw [hu] at hr;cases hr
 | some d =>
  rw [hu] at hr
  simp only [Option.bind_some] at hr
  have hrun:=pureRun_run P _ _ w hu
  obtain ⟨n1,n2⟩:=findNow_rel (kind:=d) (k:=k) es es' 0 h hf
  cases hn:Instr.findNow d k es 0 with
  | some q =>
   rw [hn] at hr
   cases hr
   obtain ⟨r',g1,g2⟩:=n1 _ hn
   exact ⟨r',by simp [Instr.findKey,hrun,g1],g2⟩
  | none =>
   rw [hn] at hr
   obtain ⟨r',g1,g2⟩:=findAsking_rel w es es' 0 r h hf hr
   exact ⟨r',by simp [Instr.findKey,hrun,n2 hn,g1],g2⟩
theorem mapOf_run {m m':Value} {es:List MapEntry} {clock:Nat} (h:mapOf s m=some (es,clock)) (hI:In ρ M s base w0 w) (hv:VR ρ m m') :
 (m = .map none∧m' = .map none∧es=[]∧clock=0) ∨ ∃ r k es' b',m = .map (some r)∧m' = .map (some k.1)∧ρ r=some k∧get s.es r=some (.map es clock)∧M r=some b'∧Le (.map es clock) b'∧w.heap[k.1]?=some (.map es' clock)∧ERs ρ es es'.toList∧k.2=0∧base≤k.1:=by
 unfold mapOf at h
 split at h
 ·rename_i r
  split at h
  ·rename_i es1 c1 hg
   cases h
   cases hv with
   | map e =>
    obtain ⟨b',k',o,hM,hle,e1,e2,e3,e3',e4,e5⟩:=hI.see hg rfl
    have ek:=Option.some.inj (e1.symm.trans e)
    subst ek
    cases o <;> try exact e3.elim
    obtain ⟨rfl,g2,g3⟩:=e3
    exact .inr ⟨r,k',_,b',rfl,rfl,e,hg,hM,hle,e2,⟨by simpa using g2.symm,fun i x y h1 h2=>g3 i x y h1 (by simpa using h2)⟩,e5.symm,e4 rfl⟩
  ·cases h
 ·cases h
  cases hv
  exact .inl ⟨rfl,rfl,rfl,rfl⟩
 ·cases h
theorem keyType_run {t:TypeId} {kt e:TypeId} (h:keyType P t=some (kt,e)):P.underlying t=some (.map kt e):=by
 unfold keyType at h
 split at h
 ·rename_i k e' hu;cases h;exact hu
 ·cases h
theorem findA_run {kt:TypeId} {k k':Value} {es es':List MapEntry} {r:Option (Nat × Value)} (w:World) (h:findA P kt k es=some r) (hk:VR ρ k k') (he:ERs ρ es es') :
 k'=k∧fl k=true∧es.all (fun e=>fl e.key)=true∧(∀ b,(Instr.checkKey b 10000 kt k').run P w = .ok () w) ∧ ∃ r',(Instr.findKey kt k' es').run P w = .ok r' w∧FR ρ r r':=by
 unfold findA at h
 split at h
 ·rename_i h1 h2
  obtain rfl:=fl_eq h1 hk
  split at h
  ·rename_i u1 u2 h3 h4
   refine ⟨rfl,h1,h2,fun b=>?_,findKey_rel w he h2 h⟩
   have g3:=pureRun_run P _ _ w h3
   have g4:=pureRun_run P _ _ w h4
   cases b with
   | false=>exact g4
   | true=>exact g3
  ·cases h
 ·cases h
theorem lookup_ok (hI:In ρ M s base w0 w) {T:Tmps} {a:Act} {o:Oper} {t:TypeId} {x ix:Operand} {ok:Bool} (ho:o.op = .lookup t x ix ok) (hO:Opd ρ T a o.op.operands.toList) {r:Res} {s':St}
 (h:(match opd T x,opd T ix,keyType P t with
  | some m,some k,some (kt,e)=>match mapOf s m with
   | some (es,_)=>match findA P kt k es with
    | some (some (_,v))=>val (okVal ok v true) s
    | some none=>match P.info? e with
     | some i=>match i.zero with
      | some z=>match fl z with
       | true=>val (okVal ok z false) s
       | false=>none
      | none=>none
     | none=>none
    | none=>none
   | none=>none
  | _,_,_=>none)=some (r,s')):OpOk P ρ M s base w0 w (execOp a.eval o) r s':=by
 have pair:∀ {v v':Value} {b:Bool},VR ρ v v'→VR ρ (okVal ok v b) (if ok then .tuple #[v',.bool b] else v'):=fun {v v' b} hv=>by
  cases ok with
  | false=>exact hv
  | true =>
   refine .tuple rfl (fun i x y h1 h2=>?_)
   match i,h1,h2 with
   | 0,h1,h2=>simp at h1 h2;subst h1;subst h2;exact hv
   | 1,h1,h2=>simp at h1 h2;subst h1;subst h2;exact .bool b
   | i+2,h1,h2=>simp at h1
 split at h
 ·rename_i m k kt e hx hix hk
  have vm:=hO x (by simp [ho,Op.operands]) _ hx
  have vk:=hO ix (by simp [ho,Op.operands]) _ hix
  have hu:=keyType_run hk
  split at h
  ·rename_i es clock hm
   have hgo:∃ es':Array MapEntry,ERs ρ es es'.toList∧((a.eval x = .map none∧es'=#[]) ∨ ∃ q,a.eval x = .map (some q)∧w.heap[q]?=some (.map es' clock)):=by
    rcases mapOf_run hm hI vm with ⟨_,h2,rfl,rfl⟩ | ⟨r1,k1,es',b',_,h2,_,_,_,_,h3,h4,_,_⟩
    ·exact ⟨#[],⟨rfl,fun i x y h1=>by simp at h1⟩,.inl ⟨h2,rfl⟩⟩
    ·exact ⟨es',h4,.inr ⟨_,h2,h3⟩⟩
   obtain ⟨es',hes,hcase⟩:=hgo
   cases hf:findA P kt k es with
   | none=>rw [hf] at h;cases h
   | some res =>
    rw [hf] at h
    obtain ⟨hkk,_,_,hck,r',hfk,hfr⟩:=findA_run w hf vk hes
    have hrun:∀ (v':Value) (b:Bool),(r'=none→b=false∧(zeroValue e).run P w = .ok v' w)→(∀ i u,r'=some (i,u)→b=true∧v'=u)→(execOp a.eval o).run P w = .ok (.value (if ok then .tuple #[v',.bool b] else v')) w:=fun v' b h1 h2=>by
     rcases hcase with ⟨c1,rfl⟩ | ⟨q,c1,c2⟩
     ·cases hr':r' with
      | none =>
       obtain ⟨rfl,hz⟩:=h1 hr'
       rw [hr'] at hfk
       simp at hfk
       simp [execOp,ho,Instr.lookup,run_underlying hu,c1,hck,hfk,hz]
      | some p =>
       obtain ⟨i,u⟩:=p
       obtain ⟨rfl,rfl⟩:=h2 i u hr'
       rw [hr'] at hfk
       simp at hfk
       simp [execOp,ho,Instr.lookup,run_underlying hu,c1,hck,hfk]
     ·have hg:(getObj q).run P w = .ok (.map es' clock) w:=by simp [getObj,Sem.run,c2]
      cases hr':r' with
      | none =>
       obtain ⟨rfl,hz⟩:=h1 hr'
       rw [hr'] at hfk
       simp [execOp,ho,Instr.lookup,run_underlying hu,c1,hg,hck,hfk,hz]
      | some p =>
       obtain ⟨i,u⟩:=p
       obtain ⟨rfl,rfl⟩:=h2 i u hr'
       rw [hr'] at hfk
       simp [execOp,ho,Instr.lookup,run_underlying hu,c1,hg,hck,hfk]
    cases res with
    | some p =>
     obtain ⟨i,v⟩:=p
     simp only at h
     obtain ⟨rfl,rfl⟩:=val_inv h
     cases r' with
     | none=>exact hfr.elim
     | some q =>
      obtain ⟨j,u⟩:=q
      exact ok_val hI (hrun u true (fun h=>by cases h) (fun i' u' h=>by cases h;exact ⟨rfl,rfl⟩)) (pair hfr.2)
    | none =>
     simp only at h
     cases r' with
     | some q=>exact hfr.elim
     | none =>
      split at h
      ·rename_i i hi
       split at h
       ·rename_i z hz
        split at h
        ·rename_i hfz
         obtain ⟨rfl,rfl⟩:=val_inv h
         exact ok_val hI (hrun z false (fun _=>⟨rfl,by simp [zeroValue,typeInfo,hi,hz]⟩) (fun i' u' h=>by cases h)) (pair (fl_refl ρ hfz))
        ·cases h
       ·cases h
      ·cases h
  ·cases h
 ·cases h
theorem ERs.modify {es es':List MapEntry} (h:ERs ρ es es') (i:Nat) {f g:MapEntry→MapEntry} (hf:∀ x y,ER ρ x y→ER ρ (f x) (g y)):ERs ρ (es.modify i f) (es'.modify i g) :=
 ⟨by simpa using h.1,fun j x y h1 h2=>by
  rw [List.getElem?_modify] at h1 h2
  cases ha:es[j]? with
  | none=>rw [ha] at h1;cases h1
  | some p =>
   cases hb:es'[j]? with
   | none=>rw [hb] at h2;cases h2
   | some q =>
    rw [ha] at h1;rw [hb] at h2
    have hpq:=h.2 j p q ha hb
    simp only [Option.map_some,Option.some.injEq,Functor.map] at h1 h2
    split at h1
    ·rename_i hij
     rw [if_pos hij] at h2
     subst h1;subst h2;exact hf p q hpq
    ·rename_i hij
     rw [if_neg hij] at h2
     subst h1;subst h2;exact hpq⟩
theorem ERs.push {es es':List MapEntry} (h:ERs ρ es es') {x y:MapEntry} (hx:ER ρ x y):ERs ρ (es ++ [x]) (es' ++ [y]) :=
 ⟨by simp [h.1],fun j a b h1 h2=>by
  by_cases hj:j<es.length
  ·rw [List.getElem?_append_left hj] at h1
   rw [List.getElem?_append_left (by rw [← h.1];exact hj)] at h2
   exact h.2 j a b h1 h2
  ·rw [List.getElem?_append_right (by omega)] at h1
   rw [List.getElem?_append_right (by rw [← h.1];omega),← h.1] at h2
   cases hk:j-es.length with
   | zero=>rw [hk] at h1 h2;simp at h1 h2;subst h1;subst h2;exact hx
   | succ n=>rw [hk] at h1;simp at h1⟩
theorem setObj_done {r:Nat} {k:Nat × Nat} {d b:Blk} {o o':Obj} (hI:In ρ M s base w0 w) (hM:M r=some d) (hd:isDead d=false) (hr:isRo d=false) (hk:ρ r=some k) (ho:w.heap[k.1]?=some o) (hcell:cellsIn o'=k.2) (hb:BR ρ b o') (hbr:isRo b=false) (hbd:isDead b=false) :
 Done ρ M s base w0 (put s r b) { w with heap:=w.heap.setIfInBounds k.1 o' } (fun ρ'=>ρ'=ρ):=by
 have hlt:=(Array.getElem?_eq_some_iff.1 ho).1
 refine Done.change (b:=d) (b':=b) (d:=b) (x:=⟨r,0,HI⟩) hI hM hd hr hk ⟨rfl,rfl,rfl,by simp,by simp [hlt],fun j hj=>?_⟩ hcell hb (Le.refl _) hbr hbd rfl (.inl (Nat.le_refl _)) rfl
 simp only [Array.getElem?_setIfInBounds]
 rw [if_neg (Ne.symm hj)]
theorem mapSet_ok (hI:In ρ M s base w0 w) {T:Tmps} {a:Act} {o:Oper} {t:TypeId} {x y z:Operand} (ho:o.op = .mapUpdate t x y z∨o.op = .insert t x y z) (hO:Opd ρ T a o.op.operands.toList) {r:Res} {s':St}
 (h:(match opd T x,opd T y,opd T z with
  | some mv,some kv,some v=>(mapSet P s t mv kv v).bind fun s1=>some (Res.skip,s1)
  | _,_,_=>none)=some (r,s')):OpOk P ρ M s base w0 w (execOp a.eval o) r s':=by
 have hops:o.op.operands.toList=[x,y,z]:=by rcases ho with e | e <;> simp [e,Op.operands]
 split at h
 ·rename_i mv kv v hx hy hz
  have vm:=hO x (by simp [hops]) _ hx
  have vk:=hO y (by simp [hops]) _ hy
  have vv:=hO z (by simp [hops]) _ hz
  cases hs:mapSet P s t mv kv v with
  | none=>rw [hs] at h;cases h
  | some s1 =>
   rw [hs] at h
   simp only [Option.bind_some,Option.some.injEq,Prod.mk.injEq] at h
   obtain ⟨rfl,rfl⟩:=h
   unfold mapSet at hs
   split at hs
   ·rename_i kt e0 q es clock hkt hmo
    have hu:=keyType_run hkt
    rcases mapOf_run hmo hI vm with ⟨h1,_⟩ | ⟨r1,k1,es',b',h1,h2,hk,hg,hM,hle,hh,hes,hc0,hbase⟩
    ·cases h1
    ·cases h1
     have hd:isDead b'=false:=by rw [← shp_dead hle.1];rfl
     have hro:isRo b'=false:=by rw [← shp_ro hle.1];rfl
     have hg2:(getObj k1.1).run P w = .ok (.map es' clock) w:=by simp [getObj,Sem.run,hh]
     have hset:∀ o':Obj,(setObj k1.1 o').run P w = .ok () { w with heap:=w.heap.setIfInBounds k1.1 o' }:=fun o'=>by simp [setObj,Sem.run,hh]
     split at hs
     ·rename_i i u hf
      obtain ⟨hkk,hflk,hfls,hck,r',hfk,hfr⟩:=findA_run w hf vk hes
      split at hs
      ·rename_i hsb
       cases hs
       cases r' with
       | none=>exact hfr.elim
       | some p =>
        obtain ⟨j,u'⟩:=p
        obtain ⟨rfl,hu'⟩:i=j∧VR ρ u u':=hfr
        have hkeys:((es'[i]?).map (·.key)).getD kv=((es[i]?).map (·.key)).getD kv:=by
         cases hei:es[i]? with
         | none =>
          have:es'[i]?=none:=by rw [← Array.getElem?_toList];exact List.getElem?_eq_none (by rw [← hes.1];exact List.getElem?_eq_none_iff.1 hei)
          rw [this]
         | some p =>
          have hlt:i<es'.size:=by have:=(List.getElem?_eq_some_iff.1 hei).1;have:=hes.1;simp at this;omega
          rw [Array.getElem?_eq_getElem hlt]
          have h5:=hes.2 i p es'[i] hei (by simp [hlt])
          simp only [Option.map_some,Option.getD_some]
          exact fl_eq (List.all_eq_true.1 hfls p (List.mem_of_getElem? hei)) h5.1
        have hkeep:(Instr.keyThatStays (((es'[i]?).map (·.key)).getD kv) kv).run P w = .ok kv w:=by
         rw [hkeys]
         simp [Instr.keyThatStays,hsb]
        have hbr:BR ρ (.map (es.modify i fun e=>{ e with key:=kv,val:=v }) clock) (.map (es'.modify i fun e=>{ e with key:=kv,val:=a.eval z }) clock):=by
         refine ⟨rfl,by simp [hes.1],fun j p q h5 h6=>?_⟩
         have h7:=(hes.modify i (f:=fun e=>{ e with key:=kv,val:=v }) (g:=fun e=>{ e with key:=kv,val:=a.eval z }) (fun x y hxy=>⟨fl_refl ρ hflk,vv,hxy.2.2⟩)).2 j p q h5
         refine h7 ?_
         rw [← h6,← Array.getElem?_toList,Array.toList_modify]
        refine ⟨Nat.le_refl _,mark_cov _ _,_,?_,(setObj_done (o':=.map (es'.modify i fun e=>{ e with key:=kv,val:=a.eval z }) clock) hI hM hd hro hk hh hc0.symm hbr rfl rfl).mono (fun _ _ _=>trivial)⟩
        ·rw [hkk] at hck hfk
         rcases ho with e | e <;> simp only [execOp,e,Instr.mapUpdate,Sem.run_bind,Sem.run_map,bind_pure_comp,run_underlying hu,Result.andThen_ok,h2,hkk,hg2,hck,hfk,hkeep,hset]
      ·cases hs
     ·rename_i hf
      obtain ⟨hkk,hflk,hfls,hck,r',hfk,hfr⟩:=findA_run w hf vk hes
      cases hs
      cases r' with
      | some p=>exact hfr.elim
      | none =>
       have hbr:BR ρ (.map (es ++ [{ key:=kv,val:=v,born:=clock }]) (clock+1)) (.map (es'.push { key:=kv,val:=a.eval z,born:=clock }) (clock+1)):=by
        refine ⟨rfl,by simp [hes.1],fun j p q h5 h6=>?_⟩
        refine (hes.push (x:={ key:=kv,val:=v,born:=clock }) (y:={ key:=kv,val:=a.eval z,born:=clock }) ⟨fl_refl ρ hflk,vv,rfl⟩).2 j p q h5 ?_
        rw [← h6,← Array.getElem?_toList,Array.toList_push]
       refine ⟨Nat.le_refl _,mark_cov _ _,_,?_,(setObj_done (o':=.map (es'.push { key:=kv,val:=a.eval z,born:=clock }) (clock+1)) hI hM hd hro hk hh hc0.symm hbr rfl rfl).mono (fun _ _ _=>trivial)⟩
       ·rw [hkk] at hck hfk
        rcases ho with e | e <;> simp only [execOp,e,Instr.mapUpdate,Sem.run_bind,Sem.run_map,bind_pure_comp,run_underlying hu,Result.andThen_ok,h2,hkk,hg2,hck,hfk,hset]
     ·cases hs
   ·cases hs
 ·cases h
end
end Ev
namespace Ev
set_option linter.unusedVariables false
set_option linter.unusedSimpArgs false
variable {P:Program}
section
variable {ρ:Ren} {M:Mem} {s:St} {base:Nat} {w0 w:World}
theorem getObj_run {w:World} {k:Nat} {o:Obj} (h:w.heap[k]?=some o) (hn:∀ c e f,o ≠ .cells c e f):(getObj k).run P w = .ok o w:=by
 cases o <;> first | exact absurd rfl (hn _ _ _) | simp [getObj,Sem.run,h]
theorem iter_fresh (hI:In ρ M s base w0 w) {b:Blk} {ob:Obj} (hb:BR ρ b ob) (hro:isRo b=false) (hc:ρ s.c=none) :
 Done ρ M s base w0 (new s b) { w with heap:=w.heap.push ob } (fun ρ'=>VR ρ' (.pointer (some ⟨s.c,0,none⟩)) (.pointer (some ⟨w.heap.size,0,none⟩))) :=
 Done.fresh (o:=ob) hI rfl rfl rfl rfl hb hro hc (fun ρ' hl hp=>VR.ptr (k:=(w.heap.size,_)) 0 none hp)
theorem range_ok (hI:In ρ M s base w0 w) {T:Tmps} {a:Act} {o:Oper} {t:TypeId} {x:Operand} (ho:o.op = .range t x) (hO:Opd ρ T a o.op.operands.toList) {r:Res} {s':St} (hF:∀ n,s.c≤n→n<s'.c→ρ n=none)
 (h:(match opd T x,P.underlying t with
  | some (.string b),some .string=>some (Res.val (.pointer (some ⟨s.c,0,none⟩)),new s (.siter b 0))
  | some (.map none),some (.map _ _)=>some (Res.val (.pointer (some ⟨s.c,0,none⟩)),new s (.miter none 0 [] 0))
  | some (.map (some m)),some (.map _ _)=>match get s.es m with
   | some (.map _ clock)=>some (Res.val (.pointer (some ⟨s.c,0,none⟩)),new s (.miter (some m) clock [] clock))
   | _=>none
  | _,_=>none)=some (r,s')):OpOk P ρ M s base w0 w (execOp a.eval o) r s':=by
 split at h
 ·rename_i b hx hu
  have hv:=hO x (by simp [ho,Op.operands]) _ hx
  cases h
  generalize hex:a.eval x=u at hv
  cases hv
  exact ⟨Nat.le_succ _,mark_cov _ _,_,_,by simp [execOp,ho,Instr.range,run_underlying hu,hex,newObj,Sem.run],iter_fresh hI (ob:=.stringIter b 0) ⟨rfl,rfl⟩ rfl (hF _ (Nat.le_refl _) (Nat.lt_succ_self _))⟩
 ·rename_i k1 e1 hx hu
  have hv:=hO x (by simp [ho,Op.operands]) _ hx
  cases h
  generalize hex:a.eval x=u at hv
  cases hv
  exact ⟨Nat.le_succ _,mark_cov _ _,_,_,by simp [execOp,ho,Instr.range,run_underlying hu,hex,newObj,Sem.run],iter_fresh hI (b:=.miter none 0 [] 0) (ob:=.mapIter none 0 #[] 0) ⟨rfl,rfl,rfl,rfl⟩ rfl (hF _ (Nat.le_refl _) (Nat.lt_succ_self _))⟩
 ·rename_i m k1 e1 hx hu
  have hv:=hO x (by simp [ho,Op.operands]) _ hx
  split at h
  ·rename_i es clock hg
   cases h
   rcases mapOf_run (m:=.map (some m)) (es:=es) (clock:=clock) (by simp [mapOf,hg]) hI hv with ⟨h1,_⟩ | ⟨r1,k2,es',b',h1,h2,hk,_,hM,hle,hh,hes,_,_⟩
   ·cases h1
   ·cases h1
    have hg2:(getObj k2.1).run P w = .ok (.map es' clock) w:=by simp [getObj,Sem.run,hh]
    exact ⟨Nat.le_succ _,mark_cov _ _,_,_,by simp [execOp,ho,Instr.range,run_underlying hu,h2,hg2,newObj,Sem.run],iter_fresh hI (b:=.miter (some m) clock [] clock) (ob:=.mapIter (some k2.1) clock #[] clock) ⟨⟨k2,hk,rfl⟩,rfl,rfl,rfl⟩ rfl (hF _ (Nat.le_refl _) (Nat.lt_succ_self _))⟩
  ·cases h
 ·cases h
theorem ERs.filter:∀ {es es':List MapEntry} (q:Nat→Bool),ERs ρ es es'→ERs ρ (es.filter fun e=>q e.born) (es'.filter fun e=>q e.born)
 | [],es',q,h=>by
  obtain rfl:es'=[]:=List.eq_nil_of_length_eq_zero (by simpa using h.1.symm)
  exact h
 | x :: es,es',q,h=>by
  cases es' with
  | nil=>simp [ERs] at h
  | cons y es' =>
   obtain ⟨h1,ht⟩:=h.tail
   have ih:=ERs.filter q ht
   simp only [List.filter_cons,h1.2.2]
   cases q x.born with
   | false=>exact ih
   | true =>
    simp only [if_true]
    exact ⟨by simp [ih.1],fun i a b ha hb=>by
     cases i with
     | zero=>simp at ha hb;subst ha;subst hb;exact h1
     | succ i=>exact ih.2 i a b (by simpa using ha) (by simpa using hb)⟩
theorem all_rel:∀ {es es':List MapEntry} (q:Nat→Bool),ERs ρ es es'→es'.all (fun e=>q e.born)=es.all (fun e=>q e.born)
 | [],es',q,h=>by
  obtain rfl:es'=[]:=List.eq_nil_of_length_eq_zero (by simpa using h.1.symm)
  rfl
 | x :: es,es',q,h=>by
  cases es' with
  | nil=>simp [ERs] at h
  | cons y es' =>
   obtain ⟨h1,ht⟩:=h.tail
   simp only [List.all_cons,h1.2.2,all_rel q ht]
theorem find_rel:∀ {es es':List MapEntry} {e:MapEntry} (q:Nat→Bool),ERs ρ es es'→es.find? (fun x=>q x.born)=some e → ∃ e',es'.find? (fun x=>q x.born)=some e'∧ER ρ e e'
 | [],es',e,q,h,hf=>by simp at hf
 | x :: es,es',e,q,h,hf=>by
  cases es' with
  | nil=>simp [ERs] at h
  | cons y es' =>
   obtain ⟨h1,ht⟩:=h.tail
   rw [List.find?_cons] at hf ⊢
   rw [h1.2.2]
   cases hq:q x.born with
   | true=>rw [hq] at hf;cases hf;exact ⟨y,rfl,h1⟩
   | false=>rw [hq] at hf;exact find_rel q ht hf
theorem beq_fun (st:Nat):(fun x:MapEntry=>x.born == st)=fun x=>Nat.beq x.born st:=by
 funext x
 rw [Bool.eq_iff_iff]
 simp [Nat.beq_eq]
theorem entry_ok (hI:In ρ M s base w0 w) {T:Tmps} {a:Act} {o:Oper} {it:Operand} (ho:o.op = .entry it) (hO:Opd ρ T a o.op.operands.toList) {r:Res} {s':St}
 (h:(match opd T it with
  | some (.pointer (some ⟨r,0,_⟩))=>match get s.es r with
   | some (.miter (some m) _ seen last)=>match get s.es m,seen.getLast? with
    | some (.map es clock),some st=>match Nat.beq clock last,es.find? (fun e=>Nat.beq e.born st) with
     | true,some e=>val (.tuple #[e.key,e.val]) s
     | _,_=>none
    | _,_=>none
   | _=>none
  | _=>none)=some (r,s')):OpOk P ρ M s base w0 w (execOp a.eval o) r s':=by
 split at h
 ·rename_i ri sp hx
  have hv:=hO it (by simp [ho,Op.operands]) _ hx
  split at h
  ·rename_i m since seen last hgi
   split at h
   ·rename_i es clock st hgm hst
    split at h
    ·rename_i e hb hfd
     have hb:=Nat.eq_of_beq_eq_true hb
     subst hb
     obtain ⟨rfl,rfl⟩:=val_inv h
     generalize hex:a.eval it=u at hv
     cases hv with
     | ptr off sp e1 =>
      obtain ⟨bi,ki,oi,_,_,i1,i2,i3,_,_,_⟩:=hI.see hgi rfl
      have ek:=Option.some.inj (i1.symm.trans e1)
      subst ek
      cases oi <;> try exact i3.elim
      obtain ⟨⟨km,hkm,rfl⟩,rfl,rfl,rfl⟩:=i3
      rcases mapOf_run (m:=.map (some m)) (m':=.map (some km.1)) (by simp only [mapOf,hgm];rfl) hI (.map hkm) with ⟨h1,_⟩ | ⟨r1,k2,es',b',h1,h2,hk,_,hM,hle,hh,hes,_,_⟩
      ·cases h1
      ·cases h1
       have ek:=Option.some.inj (hk.symm.trans hkm)
       subst ek
       have hg1:=getObj_run (P:=P) i2 (by simp)
       have hg2:=getObj_run (P:=P) hh (by simp)
       have hback:seen.toArray.back?=some st:=by rw [← hst];simp
       obtain ⟨e',f1,f2⟩:=find_rel (fun n=>Nat.beq n st) hes hfd
       rw [Array.find?_toList] at f1
       refine ok_val hI (y:=.tuple #[e'.key,e'.val]) ?_ (.tuple rfl (fun i x y h1 h2=>?_))
       ·simp [execOp,ho,Instr.entry,hex,hg1,hg2,hback,beq_fun,f1]
       ·match i,h1,h2 with
        | 0,h1,h2=>simp at h1 h2;subst h1;subst h2;exact f2.1
        | 1,h1,h2=>simp at h1 h2;subst h1;subst h2;exact f2.2.1
        | i+2,h1,h2=>simp at h1
    ·cases h
   ·cases h
  ·cases h
 ·cases h
theorem bool1 (b:Bool):VR ρ (.tuple #[.bool b]) (.tuple #[.bool b]):=.tuple rfl (fun i x y h1 h2=>by
 match i,h1,h2 with
 | 0,h1,h2=>simp at h1 h2;subst h1;subst h2;exact .bool b
 | i+1,h1,h2=>simp at h1)
theorem triple {a b c d e f:Value} (h1:VR ρ a d) (h2:VR ρ b e) (h3:VR ρ c f):VR ρ (.tuple #[a,b,c]) (.tuple #[d,e,f]):=.tuple rfl (fun i x y q1 q2=>by
 match i,q1,q2 with
 | 0,q1,q2=>simp at q1 q2;subst q1;subst q2;exact h1
 | 1,q1,q2=>simp at q1 q2;subst q1;subst q2;exact h2
 | 2,q1,q2=>simp at q1 q2;subst q1;subst q2;exact h3
 | i+3,q1,q2=>simp at q1)
theorem next_ok (hI:In ρ M s base w0 w) {T:Tmps} {a:Act} {o:Oper} {it:Operand} {str:Bool} (ho:o.op = .next it str) (hO:Opd ρ T a o.op.operands.toList) {r:Res} {s':St}
 (h:(match opd T it with
  | some (.pointer (some ⟨r,0,_⟩))=>nextA s r str
  | _=>none)=some (r,s')):OpOk P ρ M s base w0 w (execOp a.eval o) r s':=by
 split at h
 ·rename_i ri sp hx
  have hv:=hO it (by simp [ho,Op.operands]) _ hx
  generalize hex:a.eval it=u at hv
  cases hv with
  | ptr off sp e1 =>
   unfold nextA at h
   split at h
   ·rename_i q1 q2 q3 hgi
    obtain ⟨bi,ki,oi,hMi,hlei,i1,i2,i3,_,i5,i6⟩:=hI.see hgi rfl
    have ek:=Option.some.inj (i1.symm.trans e1)
    subst ek
    cases oi <;> try exact i3.elim
    obtain ⟨rfl,rfl,rfl,rfl⟩:=i3
    have hg1:=getObj_run (P:=P) i2 (by simp)
    obtain ⟨rfl,rfl⟩:=val_inv h
    exact ok_val hI (by simp [execOp,ho,Instr.next,hex,hg1]) (bool1 false)
   ·rename_i m since seen last hgi
    obtain ⟨bi,ki,oi,hMi,hlei,i1,i2,i3,i3',i5,i6⟩:=hI.see hgi rfl
    have ek:=Option.some.inj (i1.symm.trans e1)
    subst ek
    cases oi <;> try exact i3.elim
    obtain ⟨⟨km,hkm,rfl⟩,e7,rfl,e9⟩:=i3
    have e7:=e7.symm
    have e9:=e9.symm
    subst e7
    subst e9
    have hg1:=getObj_run (P:=P) i2 (by simp)
    have hset:∀ o':Obj,(setObj ki.1 o').run P w = .ok () { w with heap:=w.heap.setIfInBounds ki.1 o' }:=fun o'=>by simp [setObj,Sem.run,i2]
    split at h
    ·rename_i es clock hgm
     rcases mapOf_run (m:=.map (some m)) (m':=.map (some km.1)) (by simp only [mapOf,hgm];rfl) hI (.map hkm) with ⟨h1,_⟩ | ⟨r1,k2,es',b',h1,h2,hk,_,hM,hle,hh,hes,_,_⟩
     ·cases h1
     ·cases h1
      have ek:=Option.some.inj (hk.symm.trans hkm)
      subst ek
      have hg2:(getObj k2.1).run P w = .ok (.map es' clock) w:=getObj_run hh (by simp)
      split at h
      ·cases h
      ·rename_i hcond
       have hdd:isDead bi=false:=by rw [← shp_dead hlei.1];rfl
       have hrr:isRo bi=false:=by rw [← shp_ro hlei.1];rfl
       have hes0:es.isEmpty=es'.isEmpty:=by
        have h5:=hes.1
        rw [Bool.eq_iff_iff]
        simp only [List.isEmpty_iff,Array.isEmpty_iff]
        constructor
        ·rintro rfl;apply Array.eq_empty_of_size_eq_zero;simpa using h5.symm
        ·rintro rfl;exact List.eq_nil_of_length_eq_zero (by simpa using h5)
       have hall:es'.all (fun e=>decide (e.born ≥ last))=es.all (fun e=>Nat.ble last e.born):=by
        rw [← Array.all_toList]
        have h5:=all_rel (fun n=>Nat.ble last n) hes
        rw [← h5]
        congr 1
        funext e
        rw [Bool.eq_iff_iff]
        simp [Nat.ble_eq]
       have hguard:(!seen.toArray.isEmpty && !es'.isEmpty && es'.all (fun e=>decide (e.born ≥ last)))=false:=by
        rw [hall,← hes0]
        have hse:seen.toArray.isEmpty=seen.isEmpty:=by cases seen <;> rfl
        rw [hse]
        revert hcond
        cases seen.isEmpty <;> cases es.isEmpty <;> cases es.all (fun e=>Nat.ble last e.born) <;> simp
       have hfil:=hes.filter (fun n=>!seen.contains n)
       have hleft:(es'.filter fun e=>!seen.toArray.contains e.born).toList=es'.toList.filter fun e=>!seen.contains e.born:=by simp
       split at h
       ·rename_i hnil
        rw [hnil] at hfil
        have hl0:(es'.filter fun e=>!seen.toArray.contains e.born)=#[]:=by
         apply Array.ext'
         rw [hleft]
         exact List.eq_nil_of_length_eq_zero hfil.1.symm
        obtain ⟨rfl,rfl⟩:=val_inv h
        refine ok_val hI ?_ (bool1 false)
        simp only [execOp,ho,Instr.next,hex,Sem.run_bind,Sem.run_map,bind_pure_comp,hg1,hg2,Result.andThen_ok,hguard,hl0,Bool.false_eq_true,if_false]
        simp [choose,Sem.run,Question.forced]
       ·rename_i e hone
        rw [hone] at hfil
        obtain ⟨e',he'⟩:∃ e',(es'.filter fun e=>!seen.toArray.contains e.born)=#[e']:=by
         have h6:=hfil.1
         rw [← hleft] at h6
         cases hq:(es'.filter fun e=>!seen.toArray.contains e.born).toList with
         | nil=>rw [hq] at h6;simp at h6
         | cons y r =>
          rw [hq] at h6
          obtain rfl:r=[]:=List.eq_nil_of_length_eq_zero (by simpa using h6.symm)
          exact ⟨y,by apply Array.ext';rw [hq]⟩
        have her:ER ρ e e':=hfil.2 0 e e' rfl (by rw [← hleft,he'];rfl)
        split at h
        ·rename_i hb
         simp only [Nat.blt_eq] at hb
         obtain ⟨rfl,rfl⟩:=val_inv h
         have hb1:decide (e'.born<since)=true:=by rw [her.2.2];simpa using hb
         have hb2:decide (e'.born ≥ since)=false:=by rw [her.2.2];simpa using hb
         refine ⟨Nat.le_refl _,mark_cov _ _,.tuple #[.bool true,e'.key,e'.val], { w with heap:=w.heap.setIfInBounds ki.1 (.mapIter (some k2.1) since (seen.toArray.push e'.born) clock) },?_,(setObj_done (b:=.miter (some m) since (seen ++ [e.born]) clock) (o':=.mapIter (some k2.1) since (seen.toArray.push e'.born) clock) hI hMi hdd hrr e1 i2 i6 ⟨⟨k2,hk,rfl⟩,rfl,by rw [her.2.2];simp,rfl⟩ rfl rfl).mono (fun ρ' _ he=>by subst he;exact triple (.bool _) her.1 her.2.1)⟩
         simp only [execOp,ho,Instr.next,hex,Sem.run_bind,Sem.run_map,bind_pure_comp,hg1,hg2,Result.andThen_ok,hguard,he',Bool.false_eq_true,if_false]
         simp [choose,Sem.run,Question.forced,hb1,hb2,hset]
        ·cases h
       ·cases h
    ·cases h
   ·rename_i b pos hgi
    obtain ⟨bi,ki,oi,hMi,hlei,i1,i2,i3,i3',i5,i6⟩:=hI.see hgi rfl
    have ek:=Option.some.inj (i1.symm.trans e1)
    subst ek
    cases oi <;> try exact i3.elim
    obtain ⟨e7,e8⟩:=i3
    have e7:=e7.symm
    have e8:=e8.symm
    subst e7
    subst e8
    have hg1:=getObj_run (P:=P) i2 (by simp)
    have hset:∀ o':Obj,(setObj ki.1 o').run P w = .ok () { w with heap:=w.heap.setIfInBounds ki.1 o' }:=fun o'=>by simp [setObj,Sem.run,i2]
    have hdd:isDead bi=false:=by rw [← shp_dead hlei.1];rfl
    have hrr:isRo bi=false:=by rw [← shp_ro hlei.1];rfl
    split at h
    ·rename_i hb
     simp only [Nat.blt_eq] at hb
     obtain ⟨c,wd,hdc⟩:∃ c wd,Utf8.decode b pos=(c,wd):=⟨_,_,rfl⟩
     rw [hdc] at h
     obtain ⟨rfl,rfl⟩:=val_inv h
     refine ⟨Nat.le_refl _,mark_cov _ _,.tuple #[.bool true,.int .i64 (pos:Int),.int .i32 c], { w with heap:=w.heap.setIfInBounds ki.1 (.stringIter b (pos+wd)) },by simp [execOp,ho,Instr.next,hex,hg1,hb,hset,hdc,goInt],(setObj_done (b:=.siter b (pos+wd)) (o':=.stringIter b (pos+wd)) hI hMi hdd hrr e1 i2 i6 ⟨rfl,rfl⟩ rfl rfl).mono (fun _ _ _=>triple (.bool _) (.int _ _) (.int _ _))⟩
    ·rename_i hb
     obtain ⟨rfl,rfl⟩:=val_inv h
     have hb:¬ pos<b.size:=fun hc=>by rw [show Nat.blt pos b.size=true from by simpa using hc] at hb;cases hb
     exact ok_val hI (by simp [execOp,ho,Instr.next,hex,hg1,hb]) (bool1 false)
   ·cases h
 ·cases h
theorem run_builtin {a:Act} {o:Oper} {c:Call} {b:Builtin} (ho:o.op = .call c) (hc:c.callee = .builtin b) (w:World) :
 (execOp a.eval o).run P w=(builtin b c.argTypes o.type (c.args.map fun | .const _=>true | _=>false) (c.args.map a.eval)).run P w:=by
 simp only [execOp,ho,resolve,hc,pure_bind,invoke]
 rfl
theorem len_slice_run {T:Array TypeId} {ty e:TypeId} {b:Option Addr} {n c:Nat} (h:(T[0]?).bind P.underlying=some (.slice e)) (w:World):(Builtin.len_ T ty #[.slice b n c]).run P w = .ok (.int .i64 (n:Int)) w:=by
 cases ht:T[0]? with
 | none=>rw [ht] at h;cases h
 | some t=>rw [ht] at h;simp [Builtin.len_,ht,run_underlying (show P.underlying t=some (.slice e) from h),goInt]
theorem len_map_run {T:Array TypeId} {ty k e:TypeId} {q:Nat} {es:Array MapEntry} {cl:Nat} {w:World} (h:(T[0]?).bind P.underlying=some (.map k e)) (hg:(getObj q).run P w = .ok (.map es cl) w):(Builtin.len_ T ty #[.map (some q)]).run P w = .ok (.int .i64 (es.size:Int)) w:=by
 cases ht:T[0]? with
 | none=>rw [ht] at h;cases h
 | some t=>rw [ht] at h;simp [Builtin.len_,ht,run_underlying (show P.underlying t=some (.map k e) from h),hg,goInt]
theorem cap_slice_run {T:Array TypeId} {ty e:TypeId} {b:Option Addr} {n c:Nat} (h:(T[0]?).bind P.underlying=some (.slice e)) (w:World):(Builtin.cap_ T ty #[.slice b n c]).run P w = .ok (.int .i64 (c:Int)) w:=by
 cases ht:T[0]? with
 | none=>rw [ht] at h;cases h
 | some t=>rw [ht] at h;simp [Builtin.cap_,ht,run_underlying (show P.underlying t=some (.slice e) from h),goInt]
theorem vs1 {x:Value} {us:List Value} (h:VRl ρ [x] us):∃ y,us=[y]∧VR ρ x y:=by
 cases us with
 | nil=>simp [VRl] at h
 | cons y r =>
  obtain rfl:r=[]:=List.eq_nil_of_length_eq_zero (by have:=h.1;simpa using this.symm)
  exact ⟨y,rfl,h.2 0 _ _ rfl rfl⟩
theorem vs2 {x1 x2:Value} {us:List Value} (h:VRl ρ [x1,x2] us):∃ y1 y2,us=[y1,y2]∧VR ρ x1 y1∧VR ρ x2 y2:=by
 cases us with
 | nil=>simp [VRl] at h
 | cons y r =>
  obtain ⟨z,rfl,h2⟩:=vs1 (ρ:=ρ) (x:=x2) (us:=r) ⟨by have:=h.1;simp at this;simp;omega,fun i a b h1 h3=>h.2 (i+1) a b (by simpa using h1) (by simpa using h3)⟩
  exact ⟨y,z,rfl,h.2 0 _ _ rfl rfl,h2⟩
theorem lenA_run {y y':Value} {k:Nat} (h:lenA y=some k) (hv:VR ρ y y') (w:World):(Builtin.lenOf y').run P w = .ok k w:=by
 cases y <;> simp only [lenA,reduceCtorEq,Option.some.injEq] at h <;> subst h <;> cases hv <;> rfl
theorem builtin_ok (hI:In ρ M s base w0 w) {T:Tmps} {a:Act} {o:Oper} {c:Call} {b:Builtin} {vs:List Value} (ho:o.op = .call c) (hc:c.callee = .builtin b) (hO:Opd ρ T a o.op.operands.toList) (hvs:opds T c.args.toList=some vs) {r:Res} {s':St} (hF:∀ n,s.c≤n→n<s'.c→ρ n=none)
 (h:builtinA P s T o b c.argTypes vs=some (r,s')):OpOk P ρ M s base w0 w (execOp a.eval o) r s':=by
 have hus:=opds_run hvs (ρ:=ρ) (a:=a) (fun x hx=>hO x (by rw [ho];simp only [Op.operands,Call.operands,hc,Array.toList_append,List.mem_append];exact .inr hx))
 have harr:∀ l,c.args.toList.map a.eval=l→c.args.map a.eval=l.toArray:=fun l hl=>by apply Array.ext';simpa using hl
 unfold builtinA at h
 split at h
 ·rename_i x y
  obtain ⟨y1,y2,e1,e2,e3⟩:=vs2 hus
  obtain ⟨h1,h2,v,v',w',rfl,h4,h5⟩:=appendA_run (ty:=o.type) (T:=T) (a:=a) hI e2 e3 hF h
  refine ⟨h1,h2,v',w',?_,h5⟩
  rw [run_builtin ho hc,harr _ e1]
  simp [builtin,h4]
 ·rename_i bb n cc
  obtain ⟨y1,e1,e2⟩:=vs1 hus
  split at h
  ·rename_i e hu
   obtain ⟨rfl,rfl⟩:=val_inv h
   refine ok_val hI (y:=.int .i64 (n:Int)) ?_ (.int _ _)
   rw [run_builtin ho hc,harr _ e1]
   cases e2 <;> simp [builtin,len_slice_run hu]
  ·cases h
 ·rename_i q
  obtain ⟨y1,e1,e2⟩:=vs1 hus
  split at h
  ·rename_i k e es cl hu hg
   obtain ⟨rfl,rfl⟩:=val_inv h
   rcases mapOf_run (m:=.map (some q)) (m':=y1) (by simp only [mapOf,hg];rfl) hI e2 with ⟨h1,_⟩ | ⟨r1,k2,es',b',h1,h2,hk,_,hM,hle,hh,hes,_,_⟩
   ·cases h1
   ·subst h2
    have hg2:=getObj_run (P:=P) hh (by simp)
    refine ok_val hI (y:=.int .i64 (es'.size:Int)) ?_ ?_
    ·rw [run_builtin ho hc,harr _ e1]
     simp [builtin,len_map_run hu hg2]
    ·have:=hes.1
     simp at this
     rw [this]
     exact .int _ _
  ·cases h
 ·rename_i bb n cc
  obtain ⟨y1,e1,e2⟩:=vs1 hus
  split at h
  ·rename_i e hu hb
   simp only [Nat.blt_eq] at hb
   obtain ⟨rfl,rfl⟩:=val_inv h
   refine ok_val hI (y:=.int .i64 (cc:Int)) ?_ (.int _ _)
   rw [run_builtin ho hc,harr _ e1]
   cases e2 with
   | snil=>simp [builtin,cap_slice_run hu]
   | slice off sp n c c' f1 f2 f3 f4=>rw [f3 hb];simp [builtin,cap_slice_run hu]
  ·cases h
 ·rename_i d n cc y
  obtain ⟨y1,y2,e1,e2,e3⟩:=vs2 hus
  split at h
  ·rename_i t k ht hk
   have hln:=fun w=>lenA_run (P:=P) hk e3 w
   split at h
   ·rename_i e hu
    split at h
    ·rename_i size hs
     split at h
     ·rename_i xs ad hcs
      cases hw:writeA s ad xs with
      | none=>rw [hw] at h;cases h
      | some s1 =>
       rw [hw] at h
       obtain ⟨rfl,rfl⟩:=val_inv h
       obtain ⟨ys,g1,g2⟩:=cellsOf_run (P:=P) hcs hI e3
       obtain ⟨q1,q2,q3,q4⟩:=writeA_run (P:=P) hw hI g1
       obtain ⟨bn,off,sp⟩:=ad
       cases q1
       cases e2 with
       | slice off sp n c c' f1 f2 f3 f4 =>
        obtain ⟨w',g3,g4⟩:=q4 _ f1
        refine ⟨by omega,q3,.int .i64 ((Nat.min k n:Nat):Int),w',?_,(g4 (fun _=>True) trivial).mono (fun _ _ _=>.int _ _)⟩
        rw [run_builtin ho hc,harr _ e1]
        simp [builtin,Builtin.copy_,ht,run_underlying hu,hln,run_sizeT hs,g2 w (Same.refl w),g3,goInt]
     ·rename_i xs hcs
      obtain ⟨rfl,rfl⟩:=val_inv h
      obtain ⟨ys,g1,g2⟩:=cellsOf_run (P:=P) hcs hI e3
      cases e2
      refine ok_val hI (y:=.int .i64 ((Nat.min k n:Nat):Int)) ?_ (.int _ _)
      rw [run_builtin ho hc,harr _ e1]
      simp [builtin,Builtin.copy_,ht,run_underlying hu,hln,run_sizeT hs,g2 w (Same.refl w),goInt]
     ·cases h
    ·cases h
   ·cases h
  ·cases h
 ·exact plain_ok hI (by rw [ho];rfl) hO h
end
end Ev
namespace Ev
set_option linter.unusedVariables false
set_option linter.unusedSimpArgs false
variable {P:Program}
section
variable {ρ:Ren} {M:Mem} {s:St} {base:Nat} {w0 w:World}
theorem enters_run {g:FuncId} {args:Array Value} (h:entersB P g=true) (w:World):(callFunc g args).run P w = .ok (.enter g args) w:=by
 unfold entersB at h
 cases hf:P.funcs[g]? with
 | none=>rw [hf] at h;cases h
 | some fn =>
  rw [hf] at h
  simp only [Bool.and_eq_true,Bool.not_eq_true'] at h
  obtain ⟨h1,h2⟩:=h
  have h3:fn.body.isNone=false:=by cases hb:fn.body <;> simp_all
  have h4 : ¬ fn.name = "runtime.NumGoroutine" := by simpa using h2
  have h5:fn.body≠none:=by intro e;rw [e] at h1;cases h1
  simp [callFunc,hf,h4,h5]
theorem call_ok (hI:In ρ M s base w0 w) {T:Tmps} {a:Act} {o:Oper} {c:Call} {f:Operand} (ho:o.op = .call c) (hc:c.callee = .value f) (hO:Opd ρ T a o.op.operands.toList) {r:Res} {s':St}
 (h:(match opd T f,opds T c.args.toList with
  | some (.func (.func g) a b),some vs=>match entersB P g with
   | true=>some (.enter g (a.toList ++ vs ++ b.toList),s)
   | false=>plainOp P T o s
  | _,_=>none)=some (r,s')):OpOk P ρ M s base w0 w (execOp a.eval o) r s':=by
 have hops:∀ x,x=f∨x ∈ c.args.toList→x ∈ o.op.operands.toList:=fun x hx=>by
  rw [ho]
  simp only [Op.operands,Call.operands,hc,Array.toList_append,List.mem_append]
  rcases hx with rfl | hx
  ·exact .inl (by simp)
  ·exact .inr hx
 split at h
 ·rename_i g x y vs hf hvs
  split at h
  ·rename_i he
   cases h
   have vf:=hO f (hops f (.inl rfl)) _ hf
   have hus:=opds_run hvs (ρ:=ρ) (a:=a) (fun z hz=>hO z (hops z (.inr hz)))
   generalize hef:a.eval f=u at vf
   cases vf with
   | func fn h1 h2 h3 h4 =>
    rename_i x' y'
    refine ⟨Nat.le_refl _,cov.refl _,rfl,x' ++ c.args.map a.eval ++ y',?_,?_⟩
    ·simp only [execOp,ho,resolve,hc,hef,Deferred.ofValue,pure_bind,invoke]
     exact enters_run he w
    ·have e:(x' ++ c.args.map a.eval ++ y').toList=x'.toList ++ c.args.toList.map a.eval ++ y'.toList:=by simp
     rw [e]
     exact VRl.append (VRl.append (VRs.list ⟨h1,h2⟩) hus) (VRs.list ⟨h3,h4⟩)
  ·exact plain_ok hI (by rw [ho];rfl) hO h
 ·cases h
theorem convert_ok (hI:In ρ M s base w0 w) {T:Tmps} {a:Act} {o:Oper} {src dst:TypeId} {x:Operand} (ho:o.op = .convert src dst x) (hO:Opd ρ T a o.op.operands.toList) {r:Res} {s':St} (hF:∀ n,s.c≤n→n<s'.c→ρ n=none)
 (h:(match opd T x,P.underlying src,P.underlying dst with
  | some (.string b),some _,some (.slice e)=>match P.underlying e with
   | some (.int .u8)=>some (.val (.slice (some ⟨s.c,0,none⟩) b.size (BIG+1)),new s (.cells (b.data.toList.map fun x=>some (.int .u8 (x.toNat:Int))) e true false))
   | _=>none
  | some (.slice (some a) n _),some (.slice e),some .string=>match P.underlying e with
   | some (.int .u8)=>match cellsOf s 1 (.slice (some a) n 0) n with
    | some xs=>match xs.all (fun v=>match v with | .int .u8 _=>true | _=>false) with
     | true=>val (.string ⟨(xs.map fun v=>match v with | .int _ m=>UInt8.ofNat m.toNat | _=>0).toArray⟩) s
     | false=>none
    | none=>none
   | _=>none
  | some v,some _,some _=>match fl v with
   | true=>plainOp P T o s
   | false=>match v,Nat.beq src dst,P.underlying dst with
    | .slice (some a) n c,true,some (.slice e)=>match P.underlying e,get s.es a.block with
     | some (.int .u8),some (.cells _ _ _ false)=>val (.slice (some a) n c) s
     | _,_=>none
    | _,_,_=>none
  | _,_,_=>none)=some (r,s')):OpOk P ρ M s base w0 w (execOp a.eval o) r s':=by
 have hx1:∀ v,opd T x=some v→VR ρ v (a.eval x):=fun v hv=>hO x (by simp [ho,Op.operands]) v hv
 split at h
 ·rename_i b u e hx hs hd
  split at h
  ·rename_i he
   cases h
   have hv:=hx1 _ hx
   have hex:a.eval x = .string b:=by generalize a.eval x=q at hv;cases hv;rfl
   exact toBytes_ok hI ho hex hs hd he (hF _ (Nat.le_refl _) (Nat.lt_succ_self _))
  ·cases h
 ·rename_i ad n c e hx hs hd
  split at h
  ·rename_i he
   split at h
   ·rename_i xs hc
    split at h
    ·rename_i h8
     obtain ⟨rfl,rfl⟩:=val_inv h
     exact fromBytes_ok (T:=T) hI ho (hx1 _ hx) hs hd he hc h8
    ·cases h
   ·cases h
  ·cases h
 ·rename_i v u1 u2 hx hs hd _ _
  split at h
  ·exact plain_ok hI (by rw [ho];rfl) hO h
  ·split at h
   ·rename_i ad n c e hb hd2 _
    have hb:=Nat.eq_of_beq_eq_true hb
    subst hb
    split at h
    ·rename_i cs e' m he hg
     obtain ⟨rfl,rfl⟩:=val_inv h
     exact sameBytes_ok hI ho (hx1 _ (by assumption)) (by assumption) he hg
    ·cases h
   ·cases h
 ·cases h
theorem opA_run (hI:In ρ M s base w0 w) {T:Tmps} {a:Act} {o:Oper} (hO:Opd ρ T a o.op.operands.toList) {r:Res} {s':St} (hF:∀ n,s.c≤n→n<s'.c→ρ n=none) (h:opA P T o s=some (r,s')):OpOk P ρ M s base w0 w (execOp a.eval o) r s':=by
 unfold opA at h
 split at h
 ·rename_i ho;exact move_ok hI (.inl ho) hO h
 ·rename_i ho;exact move_ok hI (.inr ho) hO h
 ·rename_i ho;exact pick_ok hI ho hO h
 ·rename_i ho;exact alloc_ok hI ho hF h
 ·rename_i ho;exact box_ok hI ho hO hF h
 ·rename_i ho;exact build_ok hI ho hO h
 ·rename_i ho;exact buildSlice_ok hI ho hO hF h
 ·rename_i ho;exact load_ok hI ho hO h
 ·rename_i ho;exact store_ok hI ho hO h
 ·rename_i ho;exact nilCheck_ok hI ho hO h
 ·rename_i ho;exact binOp_ok hI ho hO h
 ·rename_i ho;exact makeInterface_ok hI ho hO h
 ·rename_i ho;exact makeFunc_ok hI ho hO h
 ·rename_i ho;exact makeMap_ok hI ho hO hF h
 ·rename_i ho;exact makeSlice_ok hI ho hO hF h
 ·rename_i t x lo hi mx ho
  have cut:∀ v,opd T x=some v→((opdO T lo).bind fun l=>(opdO T hi).bind fun h=>(opdO T mx).bind fun m=>sliceA P s t v l h m)=some (r,s')→OpOk P ρ M s base w0 w (execOp a.eval o) r s':=fun v hv h=>by
   cases h1:opdO T lo with
   | none=>rw [h1] at h;cases h
   | some l =>
    rw [h1] at h
    simp only [Option.bind_some] at h
    cases h2:opdO T hi with
    | none=>rw [h2] at h;cases h
    | some hh =>
     rw [h2] at h
     simp only [Option.bind_some] at h
     cases h3:opdO T mx with
     | none=>rw [h3] at h;cases h
     | some m=>rw [h3] at h;exact sliceA_ok hI ho hO hv h1 h2 h3 h
  cases hv:opd T x with
  | none=>rw [hv] at h;cases h
  | some v =>
   rw [hv] at h
   simp only [Option.bind_some] at h
   split at h
   ·split at h
    ·exact plain_ok hI (by rw [ho];rfl) hO h
    ·exact cut v hv h
   ·exact cut v hv h
 ·rename_i ho;exact fieldAddr_ok hI ho hO h
 ·rename_i ho;exact field_ok hI ho hO h
 ·rename_i ho;exact indexAddr_ok hI ho hO h
 ·rename_i ho;exact lookup_ok hI ho hO h
 ·rename_i ho;exact mapSet_ok hI (.inl ho) hO h
 ·rename_i ho;exact mapSet_ok hI (.inr ho) hO h
 ·rename_i ho;exact range_ok hI ho hO hF h
 ·rename_i ho;exact next_ok hI ho hO h
 ·rename_i ho;exact extract_ok hI ho hO h
 ·rename_i c ho
  split at h
  ·rename_i f hc;exact call_ok hI ho hc hO h
  ·rename_i b hc
   cases hvs:opds T c.args.toList with
   | none=>rw [hvs] at h;cases h
   | some vs=>rw [hvs] at h;exact builtin_ok hI ho hc hO hvs hF h
  ·cases h
 ·rename_i ho;exact convert_ok hI ho hO hF h
 ·rename_i ho;exact entry_ok hI ho hO h
 ·rename_i ho;exact plain_ok hI (by rw [ho];rfl) hO h
 ·rename_i ho;exact plain_ok hI (by rw [ho];rfl) hO h
 ·rename_i ho;exact plain_ok hI (by rw [ho];rfl) hO h
 ·cases h
end
end Ev
namespace Ev
set_option linter.unusedVariables false
set_option linter.unusedSimpArgs false
variable {P:Program}
structure TR (D:List Deferred) (ρ:Ren) (T:Tmps) (a:Act):Prop where
 defers:a.defers=D
 len:T.length≤a.tmps.size
 at_:∀ d v,tmpAt T d=some v → ∃ y,a.tmps[d]?=some y∧VR ρ v y
def GR (ρ:Ren):Prop:=∀ g,g<1000 → ∃ z,ρ g=some (g,z)
theorem GR.mono {ρ ρ':Ren} (h:ρ.le ρ') (g:GR ρ):GR ρ':=fun n hn=>let ⟨z,e⟩:=g n hn;⟨z,h _ _ e⟩
theorem TR.mono {D:List Deferred} {ρ ρ':Ren} (h:ρ.le ρ') {T:Tmps} {a:Act} (t:TR D ρ T a):TR D ρ' T a:=⟨t.defers,t.len,fun d v hv=>let ⟨y,a,b⟩:=t.at_ d v hv;⟨y,a,b.mono h⟩⟩
theorem tmpSet_len:∀ (T:Tmps) (d:Nat) (v:Value),(tmpSet T d v).length=T.length
 | [],d,v=>by cases d <;> rfl
 | _ :: r,0,v=>rfl
 | _ :: r,d+1,v=>by simp [tmpSet,tmpSet_len r d v]
theorem tmpAt_set:∀ (T:Tmps) (d e:Nat) (v u:Value),tmpAt (tmpSet T d v) e=some u→(e=d∧u=v∧d<T.length)∨(e≠d∧tmpAt T e=some u)
 | [],d,e,v,u,h=>by cases d <;> simp [tmpSet,tmpAt] at h
 | x :: r,0,e,v,u,h=>by
  cases e with
  | zero=>simp only [tmpSet,tmpAt,Option.some.injEq] at h;exact .inl ⟨rfl,h.symm,by simp⟩
  | succ e=>exact .inr ⟨by simp,by simpa [tmpSet,tmpAt] using h⟩
 | x :: r,d+1,e,v,u,h=>by
  cases e with
  | zero=>exact .inr ⟨by simp,by simpa [tmpSet,tmpAt] using h⟩
  | succ e =>
   simp only [tmpSet,tmpAt] at h
   rcases tmpAt_set r d e v u h with ⟨a,b,c⟩ | ⟨a,b⟩
   ·exact .inl ⟨by omega,b,by simp;omega⟩
   ·exact .inr ⟨by omega,b⟩
theorem TR.put {D:List Deferred} {ρ:Ren} {T:Tmps} {a:Act} (t:TR D ρ T a) (d:Option Tmp) {v y:Value} (h:VR ρ v y):TR D ρ (dstSet T d v) (a.put d y):=by
 cases d with
 | none=>exact t
 | some d =>
  refine ⟨t.defers,by show (tmpSet T d v).length≤(a.tmps.setIfInBounds d y).size;rw [tmpSet_len];simpa using t.len,fun e u hu=>?_⟩
  show ∃ y',(a.tmps.setIfInBounds d y)[e]?=some y'∧VR ρ u y'
  rw [Array.getElem?_setIfInBounds]
  rcases tmpAt_set T d e v u hu with ⟨rfl,rfl,h2⟩ | ⟨h1,h2⟩
  ·have:=t.len
   exact ⟨y,by rw [if_pos rfl,if_pos (by omega)],h⟩
  ·rw [if_neg (Ne.symm h1)]
   exact t.at_ e u h2
theorem TR.opd {D:List Deferred} {ρ:Ren} {T:Tmps} {a:Act} (t:TR D ρ T a) (g:GR ρ) (xs:List Operand):Opd ρ T a xs:=by
 intro x _ v hv
 cases x with
 | tmp d =>
  obtain ⟨y,h1,h2⟩:=t.at_ d v hv
  have:a.eval (.tmp d)=y:=by simp [Act.eval,Array.getD_eq_getD_getElem?,h1]
  rw [this];exact h2
 | const c =>
  simp only [Ev.opd] at hv
  split at hv
  ·rename_i hf;cases hv;exact fl_refl ρ hf
  ·cases hv
 | global n =>
  simp only [Ev.opd] at hv
  split at hv
  ·rename_i hb
   cases hv
   obtain ⟨z,hz⟩:=g n (by simpa using hb)
   exact VR.ptr (k:=(n,z)) 0 none hz
  ·cases hv
 | func f =>
  simp only [Ev.opd] at hv
  cases hv
  exact .func _ rfl (fun i x y h=>by simp at h) rfl (fun i x y h=>by simp at h)
def DoneC (ρ:Ren) (M:Mem) (s:St) (base:Nat) (w0:World) (s':St) (w':World) (Q:Ren→Prop):Prop:=s.c≤s'.c∧cov s.wr s'.wr∧Done ρ M s base w0 s' w' Q
theorem DoneC.bind {ρ:Ren} {M:Mem} {s s1 s2:St} {base:Nat} {w0 w1 w2:World} {Q Q':Ren→Prop} (h:DoneC ρ M s base w0 s1 w1 Q)
 (k:∀ ρ1 M1,ρ.le ρ1→(∀ n,ρ1 n=ρ n∨(s.c≤n∧n<s1.c))→In ρ1 M1 s1 base w0 w1→Q ρ1→DoneC ρ1 M1 s1 base w0 s2 w2 Q'):DoneC ρ M s base w0 s2 w2 Q':=by
 obtain ⟨h1,h2,ρ1,M1,a1,a2,a3,a4,a5⟩:=h
 obtain ⟨k1,k2,k3⟩:=k ρ1 M1 a1 a2 a3 a5
 obtain ⟨ρ2,M2,b1,b2,b3,b4,b5⟩:=k3
 refine ⟨Nat.le_trans h1 k1,cov.trans h2 k2,ρ2,M2,Ren.le_trans a1 b1,fun n=>?_,b3,(a4.mono k2).trans b4,b5⟩
 rcases b2 n with e | e
 ·rcases a2 n with e2 | e2
  ·exact .inl (e.trans e2)
  ·exact .inr ⟨e2.1,by omega⟩
 ·exact .inr ⟨by omega,e.2⟩
def CallOk (P:Program) (call:FuncId→List Value→St→Option (Value × St)):Prop:=∀ f args s v s',call f args s=some (v,s') → ∀ (ρ:Ren) (M:Mem) (base:Nat) (w0 w:World) (args':Array Value),
 In ρ M s base w0 w→GR ρ→(∀ n,s.c≤n→n<s'.c→ρ n=none)→VRl ρ args args'.toList→Calls P f args' w fun e w'=>∃ y,e = .returned y∧DoneC ρ M s base w0 s' w' (fun ρ'=>VR ρ' v y)
section
variable {call:FuncId→List Value→St→Option (Value × St)} {ops:Array Oper} {Q:Exit→Act→World→Prop}
theorem opB_wp (hc:CallOk P call) {T:Tmps} {a:Act} {o:Oper} {s s':St} {v:Value} (h:opB P call T o s=some (v,s')) {ρ:Ren} {M:Mem} {base:Nat} {w0 w:World} (hI:In ρ M s base w0 w) (hO:Opd ρ T a o.op.operands.toList) (hG:GR ρ) (hF:∀ n,s.c≤n→n<s'.c→ρ n=none)
 {K:Act→World→Prop} (hK:∀ y w',DoneC ρ M s base w0 s' w' (fun ρ'=>VR ρ' v y)→K (a.put o.dst y) w'):o.wp P a w K Q:=by
 unfold opB at h
 cases hC:opC P call T o s with
 | none=>rw [hC] at h;cases h
 | some p =>
  obtain ⟨v1,s1⟩:=p
  rw [hC] at h
  simp only at h
  split at h
  ·cases h
   unfold opC at hC
   unfold Oper.wp
   split at hC
   ·rename_i u s2 hA
    cases hC
    obtain ⟨h1,h2,y,w',h3,h4⟩:=opA_run (P:=P) hI hO hF hA
    rw [h3]
    exact hK y w' ⟨h1,h2,h4⟩
   ·rename_i s2 hA
    cases hC
    obtain ⟨h1,h2,w',h3,h4⟩:=opA_run (P:=P) hI hO hF hA
    rw [h3]
    exact hK undef w' ⟨h1,h2,h4.mono (fun _ _ _=>.tuple rfl (fun i x y h=>by simp at h))⟩
   ·rename_i f args s2 hA
    split at hC
    ·rename_i hb
     have hb:=Nat.eq_of_beq_eq_true hb
     obtain ⟨h1,h2,_,args',h3,h4⟩:=opA_run (P:=P) hI hO (fun n h5 h6=>by omega) hA
     rw [h3]
     refine Calls.mono (hc f args _ v s' hC ρ M base w0 w args' hI hG hF h4) (fun e w'=>?_)
     rintro ⟨y,rfl,hd⟩
     exact hK y w' hd
    ·cases hC
   ·cases hC
  ·cases h
end
end Ev
namespace Ev
set_option linter.unusedVariables false
set_option linter.unusedSimpArgs false
variable {P:Program}
variable {D:List Deferred}
section
variable {call:FuncId→List Value→St→Option (Value × St)} {ops:Array Oper} {Q:Exit→Act→World→Prop}
theorem DoneC.after {ρ ρ1:Ren} {M M1:Mem} {s s1 s2:St} {base:Nat} {w0 w2:World} {Q':Ren→Prop} (h1:s.c≤s1.c) (h2:cov s.wr s1.wr) (a1:ρ.le ρ1) (a2:∀ n,ρ1 n=ρ n∨(s.c≤n∧n<s1.c)) (a4:agree s1.wr M M1)
 (k:DoneC ρ1 M1 s1 base w0 s2 w2 Q'):DoneC ρ M s base w0 s2 w2 Q':=by
 obtain ⟨k1,k2,ρ2,M2,b1,b2,b3,b4,b5⟩:=k
 refine ⟨Nat.le_trans h1 k1,cov.trans h2 k2,ρ2,M2,Ren.le_trans a1 b1,fun n=>?_,b3,(a4.mono k2).trans b4,b5⟩
 rcases b2 n with e | e
 ·rcases a2 n with e2 | e2
  ·exact .inl (e.trans e2)
  ·exact .inr ⟨e2.1,by omega⟩
 ·exact .inr ⟨by omega,e.2⟩
theorem wanted_run {T:Tmps} {a:Act} {o:Oper} {b:Bool} (h:wantedA ops T o=some b) {ρ:Ren} (t:TR D ρ T a):Region.wanted o (yielded ops a.tmps)=b:=by
 unfold wantedA at h
 unfold Region.wanted
 cases hg:o.guard with
 | none=>rw [hg] at h;cases h;rfl
 | some p =>
  obtain ⟨j,w⟩:=p
  rw [hg] at h
  simp only at h ⊢
  unfold yielded
  cases hj:ops[j]? with
  | none=>rw [hj] at h;cases h;rfl
  | some q =>
   rw [hj] at h
   simp only at h
   cases hd:q.dst with
   | none=>rw [hd] at h;cases h;simp [hd]
   | some d =>
    rw [hd] at h
    simp only at h
    split at h
    ·rename_i c hc
     obtain ⟨y,h1,h2⟩:=t.at_ d _ hc
     cases h2
     cases h
     simp [hd,h1]
    ·rename_i vs hc
     obtain ⟨y,h1,h2⟩:=t.at_ d _ hc
     cases h2
     cases h
     simp [hd,h1]
    ·cases h
theorem step1_wp (hc:CallOk P call) {T:Tmps} {a:Act} {o:Oper} {s s':St} {v:Value} (h:step1 P call ops o T s=some (v,s')) {ρ:Ren} {M:Mem} {base:Nat} {w0 w:World} (hI:In ρ M s base w0 w) (hT:TR D ρ T a) (hG:GR ρ) (hF:∀ n,s.c≤n→n<s'.c→ρ n=none)
 {K:Act→World→Prop} (hK:∀ y w',DoneC ρ M s base w0 s' w' (fun ρ'=>VR ρ' v y)→K (a.put o.dst y) w'):if Region.wanted o (yielded ops a.tmps) then o.wp P a w K Q∨(o.asks P a w∧LetsOut Q) else K (a.put o.dst undef) w:=by
 unfold step1 at h
 split at h
 ·rename_i hw
  rw [if_pos (wanted_run hw hT)]
  exact .inl (opB_wp hc h hI (hT.opd hG _) hG hF hK)
 ·rename_i hw
  have:=wanted_run hw hT
  rw [if_neg (by rw [this];simp)]
  cases h
  exact hK undef w ⟨Nat.le_refl _,cov.refl _,Done.stay hI (Same.refl w) (.tuple rfl (fun i x y h=>by simp at h))⟩
 ·cases h
theorem opB_mono {T:Tmps} {o:Oper} {s s':St} {v:Value} (h:opB P call T o s=some (v,s')):s.c≤s'.c:=by
 unfold opB at h
 split at h
 ·rename_i v1 s1 hC
  cases hb:Nat.ble s.c s1.c with
  | true=>rw [hb] at h;cases h;exact Nat.le_of_ble_eq_true hb
  | false=>rw [hb] at h;cases h
 ·cases h
theorem step1_mono {T:Tmps} {o:Oper} {s s':St} {v:Value} (h:step1 P call ops o T s=some (v,s')):s.c≤s'.c:=by
 unfold step1 at h
 split at h
 ·exact opB_mono h
 ·cases h;exact Nat.le_refl _
 ·cases h
theorem seqA_mono:∀ {l:List Oper} {T T':Tmps} {s s':St},seqA P call ops l T s=some (T',s')→s.c≤s'.c
 | [],T,T',s,s',h=>by simp only [seqA] at h;cases h;exact Nat.le_refl _
 | o :: r,T,T',s,s',h=>by
  simp only [seqA] at h
  split at h
  ·rename_i v s1 h1
   exact Nat.le_trans (step1_mono h1) (seqA_mono h)
  ·cases h
theorem range_from (k n:Nat):List.range' k (n+1)=k :: List.range' (k+1) n:=by rw [List.range'_succ]
theorem seq_wp (hc:CallOk P call) {base:Nat} {w0:World}:∀ {l:List Oper} {k:Nat} {T T':Tmps} {s s':St} {a:Act} {ρ:Ren} {M:Mem} {w:World},(∀ j,j<l.length→ops[k+j]?=l[j]?)→seqA P call ops l T s=some (T',s')→In ρ M s base w0 w→TR D ρ T a→GR ρ→(∀ n,s.c≤n→n<s'.c→ρ n=none) →
 (∀ a' w',DoneC ρ M s base w0 s' w' (fun ρ'=>TR D ρ' T' a')→Q .normal a' w')→wpOps P ops Q (List.range' k l.length) a w
 | [],k,T,T',s,s',a,ρ,M,w,hl,h,hI,hT,hG,hF,hQ=>by
  simp only [seqA] at h
  cases h
  exact hQ a w ⟨Nat.le_refl _,cov.refl _,Done.stay hI (Same.refl w) hT⟩
 | o :: r,k,T,T',s,s',a,ρ,M,w,hl,h,hI,hT,hG,hF,hQ=>by
  simp only [seqA] at h
  split at h
  ·rename_i v s1 h1
   have m1:=step1_mono h1
   have m2:=seqA_mono h
   rw [List.length_cons,range_from]
   have ho:ops[k]?=some o:=by have:=hl 0 (by simp);simpa using this
   simp only [wpOps,ho]
   refine step1_wp hc h1 hI hT hG (fun n h2 h3=>hF n h2 (by omega)) (fun y w' hd=>?_)
   obtain ⟨d1,d2,ρ1,M1,e1,e2,e3,e4,e5⟩:=hd
   refine seq_wp hc (l:=r) (fun j hj=>by have:=hl (j+1) (by simp;omega);simpa [Nat.add_assoc,Nat.add_comm 1 j] using this) h e3 ((hT.mono e1).put o.dst e5) (hG.mono e1) (fun n h2 h3=>?_) (fun a' w'' hd2=>hQ a' w'' ?_)
   ·rcases e2 n with h4 | h4
    ·rw [h4];exact hF n (by omega) h3
    ·omega
   ·exact DoneC.after d1 d2 e1 e2 e4 hd2
  ·cases h
def rd (T:Array Value):ResultVar→Sem Value
 | .tmp t=>pure (T.getD t undef)
 | .cell b t=>do loadVar t (← asAddr (T.getD b undef))
theorem getD_of {T:Array Value} {t:Nat} {y:Value} (h:T[t]?=some y):T.getD t undef=y:=by simp [Array.getD_eq_getD_getElem?,h]
theorem res_run {T:Tmps} {a:Act} {s:St} {ρ:Ren} {M:Mem} {base:Nat} {w0 w:World} (hI:In ρ M s base w0 w) (hT:TR D ρ T a):∀ {rs:List ResultVar} {vs:List Value},resA P T s rs=some vs →
 ∃ ys,VRl ρ vs ys∧(rs.mapM (rd a.tmps)).run P w = .ok ys w
 | [],vs,h=>by
  simp only [resA] at h
  cases h
  exact ⟨[],VRl.nil ρ,by simp⟩
 | .tmp t :: r,vs,h=>by
  simp only [resA] at h
  split at h
  ·rename_i v us h1 h2
   cases h
   obtain ⟨y,g1,g2⟩:=hT.at_ t v h1
   obtain ⟨ys,g3,g4⟩:=res_run hI hT h2
   exact ⟨y :: ys,VRl.cons g2 g3,by simp only [List.mapM_cons,rd,getD_of g1,Sem.run_bind,Sem.run_pure,Result.andThen_ok,g4]⟩
  ·cases h
 | .cell b t :: r,vs,h=>by
  simp only [resA] at h
  split at h
  ·rename_i ad hb
   split at h
   ·rename_i v us h1 h2
    cases h
    obtain ⟨y,g1,g2⟩:=hT.at_ b _ hb
    obtain ⟨q1,q2⟩:=loadA_run h1 hI
    obtain ⟨bn,off,sp⟩:=ad
    cases q1
    cases g2 with
    | ptr off sp e =>
     obtain ⟨y2,q3,q4⟩:=q2 _ e
     obtain ⟨ys,g3,g4⟩:=res_run hI hT h2
     exact ⟨y2 :: ys,VRl.cons q3 g3,by simp only [List.mapM_cons,rd,getD_of g1,asAddr,Sem.run_bind,Sem.run_pure,Result.andThen_ok,q4,g4]⟩
   ·cases h
  ·cases h
theorem results_run {fn:Func} {T:Tmps} {a:Act} {s:St} {ρ:Ren} {M:Mem} {base:Nat} {w0 w:World} {vs:List Value} (hI:In ρ M s base w0 w) (hT:TR D ρ T a) (h:resA P T s fn.results.toList=some vs) :
 ∃ y,VR ρ (packRes vs) y∧(results fn a.tmps).run P w = .ok y w:=by
 obtain ⟨ys,h1,h2⟩:=res_run hI hT h
 have h3:(fn.results.mapM (rd a.tmps)).run P w = .ok ys.toArray w:=by
  rw [Array.mapM_eq_mapM_toList]
  simp [h2]
 refine ⟨if h:ys.toArray.size=1 then ys.toArray[0] else .tuple ys.toArray,?_,?_⟩
 ·have hl:=h1.1
  match vs,ys,h1,hl with
  | [v],[y],h1,_=>exact h1.2 0 v y rfl rfl
  | [],[],h1,_=>exact .tuple rfl (fun i x y h=>by simp at h)
  | v1 :: v2 :: r,y1 :: y2 :: r',h1,hl =>
   have:¬ (y1 :: y2 :: r').toArray.size=1:=by simp
   rw [dif_neg this]
   have:=h1.arr
   exact .tuple this.1 this.2
 ·have he:results fn a.tmps=(fn.results.mapM (rd a.tmps) >>= fun vs=>pure (if h:vs.size=1 then vs[0] else .tuple vs)):=by
   unfold results
   have:(fun x=>(match x with | .tmp t=>pure (a.tmps.getD t undef) | .cell b t=>do loadVar t (← asAddr (a.tmps.getD b undef)):Sem Value))=rd a.tmps:=by funext x;cases x <;> rfl
   rw [← this]
   rfl
  rw [he]
  simp only [Sem.run_bind,h3,Result.andThen_ok,Sem.run_pure]
end
end Ev
namespace Ev
set_option linter.unusedVariables false
set_option linter.unusedSimpArgs false
variable {P:Program}
theorem VR.back {ρ ρ2:Ren} (h:ρ.le ρ2) {v v1:Value} (o:VR ρ v v1):∀ {v2:Value},VR ρ2 v v2→VR ρ v v2:=by
 have arr:∀ {a b c:Array Value},a.size=b.size→(∀ (i:Nat) (x y:Value),a[i]?=some x→b[i]?=some y → ∀ {v2:Value},VR ρ2 x v2→VR ρ x v2)→a.size=c.size→(∀ (i:Nat) (x y:Value),a[i]?=some x→c[i]?=some y→VR ρ2 x y) → ∀ (i:Nat) (x y:Value),a[i]?=some x→c[i]?=some y→VR ρ x y:=fun {a b c} h1 h2 h3 h4 i x y hx hy=>by
  have hi:i<b.size:=by rw [← h1];exact (Array.getElem?_eq_some_iff.1 hx).1
  exact h2 i x b[i] hx (Array.getElem?_eq_getElem hi) (h4 i x y hx hy)
 induction o with
 | bool b=>intro v2 n;cases n;exact .bool b
 | int k n=>intro v2 n;cases n;exact .int _ _
 | float k n=>intro v2 n;cases n;exact .float _ _
 | complex k n m=>intro v2 n;cases n;exact .complex _ _ _
 | string s=>intro v2 n;cases n;exact .string _
 | pnil=>intro v2 n;cases n;exact .pnil
 | @ptr nm k off sp e =>
  intro v2 n
  cases n with
  | @ptr _ k2 _ _ e2=>rw [h _ _ e] at e2;cases e2;exact .ptr off sp e
 | snil n c=>intro v2 n;cases n;exact .snil _ _
 | @slice nm k off sp n c c' e h1 h2 h3 =>
  intro v2 n2
  cases n2 with
  | @slice _ k2 _ _ _ _ c2 e2 g1 g2 g3=>rw [h _ _ e] at e2;cases e2;exact .slice off sp n c c2 e g1 g2 g3
 | mnil=>intro v2 n;cases n;exact .mnil
 | @map nm k e =>
  intro v2 n
  cases n with
  | @map _ k2 e2=>rw [h _ _ e] at e2;cases e2;exact .map e
 | nilFunc=>intro v2 n;cases n;exact .nilFunc
 | nilIface=>intro v2 n;cases n;exact .nilIface
 | iface t _ ih=>intro v2 n;cases n with | iface _ hx=>exact .iface t (ih hx)
 | agg hs _ ih=>intro v2 n;cases n with | agg hs2 hx=>exact .agg hs2 (arr hs ih hs2 hx)
 | tuple hs _ ih=>intro v2 n;cases n with | tuple hs2 hx=>exact .tuple hs2 (arr hs ih hs2 hx)
 | func f hs _ hs2 _ ih ih2=>intro v2 n;cases n with | func _ k1 kx k2 kx2=>exact .func f k1 (arr hs ih k1 kx) k2 (arr hs2 ih2 k2 kx2)
theorem BR.back {ρ ρ2:Ren} (h:ρ.le ρ2) {b:Blk} {o1 o:Obj} (h1:BR ρ b o1) (h2:BR ρ2 b o):BR ρ b o:=by
 cases b with
 | cells cs e m r =>
  cases o1 <;> try exact h1.elim
  cases o <;> try exact h2.elim
  obtain ⟨_,_,_,_,a5⟩:=h1
  obtain ⟨b1,b2,b3,b4,b5⟩:=h2
  refine ⟨b1,b2,b3,b4,fun i v hv=>?_⟩
  obtain ⟨v1,_,c1⟩:=a5 i v hv
  obtain ⟨v2,c2,c3⟩:=b5 i v hv
  exact ⟨v2,c2,c1.back h c3⟩
 | map es cl =>
  cases o1 <;> try exact h1.elim
  cases o <;> try exact h2.elim
  rename_i es1 cl1 es2 cl2
  obtain ⟨a1,a2,a3⟩:=h1
  obtain ⟨b1,b2,b3⟩:=h2
  refine ⟨b1,b2,fun i x y hx hy=>?_⟩
  have hi:i<es1.size:=by rw [a2];exact (List.getElem?_eq_some_iff.1 hx).1
  obtain ⟨c1,c2,_⟩:=a3 i x es1[i] hx (Array.getElem?_eq_getElem hi)
  obtain ⟨d1,d2,d3⟩:=b3 i x y hx hy
  exact ⟨c1.back h d1,c2.back h d2,d3⟩
 | miter m a b c =>
  cases o1 <;> try exact h1.elim
  cases o <;> try exact h2.elim
  obtain ⟨a1,_⟩:=h1
  obtain ⟨b1,b2⟩:=h2
  refine ⟨?_,b2⟩
  cases m with
  | none=>exact b1
  | some r =>
   obtain ⟨k,c1,_⟩:=a1
   obtain ⟨k2,d1,d2⟩:=b1
   rw [h _ _ c1] at d1
   cases d1
   exact ⟨k,c1,d2⟩
 | siter s p =>
  cases o <;> try exact h2.elim
  exact h2
 | dead=>cases o <;> trivial
theorem le_of {b b2:Blk} (h1:shp b=shp b2) (h2:∀ j,cel b j=cel b2 j):Le b b2:=⟨h1,fun i v hv=>by rw [← h2 i];exact hv⟩
theorem left_alone {ρ ρ2:Ren} {M M2:Mem} {s s1:St} {base:Nat} {w0 w w':World} (hI:In ρ M s base w0 w) (hF:∀ n,s.c≤n→n<s1.c→ρ n=none) (hr:ρ.le ρ2) (hI2:In ρ2 M2 s1 base w0 w') (hag:agree s1.wr M M2)
 (hw:s1.wr.all (fun x=>Nat.ble s.c x.n && Nat.blt x.n s1.c)=true):In ρ M s base w0 w':=by
 refine ⟨hI.sub,⟨fun n b hb hd=>?_,hI.hr.inj,hI2.hr.base⟩,hI2.bel⟩
 obtain ⟨k,o,e1,e2,e3,e4,e5⟩:=hI.hr.blk n b hb hd
 have no:∀ i,¬ wrote s1.wr n i:=fun i ⟨x,hx,hn,_⟩=>by
  have:=List.all_eq_true.1 hw x hx
  simp only [Bool.and_eq_true,Nat.ble_eq,Nat.blt_eq] at this
  rw [hF n (by omega) (by omega)] at e1
  cases e1
 obtain ⟨g1,g2⟩:=hag n (no none)
 rw [hb] at g1
 cases hM2:M2 n with
 | none=>rw [hM2] at g1;cases g1
 | some b2 =>
  rw [hM2] at g1
  simp only [Option.map_some,Option.some.injEq] at g1
  have hc:∀ j,cel b j=cel b2 j:=fun j=>by
   have:=g2 j (no (some j))
   rw [hb,hM2] at this
   exact this
  obtain ⟨k2,o2,f1,f2,f3,f4,f5⟩:=hI2.hr.blk n b2 hM2 (by rw [← shp_dead g1];exact hd)
  rw [hr _ _ e1] at f1
  cases f1
  exact ⟨k,o2,e1,f2,e3.back hr (f3.less (le_of g1 hc)),fun h=>f4 (by rw [← shp_ro g1];exact h),f5⟩
theorem leave_ok {ρ:Ren} {M:Mem} {s s1 s':St} {base:Nat} {w0 w w':World} {u v y:Value} (hI:In ρ M s base w0 w) (hc:s.c≤s1.c) (hF:∀ n,s.c≤n→n<s1.c→ρ n=none)
 (hd:Done ρ M ⟨s.es,[],s.c⟩ base w0 s1 w' (fun ρ'=>VR ρ' u y)) (h:leave s u s1=(v,s')):DoneC ρ M s base w0 s' w' (fun ρ'=>VR ρ' v y):=by
 obtain ⟨ρ2,M2,a1,a2,a3,a4,a5⟩:=hd
 unfold leave at h
 split at h
 ·rename_i hf hw
  cases h
  have hl:=left_alone hI hF a1 a3 a4 hw
  refine ⟨hc,cov.refl _,ρ,M,ρ.le_refl,fun _=>.inl rfl,⟨hl.sub,hl.hr,hl.bel⟩,agree.refl _ _,?_⟩
  rw [fl_eq hf a5]
  exact fl_refl ρ hf
 ·cases h
  exact ⟨hc,(foldr_cov _ _).1,ρ2,M2,a1,a2,⟨a3.sub,a3.hr,a3.bel⟩,a4.mono (foldr_cov _ _).2,a5⟩
theorem startT_len:∀ (l:List Value) (n:Nat),(startT l n).length=l.length+(n-l.length)
 | [],n=>by simp [startT]
 | v :: r,n=>by simp only [startT,List.length_cons,startT_len r (n-1)];omega
theorem startT_at {ρ:Ren}:∀ (l l':List Value) (n d:Nat) (v:Value),VRl ρ l l'→tmpAt (startT l n) d=some v → ∃ y,(l' ++ List.replicate (n-l'.length) undef)[d]?=some y∧VR ρ v y
 | [],l',n,d,v,h,hv=>by
  have:l'=[]:=by cases l' with | nil=>rfl | cons a b=>simp [VRl] at h
  subst this
  simp only [startT] at hv
  have key:∀ n d,tmpAt (List.replicate n (some (Value.tuple #[]))) d=some v→v = .tuple #[]∧d<n:=by
   intro n
   induction n with
   | zero=>intro d h;simp [tmpAt] at h
   | succ n ih =>
    intro d h
    cases d with
    | zero=>simp only [List.replicate_succ,tmpAt,Option.some.injEq] at h;exact ⟨h.symm,by omega⟩
    | succ d=>simp only [List.replicate_succ,tmpAt] at h;have:=ih d h;exact ⟨this.1,by omega⟩
  obtain ⟨rfl,hd⟩:=key n d hv
  exact ⟨undef,by simp [List.getElem?_replicate,hd],.tuple rfl (fun i x y h=>by simp at h)⟩
 | x :: r,[],n,d,v,h,hv=>by simp [VRl] at h
 | x :: r,x' :: r',n,d,v,h,hv=>by
  cases d with
  | zero =>
   simp only [startT,tmpAt,Option.some.injEq] at hv
   subst hv
   exact ⟨x',by simp,h.2 0 x x' rfl rfl⟩
  | succ d =>
   simp only [startT,tmpAt] at hv
   obtain ⟨y,h1,h2⟩:=startT_at r r' (n-1) d v ⟨by have:=h.1;simpa using this,fun i x y a b=>h.2 (i+1) x y (by simpa using a) (by simpa using b)⟩ hv
   refine ⟨y,?_,h2⟩
   have:n-(x' :: r').length=n-1-r'.length:=by simp only [List.length_cons];omega
   rw [this]
   simpa using h1
theorem startT_tr {ρ:Ren} {args:List Value} {args':Array Value} {n:Nat} (h:VRl ρ args args'.toList):TR [] ρ (startT args n) { tmps:=args' ++ Array.replicate (n-args'.size) undef,defers:=[] }:=by
 have hl:args.length=args'.size:=by simpa using h.1
 refine ⟨rfl,?_,fun d v hv=>?_⟩
 ·rw [startT_len]
  simp only [Array.size_append,Array.size_replicate]
  omega
 ·obtain ⟨y,h1,h2⟩:=startT_at args args'.toList n d v h hv
  refine ⟨y,?_,h2⟩
  show (args' ++ Array.replicate (n-args'.size) undef)[d]?=some y
  rw [← Array.getElem?_toList]
  simpa using h1
def exOf:Ex→Exit
 | .normal=>.normal
 | .exit i=>.exit i
 | .goto l=>.goto l
 | .ret=>.ret
def LoopWp (P:Program) (b:Code) (Q:Exit→Act→World→Prop) (a:Act) (w:World):Prop :=
 ∀ (F:Frame) (k:List Item) (cs:List Frame),∃ e a' w',Q e a' w'∧Arrives P (lone (F.at a (.code b :: .inLoop b :: k)) cs w) F k cs e a' w'
theorem loop_step {b:Code} {Q:Exit→Act→World→Prop} {a:Act} {w:World} (h:b.wp P (Exit.then (LoopWp P b Q) Q) a w):LoopWp P b Q a w:=by
 intro F k cs
 obtain ⟨e,a₁,w₁,hq,harr⟩:=h F (.inLoop b :: k) cs
 cases e with
 | normal =>
  obtain ⟨e₂,a₂,w₂,hq₂,harr₂⟩:=hq F k cs
  exact ⟨e₂,a₂,w₂,hq₂,.of_steps (Steps.trans harr (.one step_inLoop)) harr₂⟩
 | exit id=>exact ⟨_,a₁,w₁,hq,.pass (x:=.inLoop b) rfl (fun _ _=>.inl (by simp)) harr⟩
 | goto l=>exact ⟨_,a₁,w₁,hq,.pass (x:=.inLoop b) rfl (fun _ _=>.inl (by simp)) harr⟩
 | ret=>exact ⟨_,a₁,w₁,hq,.pass (x:=.inLoop b) rfl (fun _ _=>.inl (by simp)) harr⟩
 | panic ch=>exact ⟨_,a₁,w₁,hq,.pass (x:=.inLoop b) rfl (fun _ _=>.inl (by simp)) harr⟩
 | outgrown=>exact ⟨_,a₁,w₁,hq,.pass (x:=.inLoop b) rfl (fun _ _=>.inl (by simp)) harr⟩
theorem loop_wp {b:Code} {Q:Exit→Act→World→Prop} {a:Act} {w:World} (h:LoopWp P b Q a w):(Code.loop b).wp P Q a w:=fun F k cs =>
 let ⟨e,a',w',hq,harr⟩:=h F k cs;⟨e,a',w',hq,.of_steps (.one step_loop) harr⟩
def DrawOk (P:Program) (call:FuncId→List Value→St→Option (Value × St)):Prop:=∀ (id:Nat) (ops:Array Oper) (T T':Tmps) (s s':St),drawA P call ops ops.toList [] T s=some (T',s') →
 ∀ (D:List Deferred) (ρ:Ren) (M:Mem) (base:Nat) (w0 w:World) (a:Act) (Q:Exit→Act→World→Prop),In ρ M s base w0 w→TR D ρ T a→GR ρ→(∀ n,s.c≤n→n<s'.c→ρ n=none) →
 (∀ a' w',DoneC ρ M s base w0 s' w' (fun ρ'=>TR D ρ' T' a')→Q .normal a' w')→(Code.region id ops true).wp P Q a w
theorem drawA_mono {call:FuncId→List Value→St→Option (Value × St)} {ops:Array Oper}:∀ {l:List Oper} {done:List Rec} {T T':Tmps} {s s':St},drawA P call ops l done T s=some (T',s')→s.c≤s'.c
 | [],done,T,T',s,s',h=>by simp only [drawA] at h;cases h;exact Nat.le_refl _
 | o :: r,done,T,T',s,s',h=>by
  simp only [drawA] at h
  split at h
  ·rename_i v s1 h1
   split at h
   ·have m1:=step1_mono h1
    have m2:=drawA_mono h
    exact Nat.le_trans m1 m2
   ·cases h
  ·cases h
section
variable {sp:FuncId→List Value→St→Option (Value × St)}
def callOf (P:Program) (sp:FuncId→List Value→St→Option (Value × St)) (f:Nat):FuncId→List Value→St→Option (Value × St):=fun g args s1=>match sp g args s1 with
 | some r=>some r
 | none=>evF P sp f g args s1
def EvMono (P:Program) (sp:FuncId→List Value→St→Option (Value × St)) (f:Nat):Prop:=∀ c T s x T' s',evC P sp f c T s=some (x,T',s')→s.c≤s'.c
def EvOk (P:Program) (sp:FuncId→List Value→St→Option (Value × St)) (f:Nat):Prop:=∀ c T s x T' s',evC P sp f c T s=some (x,T',s') →
 ∀ (D:List Deferred) (ρ:Ren) (M:Mem) (base:Nat) (w0 w:World) (a:Act) (Q:Exit→Act→World→Prop),In ρ M s base w0 w→TR D ρ T a→GR ρ→(∀ n,s.c≤n→n<s'.c→ρ n=none) →
 (∀ a' w',DoneC ρ M s base w0 s' w' (fun ρ'=>TR D ρ' T' a')→Q (exOf x) a' w')→c.wp P Q a w ∧ ∀ b,c = .loop b→LoopWp P b Q a w
theorem leave_c {s s1 s':St} {u v:Value} (h:leave s u s1=(v,s')):s'.c=s1.c:=by
 unfold leave at h
 split at h <;> cases h <;> rfl
theorem evF_some {f:Nat} {g:FuncId} {args:List Value} {s s':St} {v:Value} (h:evF P sp f g args s=some (v,s')):∃ fn b x T' s1 vs,P.funcs[g]?=some fn∧fn.body=some b∧(x = .normal∨x = .ret)∧evC P sp f b (startT args fn.ntmps) ⟨s.es,[],s.c⟩=some (x,T',s1)∧resA P T' s1 fn.results.toList=some vs∧leave s (packRes vs) s1=(v,s'):=by
 unfold evF at h
 split at h
 ·rename_i fn hf
  split at h
  ·rename_i b hb
   split at h
   ·rename_i T' s1 he
    obtain ⟨vs,h1,h2⟩:=Option.map_eq_some_iff.1 h
    exact ⟨fn,b,_,T',s1,vs,hf,hb,.inl rfl,he,h1,h2⟩
   ·rename_i T' s1 he
    obtain ⟨vs,h1,h2⟩:=Option.map_eq_some_iff.1 h
    exact ⟨fn,b,_,T',s1,vs,hf,hb,.inr rfl,he,h1,h2⟩
   ·cases h
  ·cases h
 ·cases h
end
end Ev
namespace Ev
set_option linter.unusedVariables false
set_option linter.unusedSimpArgs false
variable {P:Program}
section
variable {sp:FuncId→List Value→St→Option (Value × St)}
theorem evF_ok {f:Nat} (hM:EvMono P sp f) (hE:EvOk P sp f):CallOk P (evF P sp f):=by
 intro g args s v s' h ρ M base w0 w args' hI hG hF hA
 obtain ⟨fn,b,x,T',s1,vs,h1,h2,h3,h4,h5,h6⟩:=evF_some h
 have hc:s.c≤s1.c:=hM b _ ⟨s.es,[],s.c⟩ _ _ _ h4
 have hF1:∀ n,s.c≤n→n<s1.c→ρ n=none:=by rw [← leave_c h6];exact hF
 refine calls_of_wp h1 h2 (hE _ _ _ _ _ _ h4 [] ρ M base w0 w _ _ ⟨hI.sub,hI.hr,hI.bel⟩ (startT_tr hA) hG hF1 (fun a' w' hd=>?_)).1
 obtain ⟨d1,d2,ρ2,M2,a1,a2,a3,a4,a5⟩:=hd
 obtain ⟨y,g1,g2⟩:=results_run a3 a5 h5
 have:a'.defers=[] ∧ ∃ v',(results fn a'.tmps).run P w' = .ok v' w' ∧ ∃ y,Ending.returned v' = .returned y∧DoneC ρ M s base w0 s' w' (fun ρ'=>VR ρ' v y) :=
  ⟨a5.defers,y,g2,y,rfl,leave_ok hI hc hF1 ⟨ρ2,M2,a1,a2,a3,a4,g1⟩ h6⟩
 rcases h3 with rfl | rfl
 ·exact this
 ·exact this
theorem callOf_ok {f:Nat} (hs:CallOk P sp) (hM:EvMono P sp f) (hE:EvOk P sp f):CallOk P (callOf P sp f):=by
 intro g args s v s' h
 unfold callOf at h
 split at h
 ·rename_i r hr
  cases h
  exact hs g args s v s' hr
 ·exact evF_ok hM hE g args s v s' h
theorem evC_mono:∀ f,EvMono P sp f
 | 0=>fun c T s x T' s' h=>by simp only [evC] at h;cases h
 | f+1=>fun c T s x T' s' h=>by
  have ih:=evC_mono f
  cases c with
  | skip=>simp only [evC] at h;cases h;exact Nat.le_refl _
  | label l=>simp only [evC] at h;cases h;exact Nat.le_refl _
  | exit l=>simp only [evC] at h;cases h;exact Nat.le_refl _
  | ret=>simp only [evC] at h;cases h;exact Nat.le_refl _
  | seq a b =>
   simp only [evC] at h
   split at h
   ·rename_i h1
    exact Nat.le_trans (ih _ _ _ _ _ _ h1) (ih _ _ _ _ _ _ h)
   ·exact ih _ _ _ _ _ _ h
  | cond y a b =>
   simp only [evC] at h
   split at h
   ·exact ih _ _ _ _ _ _ h
   ·exact ih _ _ _ _ _ _ h
   ·cases h
  | block id b =>
   simp only [evC] at h
   split at h
   ·rename_i h1
    split at h <;> cases h <;> exact ih _ _ _ _ _ _ h1
   ·exact ih _ _ _ _ _ _ h
  | scope b =>
   simp only [evC] at h
   split at h
   ·cases h
   ·exact ih _ _ _ _ _ _ h
  | loop b =>
   simp only [evC] at h
   split at h
   ·rename_i h1
    exact Nat.le_trans (ih _ _ _ _ _ _ h1) (ih _ _ _ _ _ _ h)
   ·exact ih _ _ _ _ _ _ h
  | region id ops draw =>
   simp only [evC] at h
   cases draw with
   | false =>
    obtain ⟨⟨T1,s1⟩,h1,h2⟩:=Option.map_eq_some_iff.1 h
    cases h2
    exact seqA_mono h1
   | true =>
    obtain ⟨⟨T1,s1⟩,h1,h2⟩:=Option.map_eq_some_iff.1 h
    cases h2
    exact drawA_mono h1
  | _=>simp only [evC] at h;cases h
end
end Ev
namespace Ev
set_option linter.unusedVariables false
set_option linter.unusedSimpArgs false
variable {P:Program}
variable {D:List Deferred}
section
variable {sp:FuncId→List Value→St→Option (Value × St)}
theorem evC_region {f id:Nat} {ops:Array Oper} {draw:Bool} {T:Tmps} {s:St}:evC P sp (f+1) (.region id ops draw) T s=match draw with
 | false=>(seqA P (callOf P sp f) ops ops.toList T s).map fun (T',s')=>(.normal,T',s')
 | true=>(drawA P (callOf P sp f) ops ops.toList [] T s).map fun (T',s')=>(.normal,T',s'):=by
 simp only [evC]
 rfl
theorem eval_bool {ρ:Ren} {T:Tmps} {a:Act} {x:Operand} {b:Bool} (hT:TR D ρ T a) (hG:GR ρ) (h:opd T x=some (.bool b)):a.eval x = .bool b:=by
 have:=hT.opd hG [x] x (by simp) _ h
 generalize a.eval x=y at this ⊢
 cases this
 rfl
theorem Exit.then_of {Q:Exit→Act→World→Prop} {N:Act→World→Prop} {x:Ex} {a:Act} {w:World} (hx:x ≠ .normal) (h:Q (exOf x) a w):Exit.then N Q (exOf x) a w:=by
 cases x <;> first | exact absurd rfl hx | exact h
theorem evC_ok (hs:CallOk P sp) (hd:∀ call,CallOk P call→DrawOk P call):∀ f,EvOk P sp f
 | 0=>fun c T s x T' s' h=>by simp only [evC] at h;cases h
 | f+1=>fun c T s x T' s' h D ρ M base w0 w a Q hI hT hG hF hQ=>by
  have ih:=evC_ok hs hd f
  have im:=evC_mono (P:=P) (sp:=sp) f
  have stay:s'=s→T'=T→Q (exOf x) a w:=fun e1 e2=>by
   subst e1;subst e2
   exact hQ a w ⟨Nat.le_refl _,cov.refl _,Done.stay hI (Same.refl w) hT⟩
  have next:∀ {c2:Code} {T1:Tmps} {s1:St} {a1:Act} {w1:World},s.c≤s1.c→evC P sp f c2 T1 s1=some (x,T',s')→DoneC ρ M s base w0 s1 w1 (fun ρ'=>TR D ρ' T1 a1)→c2.wp P Q a1 w1 ∧ ∀ b,c2 = .loop b→LoopWp P b Q a1 w1:=fun {c2 T1 s1 a1 w1} m1 h2 hd1=>by
   obtain ⟨d1,d2,ρ1,M1,e1,e2,e3,e4,e5⟩:=hd1
   refine ih _ _ _ _ _ _ h2 D ρ1 M1 base w0 w1 a1 Q e3 e5 (hG.mono e1) (fun n h4 h5=>?_) (fun a' w'' hd2=>hQ a' w'' (DoneC.after d1 d2 e1 e2 e4 hd2))
   rcases e2 n with h6 | h6
   ·rw [h6];exact hF n (by omega) h5
   ·omega
  cases c with
  | skip=>simp only [evC] at h;cases h;exact ⟨wp_skip (stay rfl rfl),fun b e=>by cases e⟩
  | label l=>simp only [evC] at h;cases h;exact ⟨wp_label (stay rfl rfl),fun b e=>by cases e⟩
  | exit l=>simp only [evC] at h;cases h;exact ⟨wp_exit (stay rfl rfl),fun b e=>by cases e⟩
  | ret=>simp only [evC] at h;cases h;exact ⟨wp_ret (stay rfl rfl),fun b e=>by cases e⟩
  | seq c1 c2 =>
   refine ⟨wp_seq ?_,fun b e=>by cases e⟩
   simp only [evC] at h
   split at h
   ·rename_i T1 s1 h1
    have m1:=im _ _ _ _ _ _ h1
    have m2:=im _ _ _ _ _ _ h
    exact (ih _ _ _ _ _ _ h1 D ρ M base w0 w a _ hI hT hG (fun n h2 h3=>hF n h2 (by omega)) (fun a' w' hd1=>(next m1 h hd1).1)).1
   ·rename_i hne
    refine (ih _ _ _ _ _ _ h D ρ M base w0 w a _ hI hT hG hF (fun a' w' hd1=>Exit.then_of (fun e=>?_) (hQ a' w' hd1))).1
    subst e
    exact hne _ _ h
  | cond y c1 c2 =>
   simp only [evC] at h
   split at h
   ·rename_i hy
    exact ⟨wp_cond_true (eval_bool hT hG hy) (ih _ _ _ _ _ _ h D ρ M base w0 w a _ hI hT hG hF hQ).1,fun b e=>by cases e⟩
   ·rename_i hy
    exact ⟨wp_cond_false (eval_bool hT hG hy) (ih _ _ _ _ _ _ h D ρ M base w0 w a _ hI hT hG hF hQ).1,fun b e=>by cases e⟩
   ·cases h
  | block id c1 =>
   refine ⟨wp_block ?_,fun b e=>by cases e⟩
   simp only [evC] at h
   split at h
   ·rename_i i T1 s1 h1
    split at h
    ·rename_i hb
     cases h
     have hb:=Nat.eq_of_beq_eq_true hb
     refine (ih _ _ _ _ _ _ h1 D ρ M base w0 w a _ hI hT hG hF (fun a' w' hd1=>?_)).1
     show Exit.inBlock id Q (.exit i) a' w'
     simp only [Exit.inBlock,if_pos hb]
     exact hQ a' w' hd1
    ·rename_i hb
     cases h
     refine (ih _ _ _ _ _ _ h1 D ρ M base w0 w a _ hI hT hG hF (fun a' w' hd1=>?_)).1
     show Exit.inBlock id Q (.exit i) a' w'
     have hb:¬ i=id:=fun e=>by subst e;simp at hb
     simp only [Exit.inBlock,if_neg hb]
     exact hQ a' w' hd1
   ·rename_i hne
    refine (ih _ _ _ _ _ _ h D ρ M base w0 w a _ hI hT hG hF (fun a' w' hd1=>?_)).1
    cases x with
    | exit i=>exact absurd h (hne _ _ _)
    | _=>exact hQ a' w' hd1
  | scope c1 =>
   refine ⟨wp_scope_straight ?_,fun b e=>by cases e⟩
   simp only [evC] at h
   split at h
   ·cases h
   ·rename_i hne
    refine (ih _ _ _ _ _ _ h D ρ M base w0 w a _ hI hT hG hF (fun a' w' hd1=>?_)).1
    cases x with
    | goto l=>exact absurd h (hne _ _ _)
    | _=>exact hQ a' w' hd1
  | loop c1 =>
   have key:LoopWp P c1 Q a w:=by
    refine loop_step ?_
    simp only [evC] at h
    split at h
    ·rename_i T1 s1 h1
     have m1:=im _ _ _ _ _ _ h1
     have m2:=im _ _ _ _ _ _ h
     exact (ih _ _ _ _ _ _ h1 D ρ M base w0 w a _ hI hT hG (fun n h2 h3=>hF n h2 (by omega)) (fun a' w' hd1=>(next m1 h hd1).2 c1 rfl)).1
    ·rename_i hne
     refine (ih _ _ _ _ _ _ h D ρ M base w0 w a _ hI hT hG hF (fun a' w' hd1=>Exit.then_of (fun e=>?_) (hQ a' w' hd1))).1
     subst e
     exact hne _ _ h
   exact ⟨loop_wp key,fun b e=>by cases e;exact key⟩
  | region id ops draw =>
   refine ⟨?_,fun b e=>by cases e⟩
   rw [evC_region] at h
   have hc:=callOf_ok hs im ih
   cases draw with
   | false =>
    obtain ⟨⟨T1,s1⟩,h1,h2⟩:=Option.map_eq_some_iff.1 h
    cases h2
    refine wp_region ?_
    rw [List.range_eq_range',← Array.length_toList]
    exact seq_wp hc (fun j hj=>by simp) h1 hI hT hG hF hQ
   | true =>
    obtain ⟨⟨T1,s1⟩,h1,h2⟩:=Option.map_eq_some_iff.1 h
    cases h2
    exact hd _ hc id ops T T' s s' h1 D ρ M base w0 w a Q hI hT hG hF hQ
  | _=>simp only [evC] at h;cases h
theorem evF_calls (hs:CallOk P sp) (hd:∀ call,CallOk P call→DrawOk P call) (f:Nat):CallOk P (evF P sp f):=evF_ok (evC_mono f) (evC_ok hs hd f)
end
end Ev
namespace Ev
set_option linter.unusedVariables false
set_option linter.unusedSimpArgs false
variable {P:Program}
inductive Fact where
 | shape (b:Blk)
 | cell (v:Value)
def tellB (b:Blk):Option Nat→Option Fact
 | none=>some (.shape (shp b))
 | some i=>(cel b i).map .cell
def tell (es:Heap) (n:Nat) (i:Option Nat):Option Fact:=(get es n).bind fun b=>tellB b i
def tellM (M:Mem) (n:Nat) (i:Option Nat):Option Fact:=(M n).bind fun b=>tellB b i
theorem sub_iff {es:Heap} {M:Mem}:Sub es M ↔ ∀ n i x,tell es n i=some x→tellM M n i=some x:=by
 constructor
 ·intro h n i x hx
  unfold tell at hx
  cases hg:get es n with
  | none=>rw [hg] at hx;cases hx
  | some b =>
   rw [hg] at hx
   obtain ⟨b',h1,h2,h3⟩:=h n b hg
   unfold tellM
   rw [h1]
   cases i with
   | none=>simpa [tellB,h2] using hx
   | some i =>
    simp only [Option.bind_some,tellB] at hx ⊢
    obtain ⟨v,e1,e2⟩:=Option.map_eq_some_iff.1 hx
    rw [h3 i v e1]
    exact congrArg some e2
 ·intro h n b hg
  have h0:=h n none (.shape (shp b)) (by simp [tell,hg,tellB])
  unfold tellM at h0
  cases hM:M n with
  | none=>rw [hM] at h0;cases h0
  | some b' =>
   rw [hM] at h0
   simp only [Option.bind_some,tellB,Option.some.injEq,Fact.shape.injEq] at h0
   refine ⟨b',rfl,h0.symm,fun i v hv=>?_⟩
   have h1:=h n (some i) (.cell v) (by simp [tell,hg,tellB,hv])
   simpa [tellM,hM,tellB] using h1
theorem agree_tell {l:List Rng} {M M':Mem} (h:agree l M M') {n:Nat} {i:Option Nat} (hw:¬ wrote l n i):tellM M n i=tellM M' n i:=by
 have hn:¬ wrote l n none:=fun ⟨x,hx,h1,h2⟩=>hw ⟨x,hx,h1,by cases i;exact h2;exact .inl h2⟩
 obtain ⟨h1,h2⟩:=h n hn
 unfold tellM
 cases i with
 | none =>
  cases hM:M n <;> cases hM':M' n <;> simp_all [tellB]
 | some j =>
  have:=h2 j hw
  cases hM:M n <;> cases hM':M' n <;> simp_all [tellB]
def looks (l:List Rng) (n:Nat) (i:Option Nat):Prop:=∃ x ∈ l,x.n=n∧match i with
 | none=>True
 | some j=>HI≤x.hi∨(x.lo≤j∧j<x.hi)
theorem wrote_looks {l:List Rng} {n:Nat} {i:Option Nat} (h:wrote l n i):looks l n i:=by
 obtain ⟨x,h1,h2,h3⟩:=h
 refine ⟨x,h1,h2,?_⟩
 cases i with
 | none=>trivial
 | some j=>exact h3
theorem offs_no {a b:List Rng} (h:offs a b=true) {n:Nat} {i:Option Nat} (h1:wrote a n i) (h2:looks b n i):False:=by
 obtain ⟨x,x1,x2,x3⟩:=h1
 obtain ⟨y,y1,y2,y3⟩:=h2
 have:=List.all_eq_true.1 (List.all_eq_true.1 h x x1) y y1
 simp only [Rng.off,Bool.or_eq_true,Bool.and_eq_true,Bool.not_eq_true',Nat.blt_eq,Nat.ble_eq] at this
 rcases this with h | ⟨⟨h3,h4⟩,h5⟩
 ·rw [x2,y2] at h;simp at h
 ·cases i with
  | none=>simp only at x3;omega
  | some j=>simp only at x3 y3;omega
theorem get_del (n m:Nat):∀ es:Heap,get (del es n) m=if n=m then none else get es m
 | []=>by simp [del,get]
 | (k,x) :: r=>by
  have ih:=get_del n m r
  unfold del at ih ⊢
  by_cases hk:k=n
  ·subst hk
   have:Nat.beq k k=true:=by simp
   rw [List.filter_cons_of_neg (by simp),ih]
   by_cases h:k=m
   ·simp [h]
   ·simp [h,get,nb h]
  ·rw [List.filter_cons_of_pos (by simp [nb hk])]
   simp only [get]
   by_cases h:k=m
   ·subst h
    have h2:Nat.beq k k=true:=by simp
    rw [h2,if_neg (fun e=>hk e.symm)]
   ·rw [nb h];exact ih
theorem tell_set {es:Heap} {n m:Nat} {b:Blk} {i:Option Nat}:tell (set es n b) m i=if n=m then tellB b i else tell es m i:=by
 unfold tell
 rw [get_set]
 split <;> rfl
theorem tell_del {es:Heap} {n m:Nat} {i:Option Nat}:tell (del es n) m i=if n=m then none else tell es m i:=by
 unfold tell
 rw [get_del]
 split <;> rfl
theorem mix_len {old new:List (Option Value)} {lo hi:Nat} (h1:lo≤hi) (h2:hi≤old.length) (h3:new.length=old.length):(mixCells old new lo hi).length=old.length:=by
 simp only [mixCells,List.length_append,List.length_take,List.length_drop]
 omega
theorem mix_at {old new:List (Option Value)} {lo hi:Nat} (h1:lo≤hi) (h2:hi≤old.length) (h3:new.length=old.length) (j:Nat):(mixCells old new lo hi)[j]?=if lo≤j∧j<hi then new[j]? else old[j]?:=by
 have l1:(old.take lo).length=lo:=by simp;omega
 have l2:((new.drop lo).take (hi-lo)).length=hi-lo:=by simp;omega
 unfold mixCells
 by_cases a:j<lo
 ·rw [if_neg (by omega),List.append_assoc,List.getElem?_append_left (by omega),List.getElem?_take,if_pos a]
 ·by_cases b:j<hi
  ·rw [if_pos ⟨by omega,b⟩,List.getElem?_append_left (by simp only [List.length_append];omega),List.getElem?_append_right (by omega),l1,List.getElem?_take,if_pos (by omega),List.getElem?_drop]
   congr 1;omega
  ·rw [if_neg (by omega),List.getElem?_append_right (by simp only [List.length_append];omega),List.length_append,l1,l2,List.getElem?_drop]
   congr 1;omega
theorem mix1_tell {es G:Heap} {x:Rng} {n:Nat} {i:Option Nat} {f:Fact} (h:tell (mix1 es G x) n i=some f):(wrote [x] n i→tell G n i=some f)∧(¬ wrote [x] n i→tell es n i=some f):=by
 have gone:tell (del es x.n) n i=some f→(wrote [x] n i→tell G n i=some f)∧(¬ wrote [x] n i→tell es n i=some f):=fun h=>by
  rw [tell_del] at h
  split at h
  ·cases h
  ·rename_i hn
   exact ⟨fun ⟨y,h1,h2,_⟩=>absurd (by rw [List.mem_singleton.1 h1] at h2;exact h2) hn,fun _=>h⟩
 unfold mix1 at h
 split at h
 ·exact gone h
 ·rename_i b hb
  split at h
  ·rename_i hhi
   rw [tell_set] at h
   split at h
   ·rename_i hn
    refine ⟨fun _=>by simp [tell,← hn,hb,h],fun hw=>(hw ⟨x,by simp,hn,?_⟩).elim⟩
    have:=Nat.le_of_ble_eq_true hhi
    cases i with
    | none=>exact this
    | some j=>exact .inl this
   ·rename_i hn
    exact ⟨fun ⟨y,h1,h2,_⟩=>absurd (by rw [List.mem_singleton.1 h1] at h2;exact h2) hn,fun _=>h⟩
  ·rename_i hhi
   have hlt:¬ HI≤x.hi:=fun e=>by rw [Nat.ble_eq_true_of_le e] at hhi;cases hhi
   split at h
   ·rename_i new e1 m1 r1 old e more ro ho
    split at h
    ·rename_i hc
     simp only [Bool.and_eq_true,Nat.ble_eq,Nat.beq_eq] at hc
     obtain ⟨⟨c1,c2⟩,c3⟩:=hc
     rw [tell_set] at h
     split at h
     ·rename_i hn
      cases i with
      | none =>
       refine ⟨fun ⟨y,h1,_,h2⟩=>absurd (by rw [List.mem_singleton.1 h1] at h2;exact h2) hlt,fun _=>?_⟩
       rw [← h]
       simp only [tell,← hn,ho,Option.bind_some,tellB,shp,Option.some.injEq,Fact.shape.injEq,Blk.cells.injEq,and_true]
       rw [List.map_const',List.map_const',mix_len c1 c2 c3]
      | some j =>
       simp only [tellB,cel,mix_at c1 c2 c3] at h
       refine ⟨fun ⟨y,h1,_,h2⟩=>?_,fun hw=>?_⟩
       ·rw [List.mem_singleton.1 h1] at h2
        have h2:x.lo≤j∧j<x.hi:=h2.resolve_left hlt
        rw [if_pos h2] at h
        simpa [tell,← hn,hb,tellB,cel] using h
       ·have h2:¬ (x.lo≤j∧j<x.hi):=fun e=>hw ⟨x,by simp,hn,.inr e⟩
        rw [if_neg h2] at h
        simpa [tell,← hn,ho,tellB,cel] using h
     ·rename_i hn
      exact ⟨fun ⟨y,h1,h2,_⟩=>absurd (by rw [List.mem_singleton.1 h1] at h2;exact h2) hn,fun _=>h⟩
    ·exact gone h
   ·exact gone h
theorem merge_tell {es G:Heap}:∀ {l:List Rng} {n:Nat} {i:Option Nat} {f:Fact},tell (merge es G l) n i=some f→(wrote l n i∧tell G n i=some f)∨(¬ wrote l n i∧tell es n i=some f)
 | [],n,i,f,h=>.inr ⟨fun ⟨x,hx,_⟩=>by simp at hx,h⟩
 | x :: r,n,i,f,h=>by
  simp only [merge] at h
  obtain ⟨h1,h2⟩:=mix1_tell h
  by_cases hw:wrote [x] n i
  ·obtain ⟨y,e1,e2⟩:=hw
   exact .inl ⟨⟨y,by rw [List.mem_singleton.1 e1];simp,e2⟩,h1 ⟨y,e1,e2⟩⟩
  ·rcases merge_tell (h2 hw) with ⟨⟨y,e1,e2⟩,e3⟩ | ⟨e1,e3⟩
   ·exact .inl ⟨⟨y,List.mem_cons_of_mem _ e1,e2⟩,e3⟩
   ·refine .inr ⟨fun ⟨y,e4,e5⟩=>?_,e3⟩
    rcases List.mem_cons.1 e4 with rfl | e4
    ·exact hw ⟨y,by simp,e5⟩
    ·exact e1 ⟨y,e4,e5⟩
end Ev
namespace Ev
set_option linter.unusedVariables false
set_option linter.unusedSimpArgs false
variable {P:Program}
theorem has_mem {n:Nat}:∀ {l:List Nat},has n l=true→n ∈ l
 | [],h=>by cases h
 | k :: r,h=>by
  simp only [has] at h
  split at h
  ·rename_i hb
   have:=Nat.eq_of_beq_eq_true hb
   subst this
   simp
  ·exact List.mem_cons_of_mem _ (has_mem h)
theorem get_filter {p:Nat→Bool} {n:Nat}:∀ {es:Heap} {b:Blk},get (es.filter fun x=>p x.1) n=some b→p n=true∧get es n=some b
 | [],b,h=>by simp [get] at h
 | (k,x) :: r,b,h=>by
  by_cases hp:p k=true
  ·rw [List.filter_cons_of_pos (by simpa using hp)] at h
   simp only [get] at h ⊢
   split at h
   ·rename_i hb
    have:=Nat.eq_of_beq_eq_true hb
    subst this
    exact ⟨hp,h⟩
   ·rename_i hb
    exact get_filter h
  ·rw [List.filter_cons_of_neg (by simpa using hp)] at h
   obtain ⟨h1,h2⟩:=get_filter h
   refine ⟨h1,?_⟩
   simp only [get]
   have:k≠n:=fun e=>by subst e;exact hp h1
   rw [nb this]
   exact h2
theorem restrict_tell {es:Heap} {F:List Nat} {n:Nat} {i:Option Nat} {f:Fact} (h:tell (restrict es F) n i=some f):looks (F.map fun n=>⟨n,0,HI⟩) n i∧tell es n i=some f:=by
 unfold tell at h
 cases hg:get (restrict es F) n with
 | none=>rw [hg] at h;cases h
 | some b =>
  obtain ⟨h1,h2⟩:=get_filter (p:=fun n=>has n F) hg
  rw [hg] at h
  refine ⟨⟨⟨n,0,HI⟩,List.mem_map.2 ⟨n,has_mem h1,rfl⟩,rfl,?_⟩,by simpa [tell,h2] using h⟩
  cases i with
  | none=>trivial
  | some j=>exact .inl (Nat.le_refl _)
theorem maskOff_len (lo hi:Nat):∀ (k:Nat) (l:List (Option Value)),(maskOff lo hi k l).length=l.length
 | _,[]=>rfl
 | k,x :: r=>by simp [maskOff,maskOff_len lo hi (k+1) r]
theorem maskOff_at {lo hi:Nat} {v:Value}:∀ {k:Nat} {l:List (Option Value)} {j:Nat},((maskOff lo hi k l)[j]?).join=some v→(lo≤k+j∧k+j<hi)∧(l[j]?).join=some v
 | _,[],j,h=>by simp [maskOff] at h
 | k,x :: r,0,h=>by
  simp only [maskOff,List.getElem?_cons_zero,Option.join_some] at h ⊢
  split at h
  ·rename_i hb
   simp only [Bool.and_eq_true,Nat.ble_eq,Nat.blt_eq] at hb
   exact ⟨by omega,h⟩
  ·cases h
 | k,x :: r,j+1,h=>by
  simp only [maskOff,List.getElem?_cons_succ] at h ⊢
  have:=maskOff_at h
  exact ⟨by omega,this.2⟩
theorem glimpse_tell {es:Heap} {m lo hi n:Nat} {i:Option Nat} {f:Fact} (h:tell (glimpse es m lo hi) n i=some f):looks [⟨m,lo,hi⟩] n i∧tell es n i=some f:=by
 unfold glimpse at h
 split at h
 ·rename_i cs e more ro hg
  have h0:=h
  unfold tell at h
  simp only [get] at h
  split at h
  ·rename_i hn
   have:=Nat.eq_of_beq_eq_true hn
   subst this
   cases i with
   | none =>
    refine ⟨⟨⟨m,lo,hi⟩,by simp,rfl,trivial⟩,?_⟩
    rw [← h]
    simp only [tell,hg,Option.bind_some,tellB,shp,Option.some.injEq,Fact.shape.injEq,Blk.cells.injEq,and_true]
    rw [List.map_const',List.map_const',maskOff_len]
   | some j =>
    simp only [Option.bind_some,tellB,cel] at h
    obtain ⟨v,h1,h2⟩:=Option.map_eq_some_iff.1 h
    obtain ⟨h3,h4⟩:=maskOff_at h1
    refine ⟨⟨⟨m,lo,hi⟩,by simp,rfl,.inr (by show lo≤j∧j<hi;omega)⟩,?_⟩
    simp [tell,hg,tellB,cel,h4,h2]
  ·cases h
 ·simp [tell,get] at h
theorem foot_tell {T:Tmps} {es:Heap} {o:Oper} {n:Nat} {i:Option Nat} {f:Fact} (h:tell (foot P T es o).1 n i=some f):looks (foot P T es o).2 n i∧tell es n i=some f:=by
 have no:∀ {q:Prop},tell [] n i=some f→q:=fun h=>by simp [tell,get] at h
 unfold foot at h ⊢
 simp only at h ⊢
 split at h
 ·split at h
  ·exact glimpse_tell h
  ·exact no h
 ·split at h
  ·exact glimpse_tell h
  ·exact no h
 ·split at h
  ·split at h
   ·exact no h
   ·exact restrict_tell h
  ·exact no h
  ·exact restrict_tell h
 all_goals first | exact restrict_tell h | exact no h
end Ev
namespace Ev
set_option linter.unusedVariables false
set_option linter.unusedSimpArgs false
variable {P:Program}
structure Dat where
 T:Tmps
 s:St
 v:Value
 s1:St
 r:Rec
def nxt (D:List Dat) (e:Tmps × St) (i:Nat):Tmps × St:=match D[i]? with
 | some d=>(d.T,d.s)
 | none=>e
section
variable {call:FuncId→List Value→St→Option (Value × St)} {ops:Array Oper}
structure DRow (P:Program) (call:FuncId→List Value→St→Option (Value × St)) (ops:Array Oper) (o:Oper) (d:Dat) (prior:List Rec) (n:Tmps × St):Prop where
 step:step1 P call ops o d.T ⟨(foot P d.T d.s.es o).1,[],d.s.c⟩=some (d.v,d.s1)
 r:d.r=⟨maskOf (prior.map (·.mask)) o,usesOf ops o,o.dst,(foot P d.T d.s.es o).2,d.s1.wr⟩
 back:o.after.toList.all (fun e=>!Region.binds .any e || Nat.blt e.on prior.length)=true
 apart:allApart d.r 0 prior=true
 next:n=(dstSet d.T o.dst d.v,⟨merge d.s.es d.s1.es d.s1.wr,d.s1.wr.foldr mark d.s.wr,d.s1.c⟩)
theorem draw_data:∀ {l:List Oper} {done:List Rec} {T T':Tmps} {s s':St},drawA P call ops l done T s=some (T',s') →
 ∃ D:List Dat,D.length=l.length∧nxt D (T',s') 0=(T,s) ∧ ∀ i o,l[i]?=some o → ∃ d,D[i]?=some d∧DRow P call ops o d (done ++ (D.take i).map (·.r)) (nxt D (T',s') (i+1))
 | [],done,T,T',s,s',h=>by
  simp only [drawA] at h
  cases h
  exact ⟨[],rfl,rfl,fun i o h=>by simp at h⟩
 | o :: rest,done,T,T',s,s',h=>by
  simp only [drawA] at h
  split at h
  ·rename_i v s1 h1
   split at h
   ·rename_i hb
    simp only [Bool.and_eq_true] at hb
    obtain ⟨D,e1,e2,e3⟩:=draw_data h
    refine ⟨⟨T,s,v,s1,⟨maskOf (done.map (·.mask)) o,usesOf ops o,o.dst,(foot P T s.es o).2,s1.wr⟩⟩ :: D,by simp [e1],rfl,fun i q hq=>?_⟩
    cases i with
    | zero =>
     simp only [List.getElem?_cons_zero,Option.some.injEq] at hq
     subst hq
     refine ⟨_,rfl,⟨h1,by simp,by simpa using hb.1,by simpa using hb.2,?_⟩⟩
     show nxt D (T',s') 0=_
     rw [e2]
    | succ i =>
     simp only [List.getElem?_cons_succ] at hq
     obtain ⟨d,f1,f2⟩:=e3 i q hq
     refine ⟨d,by simpa using f1,?_⟩
     rw [List.append_assoc] at f2
     exact f2
   ·cases h
  ·cases h
theorem allApart_at {x:Rec}:∀ {l:List Rec} {j:Nat},allApart x j l=true → ∀ k y,l[k]?=some y→x.mask.testBit (j+k)=true∨apart x y=true
 | [],j,h,k,y,hk=>by simp at hk
 | z :: r,j,h,k,y,hk=>by
  simp only [allApart,Bool.and_eq_true,Bool.or_eq_true] at h
  cases k with
  | zero =>
   simp only [List.getElem?_cons_zero,Option.some.injEq] at hk
   subst hk
   exact h.1
  | succ k =>
   have:=allApart_at h.2 k y (by simpa using hk)
   rwa [show j+1+k=j+(k+1) by omega] at this
theorem maskOf_bit {masks:List Nat} {o:Oper} {j:Nat} (h:(maskOf masks o).testBit j=true):∃ e ∈ o.after.toList,Region.binds .any e=true∧(e.on=j∨(masks.getD e.on 0).testBit j=true):=by
 unfold maskOf at h
 generalize o.after.toList=l at h ⊢
 have key:∀ (l:List _) (m:Nat),(l.foldl (fun m e=>if Region.binds .any e then m ||| 2 ^ e.on ||| masks.getD e.on 0 else m) m).testBit j=true→m.testBit j=true ∨ ∃ e ∈ l,Region.binds .any e=true∧(e.on=j∨(masks.getD e.on 0).testBit j=true):=by
  intro l
  induction l with
  | nil=>intro m h;exact .inl h
  | cons e r ih =>
   intro m h
   rw [List.foldl_cons] at h
   rcases ih _ h with h1 | ⟨q,h1,h2⟩
   ·by_cases hb:Region.binds .any e=true
    ·rw [if_pos hb] at h1
     simp only [Nat.testBit_or,Bool.or_eq_true] at h1
     rcases h1 with (h1 | h1) | h1
     ·exact .inl h1
     ·rw [Nat.testBit_two_pow] at h1
      exact .inr ⟨e,by simp,hb,.inl (by simpa using h1)⟩
     ·exact .inr ⟨e,by simp,hb,.inr h1⟩
    ·rw [if_neg hb] at h1
     exact .inl h1
   ·exact .inr ⟨q,List.mem_cons_of_mem _ h1,h2⟩
 rcases key l 0 h with h1 | h1
 ·simp at h1
 ·exact h1
structure PRow (P:Program) (call:FuncId→List Value→St→Option (Value × St)) (ops:Array Oper) (t:Nat→Tmps) (S:Nat→St) (v:Nat→Value) (s1:Nat→St) (r:Nat→Rec) (i:Nat) (o:Oper):Prop where
 step:step1 P call ops o (t i) ⟨(foot P (t i) (S i).es o).1,[],(S i).c⟩=some (v i,s1 i)
 uses:(r i).uses=usesOf ops o
 dst:(r i).dst=o.dst
 foot:(r i).foot=(foot P (t i) (S i).es o).2
 wr:(r i).wr=(s1 i).wr
 back:∀ e ∈ o.after.toList,Region.binds .any e=true→e.on<i
 mask:∀ j,(r i).mask.testBit j=true → ∃ e ∈ o.after.toList,Region.binds .any e=true∧(e.on=j∨(r e.on).mask.testBit j=true)
 apart:∀ j,j<i→(r i).mask.testBit j=true∨Ev.apart (r i) (r j)=true
 tnext:t (i+1)=dstSet (t i) o.dst (v i)
 snext:S (i+1)=⟨merge (S i).es (s1 i).es (s1 i).wr,(s1 i).wr.foldr mark (S i).wr,(s1 i).c⟩
theorem draw_plan {T T':Tmps} {s s':St} (h:drawA P call ops ops.toList [] T s=some (T',s')) :
 ∃ t S v s1 r,t 0=T∧S 0=s∧t ops.size=T'∧S ops.size=s' ∧ ∀ i o,ops[i]?=some o→PRow P call ops t S v s1 r i o:=by
 obtain ⟨D,e1,e2,e3⟩:=draw_data h
 have hl:D.length=ops.size:=by simpa using e1
 let d0:Dat:=⟨T',s',.tuple #[],s',⟨0,[],none,[],[]⟩⟩
 refine ⟨fun i=>(nxt D (T',s') i).1,fun i=>(nxt D (T',s') i).2,fun i=>(D.getD i d0).v,fun i=>(D.getD i d0).s1,fun i=>(D.getD i d0).r,congrArg Prod.fst e2,congrArg Prod.snd e2,?_,?_,fun i o ho=>?_⟩
 ·simp [nxt,← hl]
 ·simp [nxt,← hl]
 ·obtain ⟨d,f1,f2⟩:=e3 i o (by simpa using ho)
  have hi:i<ops.size:=(Array.getElem?_eq_some_iff.1 ho).1
  have g:D.getD i d0=d:=by simp [List.getD_eq_getElem?_getD,f1]
  have n:nxt D (T',s') i=(d.T,d.s):=by simp [nxt,f1]
  have pl:((D.take i).map (·.r)).length=i:=by simp;omega
  have pr:∀ k,k<i→((D.take i).map (·.r))[k]?=some (D.getD k d0).r:=fun k hk=>by
   rw [List.getElem?_map,List.getElem?_take,if_pos hk,List.getD_eq_getElem?_getD,List.getElem?_eq_getElem (show k<D.length by omega)]
   rfl
  obtain ⟨a1,a2,a3,a4,a5⟩:=f2
  simp only [List.nil_append] at a2 a3 a4
  rw [pl] at a3
  have back:∀ e ∈ o.after.toList,Region.binds .any e=true→e.on<i:=fun e he hb=>by
   have:=List.all_eq_true.1 a3 e he
   simpa [hb] using this
  refine ⟨by simp only [g,n];exact a1,by simp only [g,a2],by simp only [g,a2],by simp only [g,n,a2],by simp only [g,a2],back,fun j hj=>?_,fun j hj=>?_,by simp only [n,g,a5],by simp only [n,g,a5]⟩
  ·simp only [g] at hj
   rw [a2] at hj
   obtain ⟨e,b1,b2,b3⟩:=maskOf_bit hj
   refine ⟨e,b1,b2,b3.imp id (fun b3=>?_)⟩
   rw [List.getD_eq_getElem?_getD,List.getElem?_map,pr e.on (back e b1 b2)] at b3
   exact b3
  ·have:=allApart_at a4 j _ (pr j hj)
   simpa only [g,Nat.zero_add] using this
end
end Ev
namespace Ev
set_option linter.unusedVariables false
set_option linter.unusedSimpArgs false
variable {P:Program}
theorem mem_has {n:Nat}:∀ {l:List Nat},n ∈ l→has n l=true
 | [],h=>by simp at h
 | k :: r,h=>by
  simp only [has]
  split
  ·rfl
  ·rename_i hb
   rcases List.mem_cons.1 h with rfl | h
   ·simp at hb
   ·exact mem_has h
theorem disj_no {d:Option Nat} {l:List Nat} (h:disj d.toList l=true) {n:Nat} (hd:d=some n):n ∉ l:=fun hm=>by
 subst hd
 simp only [disj,Option.toList,List.all_cons,List.all_nil,Bool.and_true,Bool.not_eq_true'] at h
 rw [mem_has hm] at h
 cases h
structure Off (x y:Rec):Prop where
 look:∀ n i,wrote x.wr n i → ¬ looks y.foot n i
 both:∀ n i,wrote x.wr n i → ¬ wrote y.wr n i
 uses:∀ d,x.dst=some d→d ∉ y.uses
 dst:∀ d,x.dst=some d→y.dst≠some d
theorem apart_off {x y:Rec} (h:apart x y=true):Off x y∧Off y x:=by
 simp only [apart,Bool.and_eq_true] at h
 obtain ⟨⟨⟨⟨⟨h1,h2⟩,h3⟩,h4⟩,h5⟩,h6⟩:=h
 have hd:∀ d,x.dst=some d→y.dst≠some d:=fun d e1 e2=>disj_no h3 e1 (by simp [e2])
 exact ⟨⟨fun n i a b=>offs_no h4 a b,fun n i a b=>offs_no h6 a (wrote_looks b),fun d e=>disj_no h1 e,hd⟩,
  ⟨fun n i a b=>offs_no h5 a b,fun n i a b=>offs_no h6 b (wrote_looks a),fun d e=>disj_no h2 e,fun d e1 e2=>hd d e2 e1⟩⟩
section
variable {call:FuncId→List Value→St→Option (Value × St)} {ops:Array Oper} {Q:Exit→Act→World→Prop}
theorem step1_uses (hc:CallOk P call) {T:Tmps} {a:Act} {o:Oper} {s s':St} {v:Value} (h:step1 P call ops o T s=some (v,s')) {ρ:Ren} {M:Mem} {base:Nat} {w0 w:World} (hI:In ρ M s base w0 w)
 (hU:∀ d ∈ usesOf ops o,∀ x,tmpAt T d=some x → ∃ y,a.tmps[d]?=some y∧VR ρ x y) (hG:GR ρ) (hF:∀ n,s.c≤n→n<s'.c→ρ n=none)
 {K:Act→World→Prop} (hK:∀ y w',DoneC ρ M s base w0 s' w' (fun ρ'=>VR ρ' v y)→K (a.put o.dst y) w'):if Region.wanted o (yielded ops a.tmps) then o.wp P a w K Q∨(o.asks P a w∧LetsOut Q) else K (a.put o.dst undef) w:=by
 have hO:Opd ρ T a o.op.operands.toList:=by
  intro x hx v hv
  cases x with
  | tmp d =>
   obtain ⟨y,h1,h2⟩:=hU d (List.mem_append_right _ (List.mem_filterMap.2 ⟨_,hx,rfl⟩)) v hv
   have:a.eval (.tmp d)=y:=by simp [Act.eval,Array.getD_eq_getD_getElem?,h1]
   rw [this];exact h2
  | const c =>
   simp only [Ev.opd] at hv
   split at hv
   ·rename_i hf;cases hv;exact fl_refl ρ hf
   ·cases hv
  | global n =>
   simp only [Ev.opd] at hv
   split at hv
   ·rename_i hb
    cases hv
    obtain ⟨z,hz⟩:=hG n (by simpa using hb)
    exact VR.ptr (k:=(n,z)) 0 none hz
   ·cases hv
  | func f =>
   simp only [Ev.opd] at hv
   cases hv
   exact .func _ rfl (fun i x y h=>by simp at h) rfl (fun i x y h=>by simp at h)
 have hW:∀ b,wantedA ops T o=some b→Region.wanted o (yielded ops a.tmps)=b:=by
  intro b h
  unfold wantedA at h
  unfold Region.wanted
  cases hg:o.guard with
  | none=>rw [hg] at h;cases h;rfl
  | some p =>
   obtain ⟨j,w⟩:=p
   rw [hg] at h
   simp only at h ⊢
   unfold yielded
   cases hj:ops[j]? with
   | none=>rw [hj] at h;cases h;rfl
   | some q =>
    rw [hj] at h
    simp only at h
    cases hd:q.dst with
    | none=>rw [hd] at h;cases h;simp [hd]
    | some d =>
     rw [hd] at h
     simp only at h
     have hm:d ∈ usesOf ops o:=List.mem_append_left _ (by simp [hg,hj,hd])
     split at h
     ·rename_i c hc
      obtain ⟨y,h1,h2⟩:=hU d hm _ hc
      cases h2
      cases h
      simp [hd,h1]
     ·rename_i vs hc
      obtain ⟨y,h1,h2⟩:=hU d hm _ hc
      cases h2
      cases h
      simp [hd,h1]
     ·cases h
 unfold step1 at h
 split at h
 ·rename_i hw
  rw [if_pos (hW _ hw)]
  exact .inl (opB_wp hc h hI hO hG hF hK)
 ·rename_i hw
  have:=hW _ hw
  rw [if_neg (by rw [this];simp)]
  cases h
  exact hK undef w ⟨Nat.le_refl _,cov.refl _,Done.stay hI (Same.refl w) (.tuple rfl (fun i x y h=>by simp at h))⟩
 ·cases h
variable {t:Nat→Tmps} {S:Nat→St} {v:Nat→Value} {s1:Nat→St} {r:Nat→Rec}
def Plan (P:Program) (call:FuncId→List Value→St→Option (Value × St)) (ops:Array Oper) (t:Nat→Tmps) (S:Nat→St) (v:Nat→Value) (s1:Nat→St) (r:Nat→Rec):Prop:=∀ i o,ops[i]?=some o→PRow P call ops t S v s1 r i o
theorem Plan.row (p:Plan P call ops t S v s1 r) {i:Nat} (h:i<ops.size):PRow P call ops t S v s1 r i ops[i]:=p i _ (Array.getElem?_eq_getElem h)
theorem Plan.c_le (p:Plan P call ops t S v s1 r) {i:Nat}:∀ {j:Nat},i≤j→j≤ops.size→(S i).c≤(S j).c
 | 0,h,_=>by
  obtain rfl:i=0:=by omega
  exact Nat.le_refl _
 | j+1,h,hj=>by
  by_cases e:i=j+1
  ·rw [e];exact Nat.le_refl _
  ·have q:=p.row (i:=j) (by omega)
   have m:=step1_mono q.step
   have:=p.c_le (i:=i) (j:=j) (by omega) (by omega)
   rw [q.snext]
   exact Nat.le_trans this m
theorem Plan.wr_le (p:Plan P call ops t S v s1 r) {i:Nat}:∀ {j:Nat},i≤j→j≤ops.size→cov (S i).wr (S j).wr
 | 0,h,_=>by
  obtain rfl:i=0:=by omega
  exact cov.refl _
 | j+1,h,hj=>by
  by_cases e:i=j+1
  ·rw [e];exact cov.refl _
  ·have q:=p.row (i:=j) (by omega)
   have:=p.wr_le (i:=i) (j:=j) (by omega) (by omega)
   rw [q.snext]
   exact this.trans (foldr_cov _ _).1
theorem Plan.wr_in (p:Plan P call ops t S v s1 r) {i:Nat} (h:i<ops.size):cov (s1 i).wr (S ops.size).wr:=by
 have q:=p.row h
 have:=p.wr_le (i:=i+1) (j:=ops.size) (by omega) (Nat.le_refl _)
 rw [q.snext] at this
 exact (foldr_cov _ _).2.trans this
theorem dstSet_len (T:Tmps) (d:Option Nat) (v:Value):(dstSet T d v).length=T.length:=by
 cases d with
 | none=>rfl
 | some d=>exact tmpSet_len T d v
theorem Plan.len (p:Plan P call ops t S v s1 r):∀ {j:Nat},j≤ops.size→(t j).length=(t 0).length
 | 0,_=>rfl
 | j+1,hj=>by rw [(p.row (i:=j) (by omega)).tnext,dstSet_len,p.len (by omega)]
theorem Plan.origin (p:Plan P call ops t S v s1 r) {n:Nat} {k:Option Nat} {f:Fact}:∀ {i:Nat},i≤ops.size→tell (S i).es n k=some f →
 (∃ j,j<i∧wrote (s1 j).wr n k∧(∀ q,j<q→q<i → ¬ wrote (s1 q).wr n k)∧tell (s1 j).es n k=some f)∨((∀ q,q<i → ¬ wrote (s1 q).wr n k)∧tell (S 0).es n k=some f)
 | 0,_,h=>.inr ⟨fun q hq=>by omega,h⟩
 | i+1,hi,h=>by
  rw [(p.row (i:=i) (by omega)).snext] at h
  rcases merge_tell h with ⟨h1,h2⟩ | ⟨h1,h2⟩
  ·exact .inl ⟨i,by omega,h1,fun q _ _=>by omega,h2⟩
  ·rcases p.origin (by omega) h2 with ⟨j,e1,e2,e3,e4⟩ | ⟨e1,e2⟩
   ·exact .inl ⟨j,by omega,e2,fun q a b=>by
     by_cases hq:q=i
     ·rw [hq];exact h1
     ·exact e3 q a (by omega),e4⟩
   ·exact .inr ⟨fun q b=>by
     by_cases hq:q=i
     ·rw [hq];exact h1
     ·exact e1 q (by omega),e2⟩
theorem Plan.torigin (p:Plan P call ops t S v s1 r) {d:Nat} {x:Value}:∀ {i:Nat},i≤ops.size→tmpAt (t i) d=some x →
 (∃ j,j<i∧(r j).dst=some d∧(∀ q,j<q→q<i→(r q).dst≠some d)∧x=v j∧d<(t 0).length)∨((∀ q,q<i→(r q).dst≠some d)∧tmpAt (t 0) d=some x)
 | 0,_,h=>.inr ⟨fun q hq=>by omega,h⟩
 | i+1,hi,h=>by
  have q:=p.row (i:=i) (by omega)
  rw [q.tnext] at h
  have old:(r i).dst≠some d→tmpAt (t i) d=some x→(∃ j,j<i+1∧(r j).dst=some d∧(∀ q,j<q→q<i+1→(r q).dst≠some d)∧x=v j∧d<(t 0).length)∨((∀ q,q<i+1→(r q).dst≠some d)∧tmpAt (t 0) d=some x):=fun h1 h2=>by
   rcases p.torigin (by omega) h2 with ⟨j,e1,e2,e3,e4⟩ | ⟨e1,e2⟩
   ·exact .inl ⟨j,by omega,e2,fun q a b=>by
     by_cases hq:q=i
     ·rw [hq];exact h1
     ·exact e3 q a (by omega),e4⟩
   ·exact .inr ⟨fun q b=>by
     by_cases hq:q=i
     ·rw [hq];exact h1
     ·exact e1 q (by omega),e2⟩
  cases hd:(ops[i]'(by omega)).dst with
  | none =>
   rw [hd] at h
   exact old (by rw [q.dst,hd];simp) h
  | some e =>
   rw [hd] at h
   rcases tmpAt_set _ e d (v i) x h with ⟨rfl,h2,h3⟩ | ⟨h2,h3⟩
   ·exact .inl ⟨i,by omega,by rw [q.dst,hd],fun q _ _=>by omega,h2,by rw [← p.len (j:=i) (by omega)];exact h3⟩
   ·exact old (by rw [q.dst,hd];intro e;cases e;exact h2 rfl) h3
end
end Ev
namespace Ev
set_option linter.unusedVariables false
set_option linter.unusedSimpArgs false
variable {P:Program}
variable {D:List Deferred}
section
variable {call:FuncId→List Value→St→Option (Value × St)} {ops:Array Oper} {Q:Exit→Act→World→Prop}
variable {t:Nat→Tmps} {S:Nat→St} {v:Nat→Value} {s1:Nat→St} {r:Nat→Rec}
structure Half (D:List Deferred) (ops:Array Oper) (t:Nat→Tmps) (S:Nat→St) (v:Nat→Value) (s1:Nat→St) (r:Nat→Rec) (base:Nat) (w0:World) (ρ0:Ren) (M0:Mem) (lst:Array Bool) (ρ:Ren) (M:Mem) (a:Act) (w:World):Prop where
 size:lst.size=ops.size
 closed:∀ i,lst.getD i false=true → ∀ j,(r i).mask.testBit j=true→lst.getD j false=true
 hr:HR ρ M base w
 bel:Below base w0 w
 grow:ρ0.le ρ
 names:∀ m,ρ m=ρ0 m ∨ ∃ j,lst.getD j false=true∧(S j).c≤m∧m<(S (j+1)).c
 agr:agree (S ops.size).wr M0 M
 mem1:∀ j,lst.getD j false=true → ∀ n k f,wrote (s1 j).wr n k→(∀ q,lst.getD q false=true→j<q → ¬ wrote (s1 q).wr n k)→tell (s1 j).es n k=some f→tellM M n k=some f
 mem0:∀ n k f,(∀ q,lst.getD q false=true → ¬ wrote (s1 q).wr n k)→tell (S 0).es n k=some f→tellM M n k=some f
 defers:a.defers=D
 tlen:(t 0).length≤a.tmps.size
 tmp1:∀ j,lst.getD j false=true → ∀ d,(r j).dst=some d→d<(t 0).length→(∀ q,lst.getD q false=true→j<q→(r q).dst≠some d) → ∃ y,a.tmps[d]?=some y∧VR ρ (v j) y
 tmp0:∀ d x,(∀ q,lst.getD q false=true→(r q).dst≠some d)→tmpAt (t 0) d=some x → ∃ y,a.tmps[d]?=some y∧VR ρ x y
theorem listed_lt {lst:Array Bool} {j:Nat} (h:lst.getD j false=true):j<lst.size:=by
 rcases Nat.lt_or_ge j lst.size with h' | h'
 ·exact h'
 ·simp [Array.getElem?_eq_none h'] at h
theorem listed_set {lst:Array Bool} {i j:Nat} (h:(lst.setIfInBounds i true).getD j false=true):j=i∨lst.getD j false=true:=by
 by_cases e:i=j
 ·exact .inl e.symm
 ·rw [getD_set_ne false e] at h
  exact .inr h
theorem put_other {a:Act} {o:Option Tmp} {d:Nat} {y:Value} (h:o≠some d):(a.put o y).tmps[d]?=a.tmps[d]?:=by
 cases o with
 | none=>rfl
 | some e =>
  show (a.tmps.setIfInBounds e y)[d]?=_
  rw [Array.getElem?_setIfInBounds_ne (fun e2=>h (by rw [e2]))]
theorem put_size {a:Act} {o:Option Tmp} {y:Value}:(a.put o y).tmps.size=a.tmps.size:=by
 cases o with
 | none=>rfl
 | some e=>show (a.tmps.setIfInBounds e y).size=_;simp
theorem Half.step (p:Plan P call ops t S v s1 r) (hc:CallOk P call) {base:Nat} {w0:World} {ρ0:Ren} {M0:Mem} (hG:GR ρ0) (hF:∀ n,(S 0).c≤n→n<(S ops.size).c→ρ0 n=none) {lst:Array Bool} {ρ:Ren} {M:Mem} {a:Act} {w:World}
 (h:Half D ops t S v s1 r base w0 ρ0 M0 lst ρ M a w) {i:Nat} (hi:i ∈ Region.ready .any ops lst) {K:Act→World→Prop}
 (hK:∀ ρ' M' a' w',Half D ops t S v s1 r base w0 ρ0 M0 (lst.setIfInBounds i true) ρ' M' a' w'→K a' w'):wpOp P ops Q i K a w:=by
 obtain ⟨h0,o,ho,hall⟩:=mem_ready.1 hi
 have hlt:i<ops.size:=(Array.getElem?_eq_some_iff.1 ho).1
 have hn:¬ lst.getD i false=true:=by
  have:i<lst.size:=by rw [h.size];exact hlt
  simp only [Array.getD_eq_getD_getElem?,Array.getElem?_eq_getElem this,Option.getD_some] at h0 ⊢
  rw [h0];simp
 have q:=p i o ho
 have mi:∀ j,(r i).mask.testBit j=true→lst.getD j false=true:=fun j hj=>by
  obtain ⟨e,e1,e2,e3⟩:=q.mask j hj
  have:=hall e (Array.mem_toList_iff.1 e1) e2
  rcases e3 with rfl | e3
  ·exact this
  ·exact h.closed _ this j e3
 have late:∀ j,lst.getD j false=true→i<j→Off (r j) (r i)∧Off (r i) (r j):=fun j hj hij=>by
  have hjs:j<ops.size:=by rw [← h.size];exact listed_lt hj
  rcases (p.row hjs).apart i hij with e | e
  ·exact (hn (h.closed j hj i e)).elim
  ·exact apart_off e
 have early:∀ j,¬ lst.getD j false=true→j<i→Off (r i) (r j)∧Off (r j) (r i):=fun j hj hij=>by
  rcases q.apart j hij with e | e
  ·exact (hj (mi j e)).elim
  ·exact apart_off e
 have wrj:∀ j,j<ops.size→(r j).wr=(s1 j).wr:=fun j hj=>(p.row hj).wr
 have sub:Sub (foot P (t i) (S i).es o).1 M:=sub_iff.2 fun n k f hf=>by
  obtain ⟨f1,f2⟩:=foot_tell hf
  have lk:looks (r i).foot n k:=by rw [q.foot];exact f1
  rcases p.origin (Nat.le_of_lt hlt) f2 with ⟨j,e1,e2,e3,e4⟩ | ⟨e1,e2⟩
  ·have hj:lst.getD j false=true:=by
    apply Classical.byContradiction
    intro hj
    exact (early j hj e1).2.look n k (by rw [wrj j (by omega)];exact e2) lk
   refine h.mem1 j hj n k f e2 (fun z hz hjz hw=>?_) e4
   rcases Nat.lt_trichotomy z i with g | g | g
   ·exact e3 z hjz g hw
   ·exact hn (g ▸ hz)
   ·exact (late z hz g).1.look n k (by rw [wrj z (by rw [← h.size];exact listed_lt hz)];exact hw) lk
  ·refine h.mem0 n k f (fun z hz hw=>?_) e2
   rcases Nat.lt_trichotomy z i with g | g | g
   ·exact e1 z g hw
   ·exact hn (g ▸ hz)
   ·exact (late z hz g).1.look n k (by rw [wrj z (by rw [← h.size];exact listed_lt hz)];exact hw) lk
 have hU:∀ d ∈ usesOf ops o,∀ x,tmpAt (t i) d=some x → ∃ y,a.tmps[d]?=some y∧VR ρ x y:=fun d hd x hx=>by
  rw [← q.uses] at hd
  rcases p.torigin (Nat.le_of_lt hlt) hx with ⟨j,e1,e2,e3,e4,e5⟩ | ⟨e1,e2⟩
  ·have hj:lst.getD j false=true:=by
    apply Classical.byContradiction
    intro hj
    exact (early j hj e1).2.uses d e2 hd
   rw [e4]
   refine h.tmp1 j hj d e2 e5 (fun z hz hjz hw=>?_)
   rcases Nat.lt_trichotomy z i with g | g | g
   ·exact e3 z hjz g hw
   ·exact hn (g ▸ hz)
   ·exact (late z hz g).1.uses d hw hd
  ·refine h.tmp0 d x (fun z hz hw=>?_) e2
   rcases Nat.lt_trichotomy z i with g | g | g
   ·exact e1 z g hw
   ·exact hn (g ▸ hz)
   ·exact (late z hz g).1.uses d hw hd
 have hnc:(S (i+1)).c=(s1 i).c:=by rw [q.snext]
 have free:∀ m,(S i).c≤m→m<(s1 i).c→ρ m=none:=fun m h1 h2=>by
  rcases h.names m with e | ⟨j,e1,e2,e3⟩
  ·rw [e]
   have a1:=p.c_le (i:=0) (j:=i) (by omega) (by omega)
   have a2:=p.c_le (i:=i+1) (j:=ops.size) (by omega) (Nat.le_refl _)
   exact hF m (by omega) (by omega)
  ·have hjs:j<ops.size:=by rw [← h.size];exact listed_lt e1
   rcases Nat.lt_trichotomy j i with g | g | g
   ·have:=p.c_le (i:=j+1) (j:=i) (by omega) (by omega)
    omega
   ·exact (hn (g ▸ e1)).elim
   ·have:=p.c_le (i:=i+1) (j:=j) (by omega) (by omega)
    omega
 unfold wpOp
 rw [ho]
 refine step1_uses hc q.step (base:=base) (w0:=w0) (w:=w) (M:=M) ⟨sub,h.hr,h.bel⟩ hU (hG.mono h.grow) free (fun y w' hd=>?_)
 obtain ⟨_,_,ρ',M',a1,a2,a3,a4,a5⟩:=hd
 have same:∀ {n k},¬ wrote (s1 i).wr n k→tellM M' n k=tellM M n k:=fun hw=>(agree_tell a4 hw).symm
 have me:(lst.setIfInBounds i true).getD i false=true:=by
  have:i<lst.size:=by rw [h.size];exact hlt
  simp [this]
 refine hK ρ' M' _ w' ⟨by simpa using h.size,fun j hj k hk=>?_,a3.hr,a3.bel,Ren.le_trans h.grow a1,fun m=>?_,h.agr.trans (a4.mono (p.wr_in hlt)),fun j hj n k f hw hl hf=>?_,fun n k f hw hf=>?_,?_,?_,fun j hj d hd hdl hl=>?_,fun d x hl hx=>?_⟩
 ·rcases listed_set hj with rfl | hj
  ·exact getD_set_true (mi k hk)
  ·exact getD_set_true (h.closed j hj k hk)
 ·rcases a2 m with e | e
  ·rcases h.names m with e2 | ⟨j,e2,e3⟩
   ·exact .inl (e.trans e2)
   ·exact .inr ⟨j,getD_set_true e2,e3⟩
  ·exact .inr ⟨i,me,e.1,by rw [hnc];exact e.2⟩
 ·rcases listed_set hj with rfl | hj
  ·exact sub_iff.1 a3.sub n k f hf
  ·have hjs:j<ops.size:=by rw [← h.size];exact listed_lt hj
   have ne:¬ wrote (s1 i).wr n k:=fun hi2=>by
    rcases Nat.lt_trichotomy j i with g | g | g
    ·exact hl i me g hi2
    ·exact hn (g ▸ hj)
    ·exact (late j hj g).1.both n k (by rw [wrj j hjs];exact hw) (by rw [wrj i hlt];exact hi2)
   rw [same ne]
   exact h.mem1 j hj n k f hw (fun z hz hjz=>hl z (getD_set_true hz) hjz) hf
 ·rw [same (hw i me)]
  exact h.mem0 n k f (fun z hz=>hw z (getD_set_true hz)) hf
 ·show (a.put o.dst y).defers=D
  cases o.dst <;> exact h.defers
 ·rw [put_size];exact h.tlen
 ·rcases listed_set hj with rfl | hj
  ·rw [q.dst] at hd
   refine ⟨y,?_,a5⟩
   rw [hd]
   show (a.tmps.setIfInBounds d y)[d]?=some y
   rw [Array.getElem?_setIfInBounds,if_pos rfl,if_pos (by have:=h.tlen;omega)]
  ·have ne:o.dst≠some d:=fun e=>by
    rcases Nat.lt_trichotomy j i with g | g | g
    ·exact hl i me g (by rw [q.dst];exact e)
    ·exact hn (g ▸ hj)
    ·exact (late j hj g).1.dst d hd (by rw [q.dst];exact e)
   rw [put_other ne]
   obtain ⟨y2,b1,b2⟩:=h.tmp1 j hj d hd hdl (fun z hz hjz=>hl z (getD_set_true hz) hjz)
   exact ⟨y2,b1,b2.mono a1⟩
 ·rw [put_other (by rw [← q.dst];exact hl i me)]
  obtain ⟨y2,b1,b2⟩:=h.tmp0 d x (fun z hz=>hl z (getD_set_true hz)) hx
  exact ⟨y2,b1,b2.mono a1⟩
theorem Half.done (p:Plan P call ops t S v s1 r) {base:Nat} {w0:World} {ρ0:Ren} {M0:Mem} {lst:Array Bool} {ρ:Ren} {M:Mem} {a:Act} {w:World}
 (h:Half D ops t S v s1 r base w0 ρ0 M0 lst ρ M a w) (all:∀ j,j<ops.size→lst.getD j false=true):DoneC ρ0 M0 (S 0) base w0 (S ops.size) w (fun ρ'=>TR D ρ' (t ops.size) a):=by
 have lt:∀ j,lst.getD j false=true→j<ops.size:=fun j hj=>by rw [← h.size];exact listed_lt hj
 refine ⟨p.c_le (Nat.zero_le _) (Nat.le_refl _),p.wr_le (Nat.zero_le _) (Nat.le_refl _),ρ,M,h.grow,fun m=>?_,⟨sub_iff.2 fun n k f hf=>?_,h.hr,h.bel⟩,h.agr,⟨h.defers,by rw [p.len (Nat.le_refl _)];exact h.tlen,fun d x hx=>?_⟩⟩
 ·rcases h.names m with e | ⟨j,e1,e2,e3⟩
  ·exact .inl e
  ·have:=lt j e1
   have a1:=p.c_le (i:=0) (j:=j) (by omega) (by omega)
   have a2:=p.c_le (i:=j+1) (j:=ops.size) (by omega) (Nat.le_refl _)
   exact .inr ⟨by omega,by omega⟩
 ·rcases p.origin (Nat.le_refl _) hf with ⟨j,e1,e2,e3,e4⟩ | ⟨e1,e2⟩
  ·exact h.mem1 j (all j e1) n k f e2 (fun z hz hjz=>e3 z hjz (lt z hz)) e4
  ·exact h.mem0 n k f (fun z hz=>e1 z (lt z hz)) e2
 ·rcases p.torigin (Nat.le_refl _) hx with ⟨j,e1,e2,e3,e4,e5⟩ | ⟨e1,e2⟩
  ·rw [e4]
   exact h.tmp1 j (all j e1) d e2 e5 (fun z hz hjz=>e3 z hjz (lt z hz))
  ·exact h.tmp0 d x (fun z hz=>e1 z (lt z hz)) e2
theorem ready_nil (p:Plan P call ops t S v s1 r) {lst:Array Bool} (hs:lst.size=ops.size) (h:Region.ready .any ops lst=[]):∀ j,j<ops.size→lst.getD j false=true:=by
 intro j
 induction j using Nat.strongRecOn with
 | _ j ih =>
  intro hj
  apply Classical.byContradiction
  intro hn
  have:j ∈ Region.ready .any ops lst:=mem_ready.2 ⟨by
   have hl:j<lst.size:=by rw [hs];exact hj
   simp only [Array.getD_eq_getD_getElem?,Array.getElem?_eq_getElem hl,Option.getD_some] at hn ⊢
   simpa using hn,ops[j],Array.getElem?_eq_getElem hj,fun e he hb=>by
   have:=(p.row hj).back e (Array.mem_toList_iff.2 he) hb
   exact ih e.on this (by omega)⟩
  rw [h] at this
  simp at this
theorem Half.wpAny (p:Plan P call ops t S v s1 r) (hc:CallOk P call) {base:Nat} {w0:World} {ρ0:Ren} {M0:Mem} (hG:GR ρ0) (hF:∀ n,(S 0).c≤n→n<(S ops.size).c→ρ0 n=none)
 (hQ:∀ a w,DoneC ρ0 M0 (S 0) base w0 (S ops.size) w (fun ρ'=>TR D ρ' (t ops.size) a)→Q .normal a w):∀ (fuel:Nat) {lst:Array Bool} {ρ:Ren} {M:Mem} {a:Act} {w:World},lst.toList.count false≤fuel →
 Half D ops t S v s1 r base w0 ρ0 M0 lst ρ M a w→wpAny P .any ops Q fuel lst a w
 | 0,lst,ρ,M,a,w,hf,h=>by
  have all:∀ j,j<ops.size→lst.getD j false=true:=fun j hj=>by
   have hl:j<lst.size:=by rw [h.size];exact hj
   have h0:lst.toList.count false=0:=by omega
   have h1:=List.count_eq_zero.1 h0
   simp only [Array.getD_eq_getD_getElem?,Array.getElem?_eq_getElem hl,Option.getD_some]
   cases hb:lst[j] with
   | true=>rfl
   | false=>exact absurd (by rw [← hb];simp) h1
  refine ⟨?_,hQ a w (h.done p all)⟩
  apply List.eq_nil_iff_forall_not_mem.2
  intro j hj
  obtain ⟨h0,o,ho,_⟩:=mem_ready.1 hj
  have hl:j<ops.size:=(Array.getElem?_eq_some_iff.1 ho).1
  have:=all j hl
  have hl:j<lst.size:=by rw [h.size];exact hl
  simp only [Array.getD_eq_getD_getElem?,Array.getElem?_eq_getElem hl,Option.getD_some] at h0 this
  rw [h0] at this
  cases this
 | fuel+1,lst,ρ,M,a,w,hf,h=>by
  refine ⟨fun hr=>hQ a w (h.done p (ready_nil p h.size hr)),fun i hi=>?_⟩
  obtain ⟨h0,o,ho,_⟩:=mem_ready.1 hi
  have hl:i<lst.size:=by rw [h.size];exact (Array.getElem?_eq_some_iff.1 ho).1
  have hb:lst[i]=false:=by simpa only [Array.getD_eq_getD_getElem?,Array.getElem?_eq_getElem hl,Option.getD_some] using h0
  refine h.step p hc hG hF hi (fun ρ' M' a' w' h'=>Half.wpAny p hc hG hF hQ fuel ?_ h')
  have:(lst.setIfInBounds i true).toList.count false+1=lst.toList.count false:=by
   rw [Array.toList_setIfInBounds]
   have hl2:i<lst.toList.length:=by simpa using hl
   have hb2:lst.toList[i]=false:=by simpa using hb
   rw [List.count_set hl2,hb2]
   have:0<lst.toList.count false:=List.count_pos_iff.2 (by rw [← hb2];exact List.getElem_mem hl2)
   have e1:(false == false)=true:=rfl
   have e2:(true == false)=false:=rfl
   rw [e1,e2]
   simp only [if_true,Bool.false_eq_true,if_false]
   omega
  omega
end
theorem draw_ok (hm:P.follows .mixedOrders=true) {call:FuncId→List Value→St→Option (Value × St)} (hc:CallOk P call):DrawOk P call:=by
 intro id ops T T' s s' h D ρ M base w0 w a Q hI hT hG hF hQ
 obtain ⟨t,S,v,s1,r,e1,e2,e3,e4,p⟩:=draw_plan h
 have p:Plan P call ops t S v s1 r:=p
 subst e1 e2 e3 e4
 refine wp_region_any hm (Half.wpAny p hc hG hF hQ ops.size (ρ:=ρ) (M:=M) (by simp) ?_)
 have hI2:In ρ M (S 0) base w0 { w with drawn:=w.drawn+1 }:=hI.same ⟨rfl,rfl,rfl,rfl⟩
 have no:∀ j,¬ (Array.replicate ops.size false).getD j false=true:=fun j hj=>by
  have:=listed_lt hj
  simp only [Array.size_replicate] at this
  simp [this] at hj
 exact ⟨by simp,fun i hi=>(no i hi).elim,hI2.hr,hI2.bel,ρ.le_refl,fun m=>.inl rfl,agree.refl _ _,fun j hj=>(no j hj).elim,fun n k f _ hf=>sub_iff.1 hI2.sub n k f hf,hT.defers,hT.len,fun j hj=>(no j hj).elim,fun d x _ hx=>hT.at_ d x hx⟩
theorem calls_ok (hm:P.follows .mixedOrders=true) {sp:FuncId→List Value→St→Option (Value × St)} (hs:CallOk P sp) (f:Nat):CallOk P (evF P sp f):=evF_calls hs (fun _ hc=>draw_ok hm hc) f
end Ev
namespace Ev
set_option linter.unusedVariables false
set_option linter.unusedSimpArgs false
variable {P:Program}
def own (w:World):Ren:=fun n=>if n<1000 then some (n,match w.heap[n]? with | some o=>cellsIn o | none=>0) else none
def Tab (tab:Heap) (w:World):Prop:=∀ n b,get tab n=some b→n<1000∧isRo b=true ∧ ∃ o,w.heap[n]?=some o ∧ ∀ ρ,BR ρ b o
theorem own_in {tab:Heap} {w:World} (h:Tab tab w):In (own w) (get tab) ⟨tab,[],1000⟩ w.heap.size w w:=by
 refine ⟨fun n b hb=>⟨b,hb,Le.refl b⟩,⟨fun n b hb hd=>?_,fun n m b d k j h1 h2 h3 h4 h5 h6 h7=>?_,Nat.le_refl _⟩,Below.refl _ _⟩
 ·obtain ⟨h1,h2,o,h3,h4⟩:=h n b hb
  exact ⟨(n,cellsIn o),o,by simp [own,h1,h3],h3,h4 _,(fun e=>by rw [h2] at e;cases e),rfl⟩
 ·obtain ⟨e1,_⟩:=h n b h1
  obtain ⟨e2,_⟩:=h m d h3
  simp only [own,if_pos e1,if_pos e2,Option.some.injEq] at h5 h6
  rw [← h5,← h6] at h7
  exact h7
def isTrue:Option (Value × St)→Bool
 | some (.bool true,_)=>true
 | _=>false
theorem awake (hm:P.follows .mixedOrders=true) {sp:FuncId→List Value→St→Option (Value × St)} (hs:CallOk P sp) (f:Nat) {g:FuncId} {tab:Heap} (h:isTrue (evF P sp f g [] ⟨tab,[],1000⟩)=true) {w:World} (ht:Tab tab w) :
 Calls P g #[] w fun e w'=>e = .returned (.bool true)∧Below w.heap.size w w':=by
 unfold isTrue at h
 split at h
 ·rename_i s' he
  refine (calls_ok hm hs f g [] _ _ s' he (own w) _ w.heap.size w w #[] (own_in ht) (fun n hn=>⟨match w.heap[n]? with | some o=>cellsIn o | none=>0,by simp only [own,if_pos hn]⟩) (fun n h1 h2=>?_) (VRl.nil _)).mono ?_
  ·have:¬ n<1000:=by simp only at h1;omega
   simp only [own,if_neg this]
  ·rintro e w' ⟨y,rfl,_,_,ρ',M',_,_,hI,_,hy⟩
   cases hy
   exact ⟨rfl,hI.bel⟩
 ·cases h
end Ev
end Go.Proofs.YtjgmbjfijpmhdaaGreatDoor
namespace Go.Proofs.YtjgmbjfijpmhdaaGreatDoor
open Go Go.RowKit Go.Lib Ev
set_option linter.unusedVariables false
def tab:Heap:=[(0,.cells (lens.map fun z=>some (.int .i64 z)) 0 false true),(6,.cells (Lib.pow10Tab.map fun z=>some (.int .u64 z)) 0 false true)]
theorem row_br {l:List Int} {k:IntKind} {c:Array Value} {e:TypeId} {fz:Nat × Nat} (h:c=(l.map fun z=>Value.int k z).toArray) (ρ:Ren):BR ρ (.cells (l.map fun z=>some (.int k z)) 0 false true) (.cells c e fz):=by
 subst h
 refine ⟨fun e=>(by cases e),by simp,fun _=>by simp,fun e=>(by cases e),fun i v hv=>?_⟩
 rw [List.getElem?_map] at hv
 cases hi:l[i]? with
 | none=>rw [hi] at hv;cases hv
 | some z =>
  rw [hi] at hv
  cases hv
  exact ⟨.int k z,by simp [hi],.int _ _⟩
theorem var_row {w:World} {name:String} {k:IntKind} {zs:List Int} {g:Nat} (hg:Tryz.prog.globalNamed name=some g) (h:Lib.TabIs Tryz.prog w name k zs):∃ o,w.heap[g]?=some o ∧ ∀ ρ,BR ρ (.cells (zs.map fun z=>some (.int k z)) 0 false true) o:=by
 unfold Lib.TabIs World.var? at h
 rw [hg] at h
 simp only [Option.bind_some] at h
 split at h
 ·rename_i cs e fz ho
  exact ⟨_,ho,row_br (Option.some.inj h)⟩
 ·cases h
theorem tab_ok {w:World} (h:InI w):Tab tab w:=by
 intro n b hb
 unfold tab at hb
 simp only [Ev.get] at hb
 split at hb
 ·rename_i hn
  have:=Nat.eq_of_beq_eq_true hn
  subst this
  cases hb
  exact ⟨by decide,rfl,var_row (by kernel_rfl) h.2.2⟩
 ·split at hb
  ·rename_i hn
   have:=Nat.eq_of_beq_eq_true hn
   subst this
   cases hb
   exact ⟨by decide,rfl,var_row (by kernel_rfl) h.1⟩
  ·cases hb
theorem mixed:Tryz.prog.follows .mixedOrders=true:=by kernel_rfl
end Go.Proofs.YtjgmbjfijpmhdaaGreatDoor
namespace Go.Proofs.YtjgmbjfijpmhdaaGreatDoor
open Go Go.RowKit
namespace Ev
set_option linter.unusedVariables false
set_option linter.unusedSimpArgs false
variable {P:Program}
structure Dc where
 g:FuncId
 args:List Value
 cap:List Value
def seqD (P:Program) (call:FuncId→List Value→St→Option (Value × St)) (ops:Array Oper):List Oper→Tmps→St→List Dc→Option (Tmps × St × List Dc)
 | [],T,s,D=>some (T,s,D)
 | o :: r,T,s,D=>match o.op,o.guard with
  | .defer c,none=>match c.callee with
   | .value f=>match Ev.opd T f,opds T c.args.toList with
    | some (.func (.func g) a b),some vs=>match entersB P g with
     | true=>seqD P call ops r (dstSet T o.dst (.tuple #[])) s (⟨g,a.toList ++ vs,b.toList⟩ :: D)
     | false=>none
    | _,_=>none
   | _=>none
  | _,_=>match step1 P call ops o T s with
   | some (v,s')=>seqD P call ops r (dstSet T o.dst v) s' D
   | none=>none
def evD (P:Program) (sp:FuncId→List Value→St→Option (Value × St)):Nat→Code→Tmps→St→List Dc→Option (Ex × Tmps × St × List Dc)
 | 0,_,_,_,_=>none
 | f+1,c,T,s,D=>match evC P sp f c T s with
  | some (x,T',s')=>some (x,T',s',D)
  | none=>match c with
   | .seq a b=>match evD P sp f a T s D with
    | some (.normal,T',s',D')=>evD P sp f b T' s' D'
    | e=>e
   | .region _ ops false=>(seqD P (callOf P sp f) ops ops.toList T s D).map fun (T',s',D')=>(.normal,T',s',D')
   | _=>none
def seqR (P:Program) (call:FuncId→List Value→St→Option (Value × St)) (ops:Array Oper):List Oper→Tmps→St→Option (Tmps × St)
 | [],T,s=>some (T,s)
 | o :: r,T,s=>match o.op,o.guard with
  | .call { callee:=.builtin .recover,.. },none=>seqR P call ops r (dstSet T o.dst .nilIface) s
  | _,_=>match step1 P call ops o T s with
   | some (v,s')=>seqR P call ops r (dstSet T o.dst v) s'
   | none=>none
def evR (P:Program) (sp:FuncId→List Value→St→Option (Value × St)) (f:Nat) (d:Dc) (s:St):Option St:=match P.funcs[d.g]? with
 | some fn=>match fn.body with
  | some (.seq (.region _ ops false) b)=>match seqR P (callOf P sp f) ops ops.toList (startT (d.args ++ d.cap) fn.ntmps) s with
   | some (T1,s1)=>match evC P sp f b T1 s1 with
    | some (.normal,T',s')=>(resA P T' s' fn.results.toList).map fun _=>s'
    | some (.ret,T',s')=>(resA P T' s' fn.results.toList).map fun _=>s'
    | _=>none
   | none=>none
  | _=>none
 | none=>none
def leaveD (P:Program) (sp:FuncId→List Value→St→Option (Value × St)) (f:Nat):List Dc→St→Option St
 | [],s=>some s
 | d :: r,s=>match evR P sp f d s with
  | some s'=>leaveD P sp f r s'
  | none=>none
def evG (P:Program) (sp:FuncId→List Value→St→Option (Value × St)) (f:Nat) (g:FuncId) (args:List Value) (s:St):Option (Value × St):=match P.funcs[g]? with
 | some fn=>match fn.body with
  | some b=>match evD P sp f b (startT args fn.ntmps) ⟨s.es,[],s.c⟩ [] with
   | some (.normal,T',s',D)=>(leaveD P sp f D s').bind fun s2=>(resA P T' s2 fn.results.toList).map fun vs=>leave s (packRes vs) s2
   | some (.ret,T',s',D)=>(leaveD P sp f D s').bind fun s2=>(resA P T' s2 fn.results.toList).map fun vs=>leave s (packRes vs) s2
   | _=>none
  | none=>none
 | none=>none
def DR (ρ:Ren):List Dc→List Deferred→Prop
 | [],[]=>True
 | d :: r,e :: q=>(∃ cap args:Array Value,e = { target:=.fn (.func d.g) cap,args:=args }∧VRl ρ d.args args.toList∧VRl ρ d.cap cap.toList∧entersB P d.g=true)∧DR ρ r q
 | _,_=>False
theorem DR.mono {ρ ρ':Ren} (h:ρ.le ρ'):∀ {D:List Dc} {E:List Deferred},DR (P:=P) ρ D E→DR (P:=P) ρ' D E
 | [],[],_=>trivial
 | d :: r,e :: q,⟨⟨cap,args,h1,h2,h3,h4⟩,h5⟩=>⟨⟨cap,args,h1,VRl.mono h h2,VRl.mono h h3,h4⟩,DR.mono h h5⟩
 | [],_ :: _,h=>h.elim
 | _ :: _,[],h=>h.elim
section
variable {call:FuncId→List Value→St→Option (Value × St)} {ops:Array Oper} {Q:Exit→Act→World→Prop}
theorem seqD_mono:∀ {l:List Oper} {T T':Tmps} {s s':St} {D D':List Dc},seqD P call ops l T s D=some (T',s',D')→s.c≤s'.c
 | [],T,T',s,s',D,D',h=>by simp only [seqD] at h;cases h;exact Nat.le_refl _
 | o :: r,T,T',s,s',D,D',h=>by
  simp only [seqD] at h
  split at h
  ·split at h
   ·split at h
    ·split at h
     ·exact seqD_mono h
     ·cases h
    ·cases h
   ·cases h
  ·split at h
   ·rename_i v s1 h1
    exact Nat.le_trans (step1_mono h1) (seqD_mono h)
   ·cases h
theorem seqD_wp (hc:CallOk P call) {base:Nat} {w0:World}:∀ {l:List Oper} {k:Nat} {T T':Tmps} {s s':St} {D D':List Dc} {E:List Deferred} {a:Act} {ρ:Ren} {M:Mem} {w:World},(∀ j,j<l.length→ops[k+j]?=l[j]?)→seqD P call ops l T s D=some (T',s',D')→s.c≤s'.c∧(In ρ M s base w0 w→TR E ρ T a→DR (P:=P) ρ D E→GR ρ→(∀ n,s.c≤n→n<s'.c→ρ n=none) →
 (∀ a' w' E',DoneC ρ M s base w0 s' w' (fun ρ'=>TR E' ρ' T' a'∧DR (P:=P) ρ' D' E')→Q .normal a' w')→wpOps P ops Q (List.range' k l.length) a w)
 | [],k,T,T',s,s',D,D',E,a,ρ,M,w,hl,h=>by
  simp only [seqD] at h
  cases h
  exact ⟨Nat.le_refl _,fun hI hT hD hG hF hQ=>hQ a w E ⟨Nat.le_refl _,cov.refl _,Done.stay hI (Same.refl w) ⟨hT,hD⟩⟩⟩
 | o :: r,k,T,T',s,s',D,D',E,a,ρ,M,w,hl,h=>by
  have ho:ops[k]?=some o:=by have:=hl 0 (by simp);simpa using this
  have hl':∀ j,j<r.length→ops[k+1+j]?=r[j]?:=fun j hj=>by have:=hl (j+1) (by simp;omega);simpa [Nat.add_assoc,Nat.add_comm 1 j] using this
  have other:∀ v s1,step1 P call ops o T s=some (v,s1)→seqD P call ops r (dstSet T o.dst v) s1 D=some (T',s',D')→s.c≤s'.c∧(In ρ M s base w0 w→TR E ρ T a→DR (P:=P) ρ D E→GR ρ→(∀ n,s.c≤n→n<s'.c→ρ n=none) →
  (∀ a' w' E',DoneC ρ M s base w0 s' w' (fun ρ'=>TR E' ρ' T' a'∧DR (P:=P) ρ' D' E')→Q .normal a' w')→wpOps P ops Q (List.range' k (o :: r).length) a w):=fun v s1 h1 h=>by
   have m1:=step1_mono h1
   have m2:s1.c≤s'.c:=(seqD_wp (E:=E) (a:=a) (ρ:=ρ) (M:=M) (w:=w) hc (base:=base) (w0:=w0) (l:=r) hl' h).1
   refine ⟨Nat.le_trans m1 m2,fun hI hT hD hG hF hQ=>?_⟩
   rw [List.length_cons,range_from]
   simp only [wpOps,ho]
   refine step1_wp hc h1 hI hT hG (fun n h2 h3=>hF n h2 (by omega)) (fun y w' hd=>?_)
   obtain ⟨d1,d2,ρ1,M1,e1,e2,e3,e4,e5⟩:=hd
   refine (seqD_wp hc (l:=r) hl' h).2 e3 ((hT.mono e1).put o.dst e5) (hD.mono e1) (hG.mono e1) (fun n h2 h3=>?_) (fun a' w'' E' hd2=>hQ a' w'' E' ?_)
   ·rcases e2 n with h4 | h4
    ·rw [h4];exact hF n (by omega) h3
    ·omega
   ·exact DoneC.after d1 d2 e1 e2 e4 hd2
  simp only [seqD] at h
  split at h
  ·rename_i c hop hgd
   split at h
   ·rename_i f hcal
    split at h
    ·rename_i g x y vs hf hvs
     split at h
     ·rename_i hen
      have ih:=fun (E:List Deferred) (a:Act) (w:World)=>seqD_wp (E:=E) (a:=a) (ρ:=ρ) (M:=M) (w:=w) hc (base:=base) (w0:=w0) (l:=r) hl' h
      refine ⟨(ih E a w).1,fun hI hT hD hG hF hQ=>?_⟩
      rw [List.length_cons,range_from]
      simp only [wpOps,ho]
      have hw:Region.wanted o (yielded ops a.tmps)=true:=by unfold Region.wanted;rw [hgd]
      rw [if_pos hw]
      refine .inl ?_
      have hO:=hT.opd hG o.op.operands.toList
      rw [hop] at hO
      have hfv:=hT.opd hG [f] f (by simp) _ hf
      obtain ⟨args',hav,hal⟩:∃ args':Array Value,c.args.map a.eval=args'∧VRl ρ vs args'.toList:=⟨_,rfl,by
       have:=opds_run hvs (hT.opd hG c.args.toList)
       simpa using this⟩
      generalize hfe:a.eval f=fe at hfv
      cases hfv with
      | func _ k1 kx k2 ky =>
       rename_i x' y'
       have hrun:(execOp a.eval o).run P w = .ok (.defer { target:=.fn (.func g) y',args:=x' ++ args' }) w:=by
        unfold execOp
        rw [hop]
        simp only [resolve,hcal,hfe,hav,Deferred.ofValue,Sem.run_bind,Sem.run_pure,Result.andThen_ok]
       unfold Oper.wp
       rw [hrun,Oper.upon_defer]
       refine (ih ({ target:=.fn (.func g) y',args:=x' ++ args' } :: E) _ w).2 hI ?_ ⟨⟨y',x' ++ args',rfl,?_,⟨by simpa using k2,fun i u v hu hv=>ky i u v (by simpa using hu) (by simpa using hv)⟩,hen⟩,hD⟩ hG hF hQ
       ·have t0:TR ({ target:=.fn (.func g) y',args:=x' ++ args' } :: E) ρ T { a with defers:={ target:=.fn (.func g) y',args:=x' ++ args' } :: a.defers }:=⟨by rw [hT.defers],hT.len,hT.at_⟩
        exact t0.put o.dst (.tuple rfl (fun i x y h=>by simp at h))
       ·show VRl ρ (x.toList ++ vs) (x' ++ args').toList
        rw [Array.toList_append]
        exact VRl.append ⟨by simpa using k1,fun i u v hu hv=>kx i u v (by simpa using hu) (by simpa using hv)⟩ hal
     ·cases h
    ·cases h
   ·cases h
  ·split at h
   ·rename_i v s1 h1
    exact other v s1 h1 h
   ·cases h
variable {sp:FuncId→List Value→St→Option (Value × St)}
theorem evD_ok (hs:CallOk P sp) (hm:P.follows .mixedOrders=true):∀ (f:Nat) {c:Code} {T:Tmps} {s:St} {D:List Dc} {x:Ex} {T':Tmps} {s':St} {D':List Dc},evD P sp f c T s D=some (x,T',s',D')→s.c≤s'.c ∧
 ∀ {E:List Deferred} {ρ:Ren} {M:Mem} {base:Nat} {w0 w:World} {a:Act} {Q:Exit→Act→World→Prop},In ρ M s base w0 w→TR E ρ T a→DR (P:=P) ρ D E→GR ρ→(∀ n,s.c≤n→n<s'.c→ρ n=none) →
  (∀ a' w' E',DoneC ρ M s base w0 s' w' (fun ρ'=>TR E' ρ' T' a'∧DR (P:=P) ρ' D' E')→Q (exOf x) a' w')→c.wp P Q a w
 | 0,c,T,s,D,x,T',s',D',h=>by simp only [evD] at h;cases h
 | f+1,c,T,s,D,x,T',s',D',h=>by
  have hdraw:=fun call (hc:CallOk P call)=>draw_ok hm hc
  simp only [evD] at h
  split at h
  ·rename_i x1 T1 s1 he
   cases h
   refine ⟨evC_mono f _ _ _ _ _ _ he,fun {E ρ M base w0 w a Q} hI hT hD hG hF hQ=>(evC_ok hs hdraw f _ _ _ _ _ _ he E ρ M base w0 w a Q hI hT hG hF (fun a' w' hd=>hQ a' w' E ?_)).1⟩
   obtain ⟨d1,d2,ρ1,M1,e1,e2,e3,e4,e5⟩:=hd
   exact ⟨d1,d2,ρ1,M1,e1,e2,e3,e4,e5,hD.mono e1⟩
  ·split at h
   ·rename_i c1 c2
    split at h
    ·rename_i T1 s1 D1 h1
     obtain ⟨m1,k1⟩:=evD_ok hs hm f h1
     obtain ⟨m2,k2⟩:=evD_ok hs hm f h
     refine ⟨Nat.le_trans m1 m2,fun {E ρ M base w0 w a Q} hI hT hD hG hF hQ=>wp_seq ?_⟩
     refine k1 hI hT hD hG (fun n h2 h3=>hF n h2 (by omega)) (fun a' w' E' hd=>?_)
     obtain ⟨d1,d2,ρ1,M1,e1,e2,e3,e4,e5,e6⟩:=hd
     refine k2 e3 e5 e6 (hG.mono e1) (fun n h4 h5=>?_) (fun a'' w'' E'' hd2=>hQ a'' w'' E'' (DoneC.after d1 d2 e1 e2 e4 hd2))
     rcases e2 n with h6 | h6
     ·rw [h6];exact hF n (by omega) h5
     ·omega
    ·rename_i hne
     obtain ⟨m1,k1⟩:=evD_ok hs hm f h
     refine ⟨m1,fun {E ρ M base w0 w a Q} hI hT hD hG hF hQ=>wp_seq (k1 hI hT hD hG hF (fun a' w' E' hd=>Exit.then_of (fun e=>?_) (hQ a' w' E' hd)))⟩
     subst e
     exact hne _ _ _ h
   ·rename_i id ops hnone
    obtain ⟨⟨T1,s1,D1⟩,h1,h2⟩:=Option.map_eq_some_iff.1 h
    cases h2
    have hc:=callOf_ok hs (evC_mono (P:=P) (sp:=sp) f) (evC_ok hs hdraw f)
    have key:=fun (E:List Deferred) (a:Act) (ρ:Ren) (M:Mem) (base:Nat) (w0 w:World) (Q:Exit→Act→World→Prop)=>seqD_wp (E:=E) (a:=a) (ρ:=ρ) (M:=M) (w:=w) (Q:=Q) hc (base:=base) (w0:=w0) (k:=0) (l:=ops.toList) (fun j hj=>by simp) h1
    refine ⟨?_,fun {E ρ M base w0 w a Q} hI hT hD hG hF hQ=>wp_region ?_⟩
    ·exact seqD_mono h1
    ·rw [List.range_eq_range',← Array.length_toList]
     exact (key E a ρ M base w0 w Q).2 hI hT hD hG hF hQ
   ·cases h
theorem seqR_mono:∀ {l:List Oper} {T T':Tmps} {s s':St},seqR P call ops l T s=some (T',s')→s.c≤s'.c
 | [],T,T',s,s',h=>by simp only [seqR] at h;cases h;exact Nat.le_refl _
 | o :: r,T,T',s,s',h=>by
  simp only [seqR] at h
  split at h
  ·exact seqR_mono h
  ·split at h
   ·rename_i v s1 h1
    exact Nat.le_trans (step1_mono h1) (seqR_mono h)
   ·cases h
theorem step1_sure (hc:CallOk P call) {E:List Deferred} {T:Tmps} {a:Act} {o:Oper} {s s':St} {v:Value} (h:step1 P call ops o T s=some (v,s')) {ρ:Ren} {M:Mem} {base:Nat} {w0 w:World} (hI:In ρ M s base w0 w) (hT:TR E ρ T a) (hG:GR ρ) (hF:∀ n,s.c≤n→n<s'.c→ρ n=none)
 {K:Act→World→Prop} (hK:∀ y w',DoneC ρ M s base w0 s' w' (fun ρ'=>VR ρ' v y)→K (a.put o.dst y) w'):if Region.wanted o (yielded ops a.tmps) then o.wp P a w K Q else K (a.put o.dst undef) w:=by
 unfold step1 at h
 split at h
 ·rename_i hw
  rw [if_pos (wanted_run hw hT)]
  exact opB_wp hc h hI (hT.opd hG _) hG hF hK
 ·rename_i hw
  have:=wanted_run hw hT
  rw [if_neg (by rw [this];simp)]
  cases h
  exact hK undef w ⟨Nat.le_refl _,cov.refl _,Done.stay hI (Same.refl w) (.tuple rfl (fun i x y h=>by simp at h))⟩
 ·cases h
theorem seqR_wp (hc:CallOk P call) {base:Nat} {w0:World} {QS:Exit→Act→List Frame→World→Prop} {cs:List Frame} (hcs:recoverD cs=none):∀ {l:List Oper} {k:Nat} {T T':Tmps} {s s':St} {a:Act} {ρ:Ren} {M:Mem} {w:World},(∀ j,j<l.length→ops[k+j]?=l[j]?)→seqR P call ops l T s=some (T',s')→In ρ M s base w0 w→TR [] ρ T a→GR ρ→(∀ n,s.c≤n→n<s'.c→ρ n=none) →
 (∀ a' w',DoneC ρ M s base w0 s' w' (fun ρ'=>TR [] ρ' T' a')→QS .normal a' cs w')→wpOpsS P ops QS (List.range' k l.length) a cs w
 | [],k,T,T',s,s',a,ρ,M,w,hl,h,hI,hT,hG,hF,hQ=>by
  simp only [seqR] at h
  cases h
  exact hQ a w ⟨Nat.le_refl _,cov.refl _,Done.stay hI (Same.refl w) hT⟩
 | o :: r,k,T,T',s,s',a,ρ,M,w,hl,h,hI,hT,hG,hF,hQ=>by
  have ho:ops[k]?=some o:=by have:=hl 0 (by simp);simpa using this
  have hl':∀ j,j<r.length→ops[k+1+j]?=r[j]?:=fun j hj=>by have:=hl (j+1) (by simp;omega);simpa [Nat.add_assoc,Nat.add_comm 1 j] using this
  rw [List.length_cons,range_from]
  simp only [wpOpsS,ho]
  simp only [seqR] at h
  split at h
  ·rename_i c argt tt hop hgd
   have hw:Region.wanted o (yielded ops a.tmps)=true:=by unfold Region.wanted;rw [hgd]
   rw [if_pos hw]
   have hrun:(execOp a.eval o).run P w = .ok .recover w:=by
    unfold execOp
    rw [hop]
    rfl
   rw [hrun]
   simp only [hcs]
   exact seqR_wp hc hcs (l:=r) hl' h hI (hT.put o.dst .nilIface) hG hF hQ
  ·split at h
   ·rename_i v s1 h1
    have m1:=step1_mono h1
    have m2:=seqR_mono h
    have K:=step1_sure (Q:=fun e a w=>QS e a cs w) (K:=fun a w=>wpOpsS P ops QS (List.range' (k+1) r.length) a cs w) hc h1 hI hT hG (fun n h2 h3=>hF n h2 (by omega)) (fun y w' hd=>by
     obtain ⟨d1,d2,ρ1,M1,e1,e2,e3,e4,e5⟩:=hd
     refine seqR_wp hc hcs (l:=r) hl' h e3 ((hT.mono e1).put o.dst e5) (hG.mono e1) (fun n h2 h3=>?_) (fun a' w'' hd2=>hQ a' w'' (DoneC.after d1 d2 e1 e2 e4 hd2))
     rcases e2 n with h4 | h4
     ·rw [h4];exact hF n (by omega) h3
     ·omega)
    by_cases hw:Region.wanted o (yielded ops a.tmps)=true
    ·rw [if_pos hw] at K ⊢
     unfold Oper.wp at K
     split
     ·rename_i w1 hr
      rw [hr] at K
      exact K.elim
     ·exact K
    ·rw [if_neg hw] at K ⊢
     exact K
   ·cases h
theorem evR_mono {f:Nat} {d:Dc} {s s':St} (h:evR P sp f d s=some s'):s.c≤s'.c:=by
 unfold evR at h
 split at h
 ·split at h
  ·split at h
   ·rename_i h1
    have m1:=seqR_mono h1
    split at h
    ·rename_i h2
     obtain ⟨vs,_,h3⟩:=Option.map_eq_some_iff.1 h
     subst h3
     exact Nat.le_trans m1 (evC_mono f _ _ _ _ _ _ h2)
    ·rename_i h2
     obtain ⟨vs,_,h3⟩:=Option.map_eq_some_iff.1 h
     subst h3
     exact Nat.le_trans m1 (evC_mono f _ _ _ _ _ _ h2)
    ·cases h
   ·cases h
  ·cases h
 ·cases h
theorem evR_ok (hs:CallOk P sp) (hm:P.follows .mixedOrders=true) {f:Nat} {d:Dc} {s s':St} (h:evR P sp f d s=some s') {ρ:Ren} {M:Mem} {base:Nat} {w0 w:World} {args:Array Value} (hA:VRl ρ (d.args ++ d.cap) args.toList) (hI:In ρ M s base w0 w) (hG:GR ρ) (hF:∀ n,s.c≤n→n<s'.c→ρ n=none) :
 CallsD P d.g args .returning w fun e u' w'=>(∃ v,e = .returned v)∧u' = .returning∧DoneC ρ M s base w0 s' w' (fun _=>True):=by
 have hdraw:=fun call (hc:CallOk P call)=>draw_ok hm hc
 have hc:=callOf_ok hs (evC_mono (P:=P) (sp:=sp) f) (evC_ok hs hdraw f)
 unfold evR at h
 split at h
 ·rename_i fn hf
  split at h
  ·rename_i id ops b hb
   split at h
   ·rename_i T1 s1 h1
    have m1:=seqR_mono h1
    obtain ⟨x,T',vs,hx,h2,h3⟩:∃ x T' vs,(x = .normal∨x = .ret)∧evC P sp f b T1 s1=some (x,T',s')∧resA P T' s' fn.results.toList=some vs:=by
     split at h
     ·rename_i h2
      obtain ⟨vs,h4,h3⟩:=Option.map_eq_some_iff.1 h
      subst h3
      exact ⟨_,_,vs,.inl rfl,h2,h4⟩
     ·rename_i h2
      obtain ⟨vs,h4,h3⟩:=Option.map_eq_some_iff.1 h
      subst h3
      exact ⟨_,_,vs,.inr rfl,h2,h4⟩
     ·cases h
    have m2:=evC_mono f _ _ _ _ _ _ h2
    refine callsD_of_wpS hf hb (fun c₀ cs hu=>wpS_seq (wpS_region ?_))
    rw [List.range_eq_range',← Array.length_toList]
    have hrec:recoverD (c₀ :: cs)=none:=by simp [recoverD,hu]
    refine seqR_wp hc hrec (l:=ops.toList) (fun j hj=>by simp) h1 hI (startT_tr hA) hG (fun n h4 h5=>hF n h4 (by omega)) (fun a' w' hd=>?_)
    obtain ⟨d1,d2,ρ1,M1,e1,e2,e3,e4,e5⟩:=hd
    refine wpS_of_wp ?_
    refine (evC_ok hs hdraw f _ _ _ _ _ _ h2 [] ρ1 M1 base w0 w' a' _ e3 e5 (hG.mono e1) (fun n h4 h5=>?_) (fun a2 w2 hd2=>?_)).1
    ·rcases e2 n with h6 | h6
     ·rw [h6];exact hF n (by omega) h5
     ·omega
    ·obtain ⟨g1,g2,ρ2,M2,k1,k2,k3,k4,k5⟩:=hd2
     obtain ⟨y,q1,q2⟩:=results_run k3 k5 h3
     have fin:DoneC ρ M s base w0 s' w2 (fun _=>True):=DoneC.after d1 d2 e1 e2 e4 ⟨g1,g2,ρ2,M2,k1,k2,k3,k4,trivial⟩
     have hc0:({ c₀ with mode:=.returning }:Frame)=c₀:=by cases c₀;simp_all
     have:a2.defers=[] ∧ ∃ u',c₀ :: cs = { c₀ with mode:=u' } :: cs ∧ ∃ v,(results fn a2.tmps).run P w2 = .ok v w2∧((∃ v',Ending.returned v = .returned v')∧u' = .returning∧DoneC ρ M s base w0 s' w2 (fun _=>True)):=⟨k5.defers,.returning,by rw [hc0],y,q2,⟨y,rfl⟩,rfl,fin⟩
     rcases hx with rfl | rfl
     ·exact this
     ·exact this
   ·cases h
  ·cases h
 ·cases h
theorem leaveD_mono {f:Nat}:∀ {D:List Dc} {s s':St},leaveD P sp f D s=some s'→s.c≤s'.c
 | [],s,s',h=>by simp only [leaveD] at h;cases h;exact Nat.le_refl _
 | d :: r,s,s',h=>by
  simp only [leaveD] at h
  split at h
  ·rename_i s1 h1
   exact Nat.le_trans (evR_mono h1) (leaveD_mono h)
  ·cases h
theorem leaveD_ok (hs:CallOk P sp) (hm:P.follows .mixedOrders=true) {f:Nat} {fn:Func} {tmps:Array Value} {R:Ending→World→Prop}:∀ {D:List Dc} {E:List Deferred} {s s':St} {ρ:Ren} {M:Mem} {base:Nat} {w0 w:World},leaveD P sp f D s=some s'→DR (P:=P) ρ D E→In ρ M s base w0 w→GR ρ→(∀ n,s.c≤n→n<s'.c→ρ n=none) →
 (∀ w',DoneC ρ M s base w0 s' w' (fun _=>True) → ∃ v,(results fn tmps).run P w' = .ok v w'∧R (.returned v) w')→Leaves P fn tmps R E .returning w
 | [],[],s,s',ρ,M,base,w0,w,h,hD,hI,hG,hF,hK=>by
  simp only [leaveD] at h
  cases h
  exact hK w ⟨Nat.le_refl _,cov.refl _,Done.stay hI (Same.refl w) trivial⟩
 | d :: r,e :: q,s,s',ρ,M,base,w0,w,h,⟨⟨cap,args,h1,h2,h3,h4⟩,h5⟩,hI,hG,hF,hK=>by
  simp only [leaveD] at h
  split at h
  ·rename_i s1 h6
   have m1:=evR_mono h6
   have m2:=leaveD_mono h
   subst h1
   have hA:VRl ρ (d.args ++ d.cap) (args ++ cap).toList:=by rw [Array.toList_append];exact h2.append h3
   refine leaves_cons (f:=d.g) (args:=args ++ cap) (by simp) (by simp only [invoke];exact enters_run h4 w) ?_
   refine (evR_ok hs hm h6 hA hI hG (fun n h7 h8=>hF n h7 (by omega))).mono ?_
   rintro e u' w' ⟨⟨v,rfl⟩,rfl,hd⟩
   obtain ⟨d1,d2,ρ1,M1,e1,e2,e3,e4,_⟩:=hd
   refine leaveD_ok hs hm h (h5.mono e1) e3 (hG.mono e1) (fun n h7 h8=>?_) (fun w2 hd2=>hK w2 (DoneC.after d1 d2 e1 e2 e4 hd2))
   rcases e2 n with h9 | h9
   ·rw [h9];exact hF n (by omega) h8
   ·omega
  ·cases h
 | [],_ :: _,s,s',ρ,M,base,w0,w,h,hD,hI,hG,hF,hK=>hD.elim
 | _ :: _,[],s,s',ρ,M,base,w0,w,h,hD,hI,hG,hF,hK=>hD.elim
theorem evG_ok (hs:CallOk P sp) (hm:P.follows .mixedOrders=true) {f:Nat}:CallOk P (evG P sp f):=by
 intro g args s v s' h ρ M base w0 w args' hI hG hF hA
 unfold evG at h
 split at h
 ·rename_i fn h1
  split at h
  ·rename_i b h2
   obtain ⟨x,T',s1,D,s2,vs,hx,h3,h4,h5,h6⟩:∃ x T' s1 D s2 vs,(x = .normal∨x = .ret)∧evD P sp f b (startT args fn.ntmps) ⟨s.es,[],s.c⟩ []=some (x,T',s1,D)∧leaveD P sp f D s1=some s2∧resA P T' s2 fn.results.toList=some vs∧leave s (packRes vs) s2=(v,s'):=by
    split at h
    ·rename_i T' s1 D h3
     obtain ⟨s2,h4,h⟩:=Option.bind_eq_some_iff.1 h
     obtain ⟨vs,h5,h6⟩:=Option.map_eq_some_iff.1 h
     exact ⟨_,T',s1,D,s2,vs,.inl rfl,h3,h4,h5,h6⟩
    ·rename_i T' s1 D h3
     obtain ⟨s2,h4,h⟩:=Option.bind_eq_some_iff.1 h
     obtain ⟨vs,h5,h6⟩:=Option.map_eq_some_iff.1 h
     exact ⟨_,T',s1,D,s2,vs,.inr rfl,h3,h4,h5,h6⟩
    ·cases h
   obtain ⟨m1,k1⟩:=evD_ok hs hm f h3
   have m2:=leaveD_mono h4
   have hF1:∀ n,s.c≤n→n<s2.c→ρ n=none:=by rw [← leave_c h6];exact hF
   refine calls_of_wp_defers h1 h2 (k1 (E:=[]) (ρ:=ρ) (M:=M) (base:=base) (w0:=w0) ⟨hI.sub,hI.hr,hI.bel⟩ (startT_tr hA) trivial hG (fun n h7 h8=>hF1 n h7 (by omega)) (fun a' w' E' hd=>?_))
   obtain ⟨d1,d2,ρ2,M2,a1,a2,a3,a4,a5,a6⟩:=hd
   have:Leaves P fn a'.tmps (fun e w'=>∃ y,e = .returned y∧DoneC ρ M s base w0 s' w' (fun ρ'=>VR ρ' v y)) a'.defers .returning w':=by
    rw [a5.defers]
    refine leaveD_ok hs hm h4 a6 a3 (hG.mono a1) (fun n h7 h8=>?_) (fun w2 hd2=>?_)
    ·rcases a2 n with h9 | h9
     ·rw [h9];exact hF1 n (by have:s.c≤s1.c:=m1;omega) h8
     ·omega
    ·obtain ⟨g1,g2,ρ3,M3,b1,b2,b3,b4,_⟩:=hd2
     have hT3:TR E' ρ3 T' a':=a5.mono b1
     obtain ⟨y,q1,q2⟩:=results_run b3 hT3 h5
     have all:DoneC ρ M ⟨s.es,[],s.c⟩ base w0 s2 w2 (fun ρ'=>VR ρ' (packRes vs) y):=DoneC.after d1 d2 a1 a2 a4 ⟨g1,g2,ρ3,M3,b1,b2,b3,b4,q1⟩
     exact ⟨y,q2,y,rfl,leave_ok hI (show s.c≤s2.c from Nat.le_trans m1 m2) hF1 all.2.2 h6⟩
   rcases hx with rfl | rfl
   ·exact this
   ·exact this
  ·cases h
 ·cases h
end
end Ev
namespace Ev
set_option linter.unusedVariables false
set_option linter.unusedSimpArgs false
variable {P:Program}
section
variable {ρ:Ren} {M:Mem} {s:St} {base:Nat} {w0 w w':World}
theorem In.later (h:In ρ M s base w0 w) (b:Below w.heap.size w w'):In ρ M s base w0 w':=by
 refine ⟨h.sub,⟨fun n d hd hl=>?_,h.hr.inj,Nat.le_trans h.hr.base b.size⟩,h.bel.trans (b.mono h.hr.base)⟩
 obtain ⟨k,o,e1,e2,e3,e4,e5⟩:=h.hr.blk n d hd hl
 exact ⟨k,o,e1,by rw [b.block k.1 (Array.getElem?_eq_some_iff.1 e2).1];exact e2,e3,e4,e5⟩
theorem DoneC.later {Q:Ren→Prop} (h:In ρ M s base w0 w) (b:Below w.heap.size w w') (q:Q ρ):DoneC ρ M s base w0 s w' Q :=
 ⟨Nat.le_refl _,cov.refl _,ρ,M,ρ.le_refl,fun _=>.inl rfl,In.later h b,agree.refl _ _,q⟩
theorem flat_args {l:List Value} {a:Array Value} (h:VRl ρ l a.toList) (hf:l.all fl=true):a=l.toArray:=by
 have:a.toList=l:=by
  apply List.ext_getElem h.1.symm
  intro i h1 h2
  exact fl_eq (List.all_eq_true.1 hf _ (List.getElem_mem h2)) (h.2 i _ _ (List.getElem?_eq_getElem h2) (List.getElem?_eq_getElem h1))
 rw [← this]
theorem DoneC.fresh {Q:Ren→Prop} {b:Blk} {o:Obj} {g:Nat} (h:In ρ M s base w0 w) (hb:Below w.heap.size w w') (hg:w.heap.size≤g) (ho:w'.heap[g]?=some o) (hbr:BR ρ b o) (hro:isRo b=false) (hc:ρ s.c=none)
 (q:∀ ρ':Ren,ρ.le ρ'→ρ' s.c=some (g,cellsIn o)→Q ρ'):DoneC ρ M s base w0 (new s b) w' Q:=by
 have hle:ρ.le (fun n=>if n=s.c then some (g,cellsIn o) else ρ n):=fun n k e=>by
  show (if n=s.c then _ else _)=_
  by_cases hn:n=s.c
  ·rw [hn,hc] at e;cases e
  ·rw [if_neg hn,e]
 have lt:∀ n b,M n=some b→isDead b=false → ∀ k,ρ n=some k→k.1<w.heap.size:=fun n b h1 h2 k h3=>by
  obtain ⟨k',o',e1,e2,_⟩:=h.hr.blk n b h1 h2
  rw [h3] at e1;cases e1
  exact (Array.getElem?_eq_some_iff.1 e2).1
 refine ⟨Nat.le_succ _,mark_cov _ _,fun n=>if n=s.c then some (g,cellsIn o) else ρ n,fun n=>if n=s.c then some b else M n,hle,fun n=>?_,⟨fun n d hd=>?_,⟨fun n d hd hdd=>?_,fun n m d d' k j h1 h2 h3 h4 h5 h6 h7=>?_,Nat.le_trans h.hr.base hb.size⟩,h.bel.trans (hb.mono h.hr.base)⟩,?_,q _ hle (by simp)⟩
 ·by_cases hn:n=s.c
  ·exact .inr ⟨by omega,by show n<s.c+1;omega⟩
  ·exact .inl (by simp [hn])
 ·rw [show (new s b).es=(s.c,b) :: s.es from rfl,get_cons] at hd
  by_cases hn:s.c=n
  ·rw [if_pos hn] at hd;cases hd
   exact ⟨b,by simp [hn],Le.refl _⟩
  ·rw [if_neg hn] at hd
   obtain ⟨b',e1,e2⟩:=h.sub n d hd
   exact ⟨b',by show (if n=s.c then _ else _)=_;rw [if_neg (fun e=>hn e.symm)];exact e1,e2⟩
 ·by_cases hn:n=s.c
  ·subst hn
   simp only [if_true] at hd;cases hd
   exact ⟨(g,cellsIn o),o,by simp,ho,hbr.mono hle,fun _=>Nat.le_trans h.hr.base hg,rfl⟩
  ·simp only [if_neg hn] at hd
   obtain ⟨k,o',e1,e2,e3,e4,e5⟩:=h.hr.blk n d hd hdd
   exact ⟨k,o',by simp only [if_neg hn];exact e1,by rw [hb.block k.1 (lt n d hd hdd k e1)];exact e2,e3.mono hle,e4,e5⟩
 ·by_cases hn:n=s.c
  ·by_cases hm:m=s.c
   ·omega
   ·simp only [if_neg hm] at h3 h6
    simp only [if_pos hn] at h5
    cases h5
    have:=lt m d' h3 h4 _ h6
    simp only at h7
    omega
  ·simp only [if_neg hn] at h1 h5
   by_cases hm:m=s.c
   ·simp only [if_pos hm] at h6
    cases h6
    have:=lt n d h1 h2 _ h5
    simp only at h7
    omega
   ·simp only [if_neg hm] at h3 h6
    exact h.hr.inj n m d d' k j h1 h2 h3 h4 h5 h6 h7
 ·intro n hn
  have hne:n≠s.c:=fun e=>hn (mark_self _ _ n none ⟨⟨s.c,0,HI⟩,by simp,e.symm,Nat.le_refl _⟩)
  simp [hne]
theorem cells_see {a:Addr} {n c:Nat} {y:Value} {xs:List Value} (hI:In ρ M s base w0 w) (h:cellsOf s 1 (.slice (some a) n c) n=some xs) (hf:xs.all fl=true) (hy:VR ρ (.slice (some a) n c) y) :
 xs.length=n ∧ ∃ g off c',y = .slice (some ⟨g,off,none⟩) n c'∧g<w.heap.size∧n≤c' ∧ ∀ j v,xs[j]?=some v→w.cell? ⟨g,off+j,none⟩=some v:=by
 simp only [cellsOf] at h
 split at h
 ·rename_i cs e m r hsp hg
  obtain ⟨b',k',o,_,_,e1,e2,e3,_,_,_⟩:=hI.see hg rfl
  obtain ⟨bb,off,sp⟩:=a
  cases hsp
  cases hy with
  | slice off sp n2 c c' f1 f2 f3 f4 =>
   simp only at e1
   rw [f1] at e1;cases e1
   obtain ⟨cc,e',fz,rfl⟩:∃ cc e' fz,o = .cells cc e' fz:=by cases o <;> first | exact ⟨_,_,_,rfl⟩ | exact e3.elim
   obtain ⟨g1,g2,g3,g4,g5⟩:=e3
   obtain ⟨ys,y1,y2,y3⟩:=reals g5 h
   have hxy:ys=xs:=by
    have:=flat_args (a:=ys.toArray) (by simpa using y1) hf
    exact congrArg Array.toList this
   subst hxy
   refine ⟨by rw [y2];omega,k'.1,off,c',rfl,(Array.getElem?_eq_some_iff.1 e2).1,f2,fun j v hj=>?_⟩
   rw [cell_of e2]
   exact y3 j v hj
 ·cases h
end
def natsOf:List Value→Option (List Nat)
 | []=>some []
 | .int .u16 (.ofNat n) :: r=>match natsOf r with
  | some l=>some (n :: l)
  | none=>none
 | _=>none
theorem natsOf_spec:∀ (xs:List Value) (u:List Nat),natsOf xs=some u→xs=u.map fun (n:Nat)=>Value.int .u16 (n:Int)
 | [],u,h=>by cases h;rfl
 | x :: r,u,h=>by
  unfold natsOf at h
  split at h
  ·rename_i e;cases e
  ·rename_i n r' e
   cases e
   split at h
   ·rename_i l hl
    cases h
    rw [List.map_cons,← natsOf_spec _ _ hl]
    rfl
   ·cases h
  ·cases h
def strsOf:List Value→Option (List ByteArray)
 | []=>some []
 | .string b :: r=>match strsOf r with
  | some l=>some (b :: l)
  | none=>none
 | _=>none
theorem strsOf_spec:∀ (xs:List Value) (u:List ByteArray),strsOf xs=some u→xs=u.map Value.string
 | [],u,h=>by cases h;rfl
 | x :: r,u,h=>by
  unfold strsOf at h
  split at h
  ·rename_i e;cases e
  ·rename_i n r' e
   cases e
   split at h
   ·rename_i l hl
    cases h
    rw [List.map_cons,← strsOf_spec _ _ hl]
   ·cases h
  ·cases h
theorem flat_nats (u:List Nat):(u.map fun (n:Nat)=>Value.int .u16 (n:Int)).all fl=true:=by
 rw [List.all_eq_true];intro v hv;obtain ⟨n,_,rfl⟩:=List.mem_map.1 hv;rfl
theorem flat_strs (u:List ByteArray):(u.map Value.string).all fl=true:=by
 rw [List.all_eq_true];intro v hv;obtain ⟨n,_,rfl⟩:=List.mem_map.1 hv;rfl
def riseB:List Nat→Bool
 | []=>true
 | a :: r=>r.all (fun b=>Nat.blt a b) && riseB r
theorem riseB_spec:∀ l:List Nat,riseB l=true→l.Pairwise (fun a b=>a<b)
 | [],_=>.nil
 | a :: r,h=>by
  simp only [riseB,Bool.and_eq_true,List.all_eq_true,Nat.blt_eq] at h
  exact .cons h.1 (riseB_spec r h.2)
end Ev
