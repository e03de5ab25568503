/- Fixed calls reckoned by Lean: what a call of the program does that is handed nothing (or fixed data) is computed on a small picture of memory, names in place of addresses. This text: the picture, and the reckoning. It speaks of any program. -/
import GoSem.Step
import Derived.Orders
import Derived.Scope
import Derived.Below
import Derived.Deep.AppendSrc
import Derived.Laws.Cells
import Derived.Laws.IdiomCopy
import Derived.Laws.Entries
import Derived.Lib.AppendZerosOnto
import Derived.Lib.ConvBytes
import Derived.Laws.BytesString
import Derived.Lib.Strings
set_option maxHeartbeats 2000000
namespace Go.Proofs.YtjgmbjfijpmhdaaGreatDoor
open Go
namespace Ev
set_option linter.unusedVariables false
def pureRun (P:Program) {α:Type}:Sem α→Option α
 | .pure a=>some a
 | .program k=>pureRun P (k P)
 | .mark _ k=>pureRun P k
 | .choose q k=>match q.forced with
  | true=>pureRun P (k 0)
  | false=>none
 | _=>none
def flat:Nat→Value→Bool
 | 0,_=>false
 | n+1,v=>match v with
  | .bool _=>true
  | .int _ _=>true
  | .float _ _=>true
  | .complex _ _ _=>true
  | .string _=>true
  | .pointer none=>true
  | .slice none _ _=>true
  | .map none=>true
  | .nilFunc=>true
  | .nilIface=>true
  | .iface _ x=>flat n x
  | .agg cs=>cs.toList.all (flat n)
  | .tuple cs=>cs.toList.all (flat n)
  | .func _ a b=>a.toList.all (flat n) && b.toList.all (flat n)
  | _=>false
def fl (v:Value):Bool:=flat 6 v
inductive Blk where
 | cells (cs:List (Option Value)) (elem:TypeId) (more ro:Bool)
 | map (es:List MapEntry) (clock:Nat)
 | miter (m:Option Nat) (since:Nat) (seen:List Nat) (last:Nat)
 | siter (s:ByteArray) (pos:Nat)
 | dead
abbrev Heap:=List (Nat × Blk)
def get:Heap→Nat→Option Blk
 | [],_=>none
 | (k,b) :: r,n=>match Nat.beq k n with
  | true=>some b
  | false=>get r n
def set:Heap→Nat→Blk→Heap
 | [],n,b=>[(n,b)]
 | (k,x) :: r,n,b=>match Nat.beq k n with
  | true=>(k,b) :: r
  | false=>(k,x) :: set r n b
structure Rng where
 n:Nat
 lo:Nat
 hi:Nat
def HI:Nat:=1180591620717411303424
def Rng.within (x y:Rng):Bool:=Nat.beq x.n y.n && Nat.ble y.lo x.lo && Nat.ble x.hi y.hi
structure St where
 es:Heap
 wr:List Rng
 c:Nat
def mark (x:Rng) (l:List Rng):List Rng:=match l.any (x.within ·) with
 | true=>l
 | false=>x :: l
def put (s:St) (n:Nat) (b:Blk):St:=⟨set s.es n b,mark ⟨n,0,HI⟩ s.wr,s.c⟩
def putCells (s:St) (n lo hi:Nat) (b:Blk):St:=⟨set s.es n b,mark ⟨n,lo,hi⟩ s.wr,s.c⟩
def new (s:St) (b:Blk):St:=⟨(s.c,b) :: s.es,mark ⟨s.c,0,HI⟩ s.wr,s.c+1⟩
def has (n:Nat):List Nat→Bool
 | []=>false
 | k :: r=>match Nat.beq k n with
  | true=>true
  | false=>has n r
abbrev Tmps:=List (Option Value)
def tmpAt:Tmps→Nat→Option Value
 | [],_=>none
 | x :: _,0=>x
 | _ :: r,n+1=>tmpAt r n
def tmpSet:Tmps→Nat→Value→Tmps
 | [],_,_=>[]
 | _ :: r,0,v=>some v :: r
 | x :: r,n+1,v=>x :: tmpSet r n v
def opd (T:Tmps):Operand→Option Value
 | .tmp t=>tmpAt T t
 | .const v=>match fl v with
  | true=>some v
  | false=>none
 | .global g=>match Nat.blt g 1000 with
  | true=>some (.pointer (some ⟨g,0,none⟩))
  | false=>none
 | .func f=>some (.func (.func f) #[] #[])
def opds (T:Tmps):List Operand→Option (List Value)
 | []=>some []
 | x :: r=>match opd T x with
  | none=>none
  | some v=>match opds T r with
   | none=>none
   | some vs=>some (v :: vs)
def opdO (T:Tmps):Option Operand→Option (Option Value)
 | none=>some none
 | some x=>match opd T x with
  | none=>none
  | some v=>some (some v)
inductive Res where
 | val (v:Value)
 | skip
 | enter (f:FuncId) (args:List Value)
def BIG:Nat:=1208925819614629174706176
def isAggT (P:Program) (t:TypeId):Option Bool:=match P.underlying t with
 | some (.struct _)=>some true
 | some (.array _ _)=>some true
 | some _=>some false
 | none=>none
def sizeT (P:Program) (t:TypeId):Option Nat:=(P.info? t).map (·.size)
def zeroT (P:Program) (t:TypeId):Option (List Value):=match P.info? t with
 | some i=>match i.zero with
  | some z=>match fl z with
   | true=>some z.cells.toList
   | false=>none
  | none=>none
 | none=>none
def known:List (Option Value)→Option (List Value)
 | []=>some []
 | some v :: r=>match known r with
  | some vs=>some (v :: vs)
  | none=>none
 | none :: _=>none
def cut (cs:List (Option Value)) (off n:Nat):Option (List Value):=match Nat.ble (off+n) cs.length with
 | true=>known ((cs.drop off).take n)
 | false=>none
def loadA (P:Program) (s:St) (t:TypeId) (a:Addr):Option Value :=
 match a.spot,get s.es a.block with
 | none,some (.cells cs _ _ _)=>match isAggT P t with
  | some true=>match sizeT P t with
   | some n=>(cut cs a.off n).map fun xs=>.agg xs.toArray
   | none=>none
  | some false=>match cut cs a.off 1 with
   | some [x]=>some x
   | _=>none
  | none=>none
 | _,_=>none
def oneCell:Value→Bool
 | .agg _=>false
 | .tuple _=>false
 | _=>true
def over (cs:List (Option Value)) (off:Nat) (xs:List Value):Option (List (Option Value)):=match Nat.ble (off+xs.length) cs.length,xs.all oneCell with
 | true,true=>some (cs.take off ++ xs.map some ++ cs.drop (off+xs.length))
 | _,_=>none
def writeA (s:St) (a:Addr) (xs:List Value):Option St :=
 match a.spot,get s.es a.block with
 | none,some (.cells cs e more false)=>match over cs a.off xs with
  | some ds=>some (putCells s a.block a.off (a.off+xs.length) (.cells ds e more false))
  | none=>none
 | _,_=>none
def storeA (P:Program) (s:St) (t:TypeId) (a:Addr) (v:Value):Option St :=
 match sizeT P t with
 | some n=>match Nat.beq v.cells.size n with
  | true=>writeA s a v.cells.toList
  | false=>none
 | none=>none
def rowA (s:St) (e:TypeId) (cs:List Value):Option (Addr × St):=match cs.all oneCell with
 | true=>some (⟨s.c,0,none⟩,new s (.cells (cs.map some) e false false))
 | false=>none
def zeros (z:List Value):Nat→List Value
 | 0=>[]
 | n+1=>z ++ zeros z n
def cellsOf (s:St) (size:Nat):Value→Nat→Option (List Value)
 | .slice none _ _,n=>match Nat.beq n 0 with
  | true=>some []
  | false=>none
 | .slice (some a) _ _,n=>match a.spot,get s.es a.block with
  | none,some (.cells cs _ _ _)=>cut cs a.off (n * size)
  | _,_=>none
 | .string b,n=>some ((b.data.toList.take n).map fun x=>.int .u8 (x.toNat:Int))
 | _,_=>none
def lenA:Value→Option Nat
 | .slice _ n _=>some n
 | .string b=>some b.size
 | _=>none
def val (v:Value) (s:St):Option (Res × St):=some (.val v,s)
def intOf:Value→Option Int
 | .int _ n=>some n
 | _=>none
def natOf:Value→Option Nat
 | .int _ (.ofNat n)=>some n
 | _=>none
def srcA (P:Program) (s:St) (d:TypeDesc) (z:List Value) (size:Nat) (y:Value):Option (Nat × List Value):=match d,y with
 | .slice _,.slice b k c=>(cellsOf s size (.slice b k c) k).map fun xs=>(k,xs)
 | .string,.string b=>match Nat.beq size 1 with
  | true=>some (b.size,b.data.toList.map fun x=>.int .u8 (x.toNat:Int))
  | false=>none
 | .int _,.int _ (.ofNat (k+1))=>match Nat.blt 0 size with
  | true=>some (k+1,zeros z (k+1))
  | false=>none
 | _,_=>none
def freshA (s:St) (e:TypeId) (size m:Nat) (xs:List Value):Option (Res × St) :=
 val (.slice (some ⟨s.c,0,none⟩) m (BIG+size)) (new s (.cells (xs.map some) e true false))
def appendA (P:Program) (s:St) (argTypes:Array TypeId) (x y:Value):Option (Res × St) :=
 match argTypes.toList,x with
 | [t,tx],.slice base n cap=>match P.underlying t,P.underlying tx with
  | some (.slice e),some d=>match P.info? e,zeroT P e with
   | some i,some z=>match srcA P s d z i.size y with
    | some (k,news)=>match Nat.ble (n+k) 1000000 && Nat.ble i.bytes 1000000 && Nat.beq z.length i.size && news.all oneCell with
     | true=>match Nat.blt cap BIG,Nat.ble (n+k) cap with
      | true,true=>match d,base with
       | .int _,_=>none
       | _,some a=>(writeA s (a.add (n * i.size)) news).bind fun s'=>val (.slice base (n+k) cap) s'
       | _,none=>match news with
        | []=>val (.slice none (n+k) cap) s
        | _=>none
      | true,false=>(cellsOf s i.size x n).bind fun old=>freshA s e i.size (n+k) (old ++ news)
      | false,_=>match d,base with
       | .int _,_=>none
       | _,none=>none
       | _,some a=>match Nat.beq a.off 0 && Nat.beq cap (BIG+i.size),get s.es a.block with
        | true,some (.cells _ e' _ false)=>match Nat.beq e' e with
         | true=>(cellsOf s i.size x n).bind fun old=>freshA (put s a.block .dead) e i.size (n+k) (old ++ news)
         | false=>none
        | _,_=>none
     | false=>none
    | none=>none
   | _,_=>none
  | _,_=>none
 | _,_=>none
def boundO (x:Option Value) (d:Nat):Option Nat:=match x with
 | none=>some d
 | some v=>natOf v
def sliceA (P:Program) (s:St) (t:TypeId) (x:Value) (lo hi mx:Option Value):Option (Res × St) :=
 match mx.isSome && hi.isNone with
 | true=>none
 | false=>match P.underlying t,x with
 | some (.slice e),.slice (some a) n cap=>match sizeT P e,boundO lo 0,boundO hi n,boundO mx cap with
  | some size,some l,some h,some m =>
   match mx,Nat.blt cap BIG with
   | none,false=>match Nat.ble l h,Nat.ble h n,Nat.blt l n && Nat.beq cap (BIG+size) with
    | true,true,true=>val (.slice (some (a.add (l * size))) (h-l) cap) s
    | _,_,_=>none
   | none,true=>match Nat.ble l h,Nat.ble h cap with
    | true,true=>val (.slice (some (match Nat.beq cap l with | true=>a | false=>a.add (l * size))) (h-l) (cap-l)) s
    | _,_=>none
   | some _,kn=>match Nat.ble l h && Nat.blt m BIG,Nat.ble h m,(match kn with | true=>Nat.ble m cap | false=>Nat.ble m n) with
    | true,true,true=>val (.slice (some (match Nat.beq m l with | true=>a | false=>a.add (l * size))) (h-l) (m-l)) s
    | _,_,_=>none
  | _,_,_,_=>none
 | some (.slice e),.slice none n cap=>match sizeT P e,boundO lo 0,boundO hi n,boundO mx cap with
  | some size,some l,some h,some m=>match Nat.ble l h,Nat.ble h m,Nat.ble m cap,Nat.blt cap BIG with
   | true,true,true,true=>val (.slice none (h-l) (m-l)) s
   | _,_,_,_=>none
  | _,_,_,_=>none
 | some (.array n e),.pointer (some a)=>match sizeT P e,boundO lo 0,boundO hi n,boundO mx n with
  | some size,some l,some h,some m=>match Nat.ble l h && Nat.blt m BIG,Nat.ble h m,Nat.ble m n with
   | true,true,true=>val (.slice (some (match Nat.beq m l with | true=>a | false=>a.add (l * size))) (h-l) (m-l)) s
   | _,_,_=>none
  | _,_,_,_=>none
 | _,_=>none
def nilEq:TypeDesc→Value→Value→Option Bool
 | .slice _,.slice none _ _,.slice b _ _=>some b.isNone
 | .slice _,.slice (some _) _ _,.slice none _ _=>some false
 | .map _ _,.map none,.map b=>some b.isNone
 | .map _ _,.map (some _),.map none=>some false
 | .func _ _ _,.nilFunc,.nilFunc=>some true
 | .func _ _ _,.nilFunc,.func _ _ _=>some false
 | .func _ _ _,.func _ _ _,.nilFunc=>some false
 | _,_,_=>none
def evalF (T:Tmps) (x:Operand):Value:=(opd T x).getD (.tuple #[])
def plainOp (P:Program) (T:Tmps) (o:Oper) (s:St):Option (Res × St) :=
 match opds T o.op.operands.toList with
 | none=>none
 | some vs=>match vs.all fl with
  | false=>none
  | true=>match pureRun P (execOp (evalF T) o) with
   | some (.value v)=>match fl v with
    | true=>val v s
    | false=>none
   | _=>none
def mapOf (s:St):Value→Option (List MapEntry × Nat)
 | .map (some r)=>match get s.es r with
  | some (.map es clock)=>some (es,clock)
  | _=>none
 | .map none=>some ([],0)
 | _=>none
def okVal (ok:Bool) (v:Value) (b:Bool):Value:=match ok with
 | true=>.tuple #[v,.bool b]
 | false=>v
def keyType (P:Program) (t:TypeId):Option (TypeId × TypeId):=match P.underlying t with
 | some (.map k e)=>some (k,e)
 | _=>none
def findA (P:Program) (kt:TypeId) (k:Value) (es:List MapEntry):Option (Option (Nat × Value)) :=
 match fl k,es.all (fun e=>fl e.key) with
 | true,true=>match pureRun P (Instr.checkKey true 10000 kt k),pureRun P (Instr.checkKey false 10000 kt k) with
  | some _,some _=>pureRun P (Instr.findKey kt k es)
  | _,_=>none
 | _,_=>none
def mapSet (P:Program) (s:St) (t:TypeId) (m k v:Value):Option St :=
 match keyType P t,m,mapOf s m with
 | some (kt,_),.map (some r),some (es,clock)=>match findA P kt k es,oneCell v || true with
  | some (some (i,_)),_=>match Instr.sameBits 10000 (((es[i]?).map (·.key)).getD k) k with
   | true=>some (put s r (.map (es.modify i fun e=>{ e with key:=k,val:=v }) clock))
   | false=>none
  | some none,_=>some (put s r (.map (es ++ [{ key:=k,val:=v,born:=clock }]) (clock+1)))
  | none,_=>none
 | _,_,_=>none
def nextA (s:St) (r:Nat) (str:Bool):Option (Res × St):=match get s.es r,str with
 | some (.miter none _ _ _),false=>val (.tuple #[.bool false]) s
 | some (.miter (some m) since seen last),false=>match get s.es m with
  | some (.map es clock)=>match seen.isEmpty || es.isEmpty || !es.all (fun e=>Nat.ble last e.born) with
   | false=>none
   | true=>match es.filter (fun e=>!seen.contains e.born) with
    | []=>val (.tuple #[.bool false]) s
    | [e]=>match Nat.blt e.born since with
     | true=>val (.tuple #[.bool true,e.key,e.val]) (put s r (.miter (some m) since (seen ++ [e.born]) clock))
     | false=>none
    | _=>none
  | _=>none
 | some (.siter b pos),true=>match Nat.blt pos b.size with
  | true=>match Utf8.decode b pos with
   | (c,w)=>val (.tuple #[.bool true,.int .i64 (pos:Int),.int .i32 c]) (put s r (.siter b (pos+w)))
  | false=>val (.tuple #[.bool false]) s
 | _,_=>none
def builtinA (P:Program) (s:St) (T:Tmps) (o:Oper) (b:Builtin) (argTypes:Array TypeId) (args:List Value):Option (Res × St) :=
 match b,args with
 | .append,[x,y]=>appendA P s argTypes x y
 | .len,[.slice _ n _]=>match (argTypes[0]?).bind P.underlying with
  | some (.slice _)=>val (.int .i64 (n:Int)) s
  | _=>none
 | .len,[.map (some r)]=>match (argTypes[0]?).bind P.underlying,get s.es r with
  | some (.map _ _),some (.map es _)=>val (.int .i64 (es.length:Int)) s
  | _,_=>none
 | .cap,[.slice _ _ n]=>match (argTypes[0]?).bind P.underlying,Nat.blt n BIG with
  | some (.slice _),true=>val (.int .i64 (n:Int)) s
  | _,_=>none
 | .copy,[.slice d n _,y]=>match argTypes[0]?,lenA y with
  | some t,some k=>match P.underlying t with
   | some (.slice e)=>match sizeT P e with
    | some size=>match cellsOf s size y (Nat.min k n),d with
     | some xs,some a=>(writeA s a xs).bind fun s'=>val (.int .i64 ((Nat.min k n:Nat):Int)) s'
     | some _,none=>val (.int .i64 ((Nat.min k n:Nat):Int)) s
     | none,_=>none
    | none=>none
   | _=>none
  | _,_=>none
 | _,_=>plainOp P T o s
def entersB (P:Program) (f:FuncId):Bool:=match P.funcs[f]? with
 | some fn => fn.body.isSome && !(fn.name == "runtime.NumGoroutine")
 | none=>false
def makeMapA (P:Program) (T:Tmps) (s:St) (t:TypeId) (r:Option Operand):Option (Res × St):=match r with
 | none=>some (.val (.map (some s.c)),new s (.map [] 0))
 | some x=>match opd T x,keyType P t with
  | some (.int _ _),some _=>some (.val (.map (some s.c)),new s (.map [] 0))
  | _,_=>none
def binA (P:Program) (T:Tmps) (o:Oper) (s:St) (op:BinOp) (t:TypeId) (v u:Value):Option (Res × St):=match op,fl v && fl u with
 | _,true=>plainOp P T o s
 | .eql,false=>((P.underlying t).bind fun d=>nilEq d v u).bind fun b=>val (.bool b) s
 | .neq,false=>((P.underlying t).bind fun d=>nilEq d v u).bind fun b=>val (.bool !b) s
 | _,false=>none
def opA (P:Program) (T:Tmps) (o:Oper) (s:St):Option (Res × St) :=
 match o.op with
 | .move x=>(opd T x).bind fun v=>val v s
 | .assign x=>(opd T x).bind fun v=>val v s
 | .pick c a b=>match opd T c with
  | some (.bool true)=>(opd T a).bind fun v=>val v s
  | some (.bool false)=>(opd T b).bind fun v=>val v s
  | _=>none
 | .alloc e=>(zeroT P e).bind fun z=>(rowA s e z).bind fun (a,s')=>val (.pointer (some a)) s'
 | .box e x=>(opd T x).bind fun v=>(rowA s e v.cells.toList).bind fun (a,s')=>val (.pointer (some a)) s'
 | .build t ps=>(opds T (ps.toList.map (·.2))).bind fun vs=>match zeroT P t,P.underlying t with
  | some z,some (.struct fs)=>match pureRun P (fs.mapM fun f=>do pure (f.offset,← sizeOf f.type)) with
   | some places=>(Instr.fill (places[·]?) z.toArray ((ps.toList.map (·.1)).zip vs)).bind fun cells=>val (.agg cells) s
   | none=>none
  | some z,some (.array _ e)=>match sizeT P e with
   | some size=>(Instr.fill (fun i=>some (i * size,size)) z.toArray ((ps.toList.map (·.1)).zip vs)).bind fun cells=>val (.agg cells) s
   | none=>none
  | _,_=>none
 | .buildSlice t n ps=>(opds T (ps.toList.map (·.2))).bind fun vs=>match P.underlying t with
  | some (.slice e)=>match sizeT P e,zeroT P e with
   | some size,some z=>match Nat.ble (n * size) 16777216 && Nat.ble n 16777216 && Nat.beq z.length size,Instr.fill (fun i=>some (i * size,size)) (zeros z n).toArray ((ps.toList.map (·.1)).zip vs) with
    | true,some cells=>(rowA s e cells.toList).bind fun (a,s')=>val (.slice (some a) n n) s'
    | _,_=>none
   | _,_=>none
  | _=>none
 | .load t x=>match opd T x with
  | some (.pointer (some a))=>(loadA P s t a).bind fun v=>val v s
  | _=>none
 | .store t x y=>match opd T x,opd T y with
  | some (.pointer (some a)),some v=>(storeA P s t a v).bind fun s'=>some (.skip,s')
  | _,_=>none
 | .nilCheck x=>match opd T x with
  | some (.pointer (some a))=>val (.pointer (some a)) s
  | some (.func (.func f) a b)=>val (.func (.func f) a b) s
  | _=>none
 | .binOp op t x y _=>match opd T x,opd T y with
  | some v,some u=>binA P T o s op t v u
  | _,_=>none
 | .makeInterface t x=>match opd T x,P.underlying t with
  | some _,some (.interface _)=>none
  | some v,some _=>val (.iface t v) s
  | _,_=>none
 | .makeFunc fn a b=>(opds T a.toList).bind fun vs=>(opds T b.toList).bind fun us=>val (.func fn vs.toArray us.toArray) s
 | .makeMap t r=>makeMapA P T s t r
 | .makeSlice t l c=>match opd T l,opd T c,P.underlying t with
  | some lv,some cv,some (.slice e)=>match natOf lv,natOf cv,P.info? e,zeroT P e with
   | some n,some m,some i,some z=>match Nat.ble n m,Nat.ble (m * i.bytes) 1048576,Nat.ble m 1048576 && Nat.beq z.length i.size with
    | true,true,true=>(rowA s e (zeros z m)).bind fun (a,s')=>val (.slice (some a) n m) s'
    | _,_,_=>none
   | _,_,_,_=>none
  | _,_,_=>none
 | .slice t x lo hi mx=>(opd T x).bind fun v=>match fl v with
  | true=>match v with
   | .string _=>plainOp P T o s
   | _=>(opdO T lo).bind fun l=>(opdO T hi).bind fun h=>(opdO T mx).bind fun m=>sliceA P s t v l h m
  | false=>(opdO T lo).bind fun l=>(opdO T hi).bind fun h=>(opdO T mx).bind fun m=>sliceA P s t v l h m
 | .fieldAddr t x f=>match opd T x,P.underlying t with
  | some (.pointer (some a)),some (.struct fs)=>match fs[f]? with
   | some q=>match sizeT P q.type with
    | some (_+1)=>val (.pointer (some (a.add q.offset))) s
    | _=>none
   | none=>none
  | _,_=>none
 | .field t x f=>match opd T x,P.underlying t with
  | some (.agg cs),some (.struct fs)=>match fs[f]? with
   | some q=>match isAggT P q.type,sizeT P q.type with
    | some true,some n=>val (.agg (cs.extract q.offset (q.offset+n))) s
    | some false,_=>(cs[q.offset]?).bind fun v=>val v s
    | _,_=>none
   | none=>none
  | _,_=>none
 | .indexAddr t x ix=>match opd T x,opd T ix,P.underlying t with
  | some (.pointer (some a)),some (.int _ (.ofNat i)),some (.array n e)=>match sizeT P e,Nat.blt i n with
   | some size,true=>val (.pointer (some (a.add (i * size)))) s
   | _,_=>none
  | some (.slice (some a) n _),some (.int _ (.ofNat i)),some (.slice e)=>match sizeT P e,Nat.blt i n with
   | some size,true=>val (.pointer (some (a.add (i * size)))) s
   | _,_=>none
  | _,_,_=>none
 | .lookup t x ix ok=>match opd T x,opd T ix,keyType P t with
  | some m,some k,some (kt,e)=>match mapOf s m with
   | some (es,_)=>match findA P kt k es with
    | some (some (_,v))=>val (okVal ok v true) s
    | some none=>match P.info? e with
     | some i=>match i.zero with
      | some z=>match fl z with
       | true=>val (okVal ok z false) s
       | false=>none
      | none=>none
     | none=>none
    | none=>none
   | none=>none
  | _,_,_=>none
 | .mapUpdate t m k x=>match opd T m,opd T k,opd T x with
  | some mv,some kv,some v=>(mapSet P s t mv kv v).bind fun s'=>some (.skip,s')
  | _,_,_=>none
 | .insert t m k x=>match opd T m,opd T k,opd T x with
  | some mv,some kv,some v=>(mapSet P s t mv kv v).bind fun s'=>some (.skip,s')
  | _,_,_=>none
 | .range t x=>match opd T x,P.underlying t with
  | some (.string b),some .string=>some (.val (.pointer (some ⟨s.c,0,none⟩)),new s (.siter b 0))
  | some (.map none),some (.map _ _)=>some (.val (.pointer (some ⟨s.c,0,none⟩)),new s (.miter none 0 [] 0))
  | some (.map (some m)),some (.map _ _)=>match get s.es m with
   | some (.map _ clock)=>some (.val (.pointer (some ⟨s.c,0,none⟩)),new s (.miter (some m) clock [] clock))
   | _=>none
  | _,_=>none
 | .next it str=>match opd T it with
  | some (.pointer (some ⟨r,0,_⟩))=>nextA s r str
  | _=>none
 | .extract x i=>match opd T x with
  | some (.tuple vs)=>(vs[i]?).bind fun v=>val v s
  | _=>none
 | .call c=>match c.callee with
  | .value f=>match opd T f,opds T c.args.toList with
   | some (.func (.func g) a b),some vs=>match entersB P g with
    | true=>some (.enter g (a.toList ++ vs ++ b.toList),s)
    | false=>plainOp P T o s
   | _,_=>none
  | .builtin b=>(opds T c.args.toList).bind fun vs=>builtinA P s T o b c.argTypes vs
  | .invoke _ _=>none
 | .convert src dst x=>match opd T x,P.underlying src,P.underlying dst with
  | some (.string b),some _,some (.slice e)=>match P.underlying e with
   | some (.int .u8)=>some (.val (.slice (some ⟨s.c,0,none⟩) b.size (BIG+1)),new s (.cells (b.data.toList.map fun x=>some (.int .u8 (x.toNat:Int))) e true false))
   | _=>none
  | some (.slice (some a) n _),some (.slice e),some .string=>match P.underlying e with
   | some (.int .u8)=>match cellsOf s 1 (.slice (some a) n 0) n with
    | some xs=>match xs.all (fun v=>match v with | .int .u8 _=>true | _=>false) with
     | true=>val (.string ⟨(xs.map fun v=>match v with | .int _ m=>UInt8.ofNat m.toNat | _=>0).toArray⟩) s
     | false=>none
    | none=>none
   | _=>none
  | some v,some _,some _=>match fl v with
   | true=>plainOp P T o s
   | false=>match v,Nat.beq src dst,P.underlying dst with
    | .slice (some a) n c,true,some (.slice e)=>match P.underlying e,get s.es a.block with
     | some (.int .u8),some (.cells _ _ _ false)=>val (.slice (some a) n c) s
     | _,_=>none
    | _,_,_=>none
  | _,_,_=>none
 | .entry it=>match opd T it with
  | some (.pointer (some ⟨r,0,_⟩))=>match get s.es r with
   | some (.miter (some m) _ seen last)=>match get s.es m,seen.getLast? with
    | some (.map es clock),some st=>match Nat.beq clock last,es.find? (fun e=>Nat.beq e.born st) with
     | true,some e=>val (.tuple #[e.key,e.val]) s
     | _,_=>none
    | _,_=>none
   | _=>none
  | _=>none
 | .unOp _ _ _=>plainOp P T o s
 | .index _ _ _=>plainOp P T o s
 | .typeAssert _ _ _ _=>plainOp P T o s
 | _=>none
def opC (P:Program) (call:FuncId→List Value→St→Option (Value × St)) (T:Tmps) (o:Oper) (s:St):Option (Value × St) :=
 match opA P T o s with
 | some (.val v,s')=>some (v,s')
 | some (.skip,s')=>some (.tuple #[],s')
 | some (.enter f args,s')=>match Nat.beq s'.c s.c with
  | true=>call f args s
  | false=>none
 | none=>none
def opB (P:Program) (call:FuncId→List Value→St→Option (Value × St)) (T:Tmps) (o:Oper) (s:St):Option (Value × St) :=
 match opC P call T o s with
 | some (v,s')=>match Nat.ble s.c s'.c with
  | true=>some (v,s')
  | false=>none
 | none=>none
def wantedA (ops:Array Oper) (T:Tmps) (o:Oper):Option Bool:=match o.guard with
 | none=>some true
 | some (j,w)=>match ops[j]? with
  | none=>some false
  | some q=>match q.dst with
   | none=>some false
   | some d=>match tmpAt T d with
    | some (.bool b)=>some (b == w)
    | some (.tuple _)=>some false
    | _=>none
def dstSet (T:Tmps) (d:Option Tmp) (v:Value):Tmps:=match d with
 | some t=>tmpSet T t v
 | none=>T
def step1 (P:Program) (call:FuncId→List Value→St→Option (Value × St)) (ops:Array Oper) (o:Oper) (T:Tmps) (s:St):Option (Value × St) :=
 match wantedA ops T o with
 | some true=>opB P call T o s
 | some false=>some (.tuple #[],s)
 | none=>none
def seqA (P:Program) (call:FuncId→List Value→St→Option (Value × St)) (ops:Array Oper):List Oper→Tmps→St→Option (Tmps × St)
 | [],T,s=>some (T,s)
 | o :: r,T,s=>match step1 P call ops o T s with
  | some (v,s')=>seqA P call ops r (dstSet T o.dst v) s'
  | none=>none
def names:Nat→Value→List Nat
 | 0,_=>[]
 | n+1,v=>match v with
  | .pointer (some a)=>[a.block]
  | .slice (some a) _ _=>[a.block]
  | .map (some r)=>[r]
  | .iface _ x=>names n x
  | .agg cs=>cs.toList.flatMap (names n)
  | .tuple cs=>cs.toList.flatMap (names n)
  | .func _ a b=>a.toList.flatMap (names n) ++ b.toList.flatMap (names n)
  | _=>[]
def blkNames:Blk→List Nat
 | .cells cs _ _ _=>cs.flatMap fun x=>match x with | some v=>names 6 v | none=>[]
 | .map es _=>es.flatMap fun e=>names 6 e.key ++ names 6 e.val
 | .miter (some m) _ _ _=>[m]
 | _=>[]
def reach (es:Heap):Nat→List Nat→List Nat→List Nat
 | 0,_,seen=>seen
 | _,[],seen=>seen
 | f+1,n :: r,seen=>match has n seen with
  | true=>reach es f r seen
  | false=>match get es n with
   | some b=>reach es f (blkNames b ++ r) (n :: seen)
   | none=>reach es f r seen
def isRo:Blk→Bool
 | .cells _ _ _ ro=>ro
 | _=>false
def restrict (es:Heap) (F:List Nat):Heap:=es.filter fun x=>has x.1 F
def roNames (es:Heap):List Nat:=(es.filter fun x=>isRo x.2).map (·.1)
def del (es:Heap) (n:Nat):Heap:=es.filter fun x=>!Nat.beq x.1 n
def maskOff (lo hi:Nat):Nat→List (Option Value)→List (Option Value)
 | _,[]=>[]
 | i,x :: r=>(match Nat.ble lo i && Nat.blt i hi with | true=>x | false=>none) :: maskOff lo hi (i+1) r
def glimpse (es:Heap) (n lo hi:Nat):Heap:=match get es n with
 | some (.cells cs e more ro)=>[(n,.cells (maskOff lo hi 0 cs) e more ro)]
 | _=>[]
def argNames (T:Tmps) (o:Oper):List Nat:=o.op.operands.toList.flatMap fun x=>match opd T x with | some v=>names 6 v | none=>[]
def foot (P:Program) (T:Tmps) (es:Heap) (o:Oper):Heap × List Rng :=
 let all:Heap × List Rng :=
  let F:=reach es 1000 (argNames T o) (roNames es)
  (restrict es F,F.map fun n=>⟨n,0,HI⟩)
 match o.op with
 | .load t x=>match opd T x,sizeT P t with
  | some (.pointer (some a)),some n=>(glimpse es a.block a.off (a.off+n),[⟨a.block,a.off,a.off+n⟩])
  | _,_=>([],[])
 | .store _ x _=>match opd T x with
  | some (.pointer (some a))=>(glimpse es a.block 0 0,[⟨a.block,0,0⟩])
  | _=>([],[])
 | .call { callee:=.builtin b,args,.. }=>match b,args.toList with
  | .len,[x]=>match opd T x with
   | some (.slice _ _ _)=>([],[])
   | _=>all
  | .cap,_=>([],[])
  | _,_=>all
 | .call _=>all
 | .convert _ _ _=>all
 | .range _ _=>all
 | .next _ _=>all
 | .entry _=>all
 | .lookup _ _ _ _=>all
 | .mapUpdate _ _ _ _=>all
 | .insert _ _ _ _=>all
 | _=>([],[])
def usesOf (ops:Array Oper) (o:Oper):List Nat :=
 (match o.guard with
  | some (j,_)=>(match ops[j]? with | some q=>q.dst.toList | none=>[])
  | none=>[]) ++ o.op.operands.toList.filterMap fun | .tmp t=>some t | _=>none
structure Rec where
 mask:Nat
 uses:List Nat
 dst:Option Nat
 foot:List Rng
 wr:List Rng
def disj (a b:List Nat):Bool:=a.all fun n=>!has n b
def Rng.off (x y:Rng):Bool:=!Nat.beq x.n y.n || (Nat.blt x.hi HI && Nat.blt y.hi HI && (Nat.ble x.hi y.lo || Nat.ble y.hi x.lo))
def offs (a b:List Rng):Bool:=a.all fun x=>b.all fun y=>x.off y
def apart (x y:Rec):Bool :=
 disj x.dst.toList y.uses && disj y.dst.toList x.uses && disj x.dst.toList y.dst.toList && offs x.wr y.foot && offs y.wr x.foot && offs x.wr y.wr
def maskOf (masks:List Nat) (o:Oper):Nat:=o.after.toList.foldl (fun m e=>if Region.binds .any e then m ||| 2 ^ e.on ||| masks.getD e.on 0 else m) 0
def mixCells (old new:List (Option Value)) (lo hi:Nat):List (Option Value):=old.take lo ++ (new.drop lo).take (hi-lo) ++ old.drop hi
def mix1 (es G:Heap) (x:Rng):Heap:=match get G x.n with
 | none=>del es x.n
 | some b=>match Nat.ble HI x.hi with
  | true=>set es x.n b
  | false=>match b,get es x.n with
   | .cells new _ _ _,some (.cells old e more ro)=>match Nat.ble x.lo x.hi && Nat.ble x.hi old.length && Nat.beq new.length old.length with
    | true=>set es x.n (.cells (mixCells old new x.lo x.hi) e more ro)
    | false=>del es x.n
   | _,_=>del es x.n
def merge (es G:Heap):List Rng→Heap
 | []=>es
 | x :: r=>mix1 (merge es G r) G x
def allApart (x:Rec):Nat→List Rec→Bool
 | _,[]=>true
 | j,y :: r=>(x.mask.testBit j || apart x y) && allApart x (j+1) r
def drawA (P:Program) (call:FuncId→List Value→St→Option (Value × St)) (ops:Array Oper):List Oper→List Rec→Tmps→St→Option (Tmps × St)
 | [],_,T,s=>some (T,s)
 | o :: r,done,T,s=>match foot P T s.es o with
  | (G,F)=>match step1 P call ops o T ⟨G,[],s.c⟩ with
   | some (v,s')=>match o.after.toList.all (fun e=>!Region.binds .any e || Nat.blt e.on done.length) && allApart ⟨maskOf (done.map (·.mask)) o,usesOf ops o,o.dst,F,s'.wr⟩ 0 done with
    | true=>drawA P call ops r (done ++ [⟨maskOf (done.map (·.mask)) o,usesOf ops o,o.dst,F,s'.wr⟩]) (dstSet T o.dst v) ⟨merge s.es s'.es s'.wr,s'.wr.foldr mark s.wr,s'.c⟩
    | false=>none
   | none=>none
inductive Ex where
 | normal
 | exit (id:Nat)
 | goto (l:Nat)
 | ret
def resA (P:Program) (T:Tmps) (s:St):List ResultVar→Option (List Value)
 | []=>some []
 | .tmp t :: r=>match tmpAt T t,resA P T s r with
  | some v,some vs=>some (v :: vs)
  | _,_=>none
 | .cell a t :: r=>match tmpAt T a with
  | some (.pointer (some ad))=>match loadA P s t ad,resA P T s r with
   | some v,some vs=>some (v :: vs)
   | _,_=>none
  | _=>none
def packRes:List Value→Value
 | [v]=>v
 | vs=>.tuple vs.toArray
def startT:List Value→Nat→Tmps
 | [],n=>List.replicate n (some (.tuple #[]))
 | v :: r,n=>some v :: startT r (n-1)
def leave (s:St) (v:Value) (s':St):Value × St:=match fl v,s'.wr.all (fun x=>Nat.ble s.c x.n && Nat.blt x.n s'.c) with
 | true,true=>(v,⟨s.es,s.wr,s'.c⟩)
 | _,_=>(v,⟨s'.es,s'.wr.foldr mark s.wr,s'.c⟩)
def evC (P:Program) (sp:FuncId→List Value→St→Option (Value × St)):Nat→Code→Tmps→St→Option (Ex × Tmps × St)
 | 0,_,_,_=>none
 | f+1,c,T,s =>
  let call:FuncId→List Value→St→Option (Value × St):=fun g args s1=>match sp g args s1 with
   | some r=>some r
   | none=>match P.funcs[g]? with
    | some fn=>match fn.body with
     | some b=>match evC P sp f b (startT args fn.ntmps) ⟨s1.es,[],s1.c⟩ with
      | some (.normal,T',s')=>(resA P T' s' fn.results.toList).map fun vs=>leave s1 (packRes vs) s'
      | some (.ret,T',s')=>(resA P T' s' fn.results.toList).map fun vs=>leave s1 (packRes vs) s'
      | _=>none
     | none=>none
    | none=>none
  match c with
  | .skip=>some (.normal,T,s)
  | .label _=>some (.normal,T,s)
  | .exit id=>some (.exit id,T,s)
  | .ret=>some (.ret,T,s)
  | .seq a b=>match evC P sp f a T s with
   | some (.normal,T',s')=>evC P sp f b T' s'
   | e=>e
  | .cond x a b=>match opd T x with
   | some (.bool true)=>evC P sp f a T s
   | some (.bool false)=>evC P sp f b T s
   | _=>none
  | .block id b=>match evC P sp f b T s with
   | some (.exit i,T',s')=>match Nat.beq i id with
    | true=>some (.normal,T',s')
    | false=>some (.exit i,T',s')
   | e=>e
  | .scope b=>match evC P sp f b T s with
   | some (.goto _,_,_)=>none
   | e=>e
  | .loop b=>match evC P sp f b T s with
   | some (.normal,T',s')=>evC P sp f (.loop b) T' s'
   | e=>e
  | .region _ ops draw=>match draw with
   | false=>(seqA P call ops ops.toList T s).map fun (T',s')=>(.normal,T',s')
   | true=>(drawA P call ops ops.toList [] T s).map fun (T',s')=>(.normal,T',s')
  | _=>none
def evF (P:Program) (sp:FuncId→List Value→St→Option (Value × St)) (f:Nat) (g:FuncId) (args:List Value) (s:St):Option (Value × St):=match P.funcs[g]? with
 | some fn=>match fn.body with
  | some b=>match evC P sp f b (startT args fn.ntmps) ⟨s.es,[],s.c⟩ with
   | some (.normal,T',s')=>(resA P T' s' fn.results.toList).map fun vs=>leave s (packRes vs) s'
   | some (.ret,T',s')=>(resA P T' s' fn.results.toList).map fun vs=>leave s (packRes vs) s'
   | _=>none
  | none=>none
 | none=>none
end Ev
end Go.Proofs.YtjgmbjfijpmhdaaGreatDoor
namespace Go.Proofs.YtjgmbjfijpmhdaaGreatDoor
open Go Go.RowKit
namespace Ev
set_option linter.unusedVariables false
set_option linter.unusedSimpArgs false
theorem pureRun_run (P:Program) {α:Type} (s:Sem α):∀ (a:α) (w:World),pureRun P s=some a→s.run P w = .ok a w:=by
 induction s with
 | pure x=>intro a w h;simp only [pureRun] at h;cases h;rfl
 | program k ih=>intro a w h;exact ih P a w h
 | mark m k ih=>intro a w h;exact ih a w h
 | choose q k ih =>
  intro a w h
  simp only [pureRun] at h
  cases hq:q.forced with
  | true=>rw [hq] at h;simp only [Sem.run,hq,if_true];exact ih 0 a w h
  | false=>rw [hq] at h;cases h
 | _=>intro a w h;simp [pureRun] at h
abbrev Ren:=Nat→Option (Nat × Nat)
def Ren.le (ρ ρ':Ren):Prop:=∀ n k,ρ n=some k→ρ' n=some k
theorem Ren.le_refl (ρ:Ren):ρ.le ρ:=fun _ _ h=>h
theorem Ren.le_trans {a b c:Ren} (h:a.le b) (k:b.le c):a.le c:=fun n x e=>k n x (h n x e)
inductive VR (ρ:Ren):Value→Value→Prop
 | bool (b):VR ρ (.bool b) (.bool b)
 | int (k n):VR ρ (.int k n) (.int k n)
 | float (k n):VR ρ (.float k n) (.float k n)
 | complex (k n m):VR ρ (.complex k n m) (.complex k n m)
 | string (s):VR ρ (.string s) (.string s)
 | pnil:VR ρ (.pointer none) (.pointer none)
 | ptr {n:Nat} {k:Nat × Nat} (off:Nat) (sp:Option Nat):ρ n=some k→VR ρ (.pointer (some ⟨n,off,sp⟩)) (.pointer (some ⟨k.1,off,sp⟩))
 | snil (n c:Nat):VR ρ (.slice none n c) (.slice none n c)
 | slice {b:Nat} {k:Nat × Nat} (off:Nat) (sp:Option Nat) (n c c':Nat):ρ b=some k→n≤c'→(c<BIG→c'=c)→(BIG≤c→off+c' * (c-BIG)=k.2)→VR ρ (.slice (some ⟨b,off,sp⟩) n c) (.slice (some ⟨k.1,off,sp⟩) n c')
 | mnil:VR ρ (.map none) (.map none)
 | map {n:Nat} {k:Nat × Nat}:ρ n=some k→VR ρ (.map (some n)) (.map (some k.1))
 | nilFunc:VR ρ .nilFunc .nilFunc
 | nilIface:VR ρ .nilIface .nilIface
 | iface (t:TypeId) {x y:Value}:VR ρ x y→VR ρ (.iface t x) (.iface t y)
 | agg {a b:Array Value}:a.size=b.size→(∀ (i:Nat) (x y:Value),a[i]?=some x→b[i]?=some y→VR ρ x y)→VR ρ (.agg a) (.agg b)
 | tuple {a b:Array Value}:a.size=b.size→(∀ (i:Nat) (x y:Value),a[i]?=some x→b[i]?=some y→VR ρ x y)→VR ρ (.tuple a) (.tuple b)
 | func (f:Fn) {a b a' b':Array Value}:a.size=a'.size→(∀ (i:Nat) (x y:Value),a[i]?=some x→a'[i]?=some y→VR ρ x y)→b.size=b'.size→(∀ (i:Nat) (x y:Value),b[i]?=some x→b'[i]?=some y→VR ρ x y)→VR ρ (.func f a b) (.func f a' b')
theorem VR.mono {ρ ρ':Ren} (h:ρ.le ρ') {x y:Value} (v:VR ρ x y):VR ρ' x y:=by
 induction v with
 | bool b=>exact .bool b
 | int k n=>exact .int k n
 | float k n=>exact .float k n
 | complex k n m=>exact .complex k n m
 | string s=>exact .string s
 | pnil=>exact .pnil
 | ptr off sp e=>exact .ptr off sp (h _ _ e)
 | snil n c=>exact .snil n c
 | slice off sp n c c' e h1 h2 h3=>exact .slice off sp n c c' (h _ _ e) h1 h2 h3
 | mnil=>exact .mnil
 | map e=>exact .map (h _ _ e)
 | nilFunc=>exact .nilFunc
 | nilIface=>exact .nilIface
 | iface t _ ih=>exact .iface t ih
 | agg hs _ ih=>exact .agg hs (fun i x y h1 h2=>ih i x y h1 h2)
 | tuple hs _ ih=>exact .tuple hs (fun i x y h1 h2=>ih i x y h1 h2)
 | func f hs _ hs2 _ ih ih2=>exact .func f hs (fun i x y h1 h2=>ih i x y h1 h2) hs2 (fun i x y h1 h2=>ih2 i x y h1 h2)
def VRs (ρ:Ren) (a b:Array Value):Prop:=a.size=b.size ∧ ∀ (i:Nat) (x y:Value),a[i]?=some x→b[i]?=some y→VR ρ x y
def VRl (ρ:Ren) (a b:List Value):Prop:=a.length=b.length ∧ ∀ (i:Nat) (x y:Value),a[i]?=some x→b[i]?=some y→VR ρ x y
theorem VRl.mono {ρ ρ':Ren} (h:ρ.le ρ') {a b:List Value} (v:VRl ρ a b):VRl ρ' a b:=⟨v.1,fun i x y h1 h2=>(v.2 i x y h1 h2).mono h⟩
theorem VRs.list {ρ:Ren} {a b:Array Value} (h:VRs ρ a b):VRl ρ a.toList b.toList:=⟨by simpa using h.1,fun i x y h1 h2=>h.2 i x y (by simpa using h1) (by simpa using h2)⟩
theorem VRl.arr {ρ:Ren} {a b:List Value} (h:VRl ρ a b):VRs ρ a.toArray b.toArray:=⟨by simpa using h.1,fun i x y h1 h2=>h.2 i x y (by simpa using h1) (by simpa using h2)⟩
theorem VRl.nil (ρ:Ren):VRl ρ [] []:=⟨rfl,fun i x y h1 h2=>by simp at h1⟩
theorem VRl.cons {ρ:Ren} {x y:Value} {a b:List Value} (h:VR ρ x y) (t:VRl ρ a b):VRl ρ (x :: a) (y :: b) :=
 ⟨by simp [t.1],fun i u v h1 h2=>by
  cases i with
  | zero=>simp at h1 h2;subst h1;subst h2;exact h
  | succ i=>exact t.2 i u v (by simpa using h1) (by simpa using h2)⟩
theorem VRl.append {ρ:Ren} {a b c d:List Value} (h:VRl ρ a b) (k:VRl ρ c d):VRl ρ (a ++ c) (b ++ d) :=
 ⟨by simp [h.1,k.1],fun i u v h1 h2=>by
  by_cases hi:i<a.length
  ·rw [List.getElem?_append_left hi] at h1
   rw [List.getElem?_append_left (by rw [← h.1];exact hi)] at h2
   exact h.2 i u v h1 h2
  ·rw [List.getElem?_append_right (by omega)] at h1
   rw [List.getElem?_append_right (by rw [← h.1];omega),← h.1] at h2
   exact k.2 _ u v h1 h2⟩
theorem flat_eq (ρ:Ren):∀ (k:Nat) (v v':Value),flat k v=true→VR ρ v v'→v'=v
 | 0,_,_,h,_=>by simp [flat] at h
 | k+1,v,v',h,hv=>by
  have arr:∀ {a b:Array Value},a.toList.all (flat k)=true→a.size=b.size→(∀ (i:Nat) (x y:Value),a[i]?=some x→b[i]?=some y→VR ρ x y)→b=a:=fun {a b} h1 h2 h3=>by
   apply Array.ext (by omega)
   intro i hi1 hi2
   refine flat_eq ρ k a[i] b[i] (List.all_eq_true.1 h1 _ (by simp)) (h3 i _ _ (Array.getElem?_eq_getElem hi2) (Array.getElem?_eq_getElem hi1))
  cases hv with
  | ptr off sp e=>simp [flat] at h
  | slice off sp n c c' e h1 h2 h3=>simp [flat] at h
  | map e=>simp [flat] at h
  | iface t hx=>simp only [flat] at h;rw [flat_eq ρ k _ _ h hx]
  | agg hs hx=>simp only [flat] at h;rw [arr h hs hx]
  | tuple hs hx=>simp only [flat] at h;rw [arr h hs hx]
  | func f hs hx hs2 hx2 =>
   simp only [flat,Bool.and_eq_true] at h
   rw [arr h.1 hs hx,arr h.2 hs2 hx2]
  | _=>rfl
theorem flat_refl (ρ:Ren):∀ (k:Nat) (v:Value),flat k v=true→VR ρ v v
 | 0,_,h=>by simp [flat] at h
 | k+1,v,h=>by
  have arr:∀ {a:Array Value},a.toList.all (flat k)=true → ∀ (i:Nat) (x y:Value),a[i]?=some x→a[i]?=some y→VR ρ x y:=fun {a} h1 i x y hx hy=>by
   rw [hx] at hy
   cases hy
   exact flat_refl ρ k x (List.all_eq_true.1 h1 _ (Array.mem_toList_iff.2 (Array.mem_of_getElem? hx)))
  cases v with
  | bool b=>exact .bool b
  | int a b=>exact .int a b
  | float a b=>exact .float a b
  | complex a b c=>exact .complex a b c
  | string s=>exact .string s
  | pointer a=>cases a with
   | none=>exact .pnil
   | some a=>simp [flat] at h
  | slice a n c=>cases a with
   | none=>exact .snil n c
   | some a=>simp [flat] at h
  | map r=>cases r with
   | none=>exact .mnil
   | some r=>simp [flat] at h
  | chan r=>simp [flat] at h
  | func f a b=>simp only [flat,Bool.and_eq_true] at h;exact .func f rfl (arr h.1) rfl (arr h.2)
  | nilFunc=>exact .nilFunc
  | iface t x=>simp only [flat] at h;exact .iface t (flat_refl ρ k x h)
  | nilIface=>exact .nilIface
  | agg cs=>simp only [flat] at h;exact .agg rfl (arr h)
  | tuple cs=>simp only [flat] at h;exact .tuple rfl (arr h)
theorem fl_eq {ρ:Ren} {v v':Value} (h:fl v=true) (hv:VR ρ v v'):v'=v:=flat_eq ρ 6 v v' h hv
theorem fl_refl {v:Value} (ρ:Ren) (h:fl v=true):VR ρ v v:=flat_refl ρ 6 v h
theorem VR.cells {ρ:Ren} {v v':Value} (h:VR ρ v v'):VRs ρ v.cells v'.cells:=by
 have one:∀ {x y:Value},VR ρ x y→VRs ρ #[x] #[y]:=fun {x y} h=>⟨rfl,fun i u v h1 h2=>by
  cases i with
  | zero=>simp at h1 h2;subst h1;subst h2;exact h
  | succ i=>simp at h1⟩
 have hv:=h
 cases h with
 | agg hs hx=>exact ⟨hs,hx⟩
 | _=>exact one hv
end Ev
namespace Ev
set_option linter.unusedVariables false
set_option linter.unusedSimpArgs false
def isDead:Blk→Bool
 | .dead=>true
 | _=>false
def shp:Blk→Blk
 | .cells cs e m r=>.cells (cs.map fun _=>none) e m r
 | b=>b
def cel:Blk→Nat→Option Value
 | .cells cs _ _ _,i=>(cs[i]?).join
 | _,_=>none
def Le (b b':Blk):Prop:=shp b=shp b' ∧ ∀ i v,cel b i=some v→cel b' i=some v
theorem Le.refl (b:Blk):Le b b:=⟨rfl,fun _ _ h=>h⟩
abbrev Mem:=Nat→Option Blk
def Sub (es:Heap) (M:Mem):Prop:=∀ n b,get es n=some b → ∃ b',M n=some b'∧Le b b'
theorem shp_cells {b:Blk} {cs:List (Option Value)} {e:TypeId} {m r:Bool} (h:shp (.cells cs e m r)=shp b):∃ cs',b = .cells cs' e m r∧cs'.length=cs.length:=by
 cases b with
 | cells cs' e' m' r' =>
  simp only [shp,Blk.cells.injEq] at h
  obtain ⟨h1,rfl,rfl,rfl⟩:=h
  exact ⟨cs',rfl,by have:=congrArg List.length h1;simpa using this.symm⟩
 | _=>simp [shp] at h
theorem shp_other {b d:Blk} (h:shp b=shp d) (hb:∀ cs e m r,b ≠ .cells cs e m r):d=b:=by
 cases b with
 | cells cs e m r=>exact absurd rfl (hb cs e m r)
 | _=>cases d <;> simp_all [shp]
theorem shp_dead {b d:Blk} (h:shp b=shp d):isDead b=isDead d:=by
 cases b <;> cases d <;> simp_all [shp,isDead]
theorem shp_ro {b d:Blk} (h:shp b=shp d):isRo b=isRo d:=by
 cases b <;> cases d <;> simp_all [shp,isRo]
def ER (ρ:Ren) (e e':MapEntry):Prop:=VR ρ e.key e'.key∧VR ρ e.val e'.val∧e'.born=e.born
def BR (ρ:Ren):Blk→Obj→Prop
 | .cells cs e m ro,.cells c e' fz=>(ro=false→e'=e)∧cs.length≤c.size∧(m=false→c.size=cs.length)∧(ro=false → ∀ i,i<c.size → ¬ (fz.1≤i∧i<fz.2)∧fz.1≤fz.2) ∧ ∀ (i:Nat) (v:Value),(cs[i]?).join=some v → ∃ v',c[i]?=some v'∧VR ρ v v'
 | .map es cl,.map es' cl'=>cl'=cl∧es'.size=es.length ∧ ∀ (i:Nat) (x y:MapEntry),es[i]?=some x→es'[i]?=some y→ER ρ x y
 | .miter m a b c,.mapIter m' a' b' c'=>(match m with | none=>m'=none | some r=>∃ k,ρ r=some k∧m'=some k.1)∧a'=a∧b'=b.toArray∧c'=c
 | .siter s p,.stringIter s' p'=>s'=s∧p'=p
 | .dead,_=>True
 | _,_=>False
theorem BR.mono {ρ ρ':Ren} (h:ρ.le ρ') {b:Blk} {o:Obj} (hb:BR ρ b o):BR ρ' b o:=by
 cases b with
 | cells cs e m r =>
  cases o <;> try exact hb.elim
  obtain ⟨h1,h2,h3,h4,h5⟩:=hb
  exact ⟨h1,h2,h3,h4,fun i v hv=>let ⟨v',a,b⟩:=h5 i v hv;⟨v',a,b.mono h⟩⟩
 | map es cl =>
  cases o <;> try exact hb.elim
  obtain ⟨h1,h2,h3⟩:=hb
  exact ⟨h1,h2,fun i x y hx hy=>let ⟨a,b,c⟩:=h3 i x y hx hy;⟨a.mono h,b.mono h,c⟩⟩
 | miter m a b c =>
  cases o <;> try exact hb.elim
  obtain ⟨h1,h2⟩:=hb
  refine ⟨?_,h2⟩
  cases m with
  | none=>exact h1
  | some r=>exact let ⟨k,a,b⟩:=h1;⟨k,h _ _ a,b⟩
 | siter s p =>
  cases o <;> try exact hb.elim
  exact hb
 | dead=>cases o <;> trivial
theorem BR.less {ρ:Ren} {b b':Blk} {o:Obj} (hl:Le b b') (hb:BR ρ b' o):BR ρ b o:=by
 obtain ⟨hs,hc⟩:=hl
 cases b with
 | cells cs e m r =>
  obtain ⟨cs',rfl,hlen⟩:=shp_cells hs
  cases o <;> try exact hb.elim
  obtain ⟨h1,h2,h3,h4,h5⟩:=hb
  exact ⟨h1,by omega,fun h=>by rw [h3 h,hlen],h4,fun i v hv=>h5 i v (hc i v hv)⟩
 | map es cl=>rw [shp_other hs (by simp)] at hb;exact hb
 | miter m a b c=>rw [shp_other hs (by simp)] at hb;exact hb
 | siter s p=>rw [shp_other hs (by simp)] at hb;exact hb
 | dead=>rw [shp_other hs (by simp)] at hb;exact hb
def cellsIn:Obj→Nat
 | .cells c _ _=>c.size
 | _=>0
structure HR (ρ:Ren) (M:Mem) (base:Nat) (w:World):Prop where
 blk:∀ n b,M n=some b→isDead b=false → ∃ k o,ρ n=some k∧w.heap[k.1]?=some o∧BR ρ b o∧(isRo b=false→base≤k.1)∧cellsIn o=k.2
 inj:∀ n m b d k j,M n=some b→isDead b=false→M m=some d→isDead d=false→ρ n=some k→ρ m=some j→k.1=j.1→n=m
 base:base≤w.heap.size
def wrote (l:List Rng) (n:Nat) (i:Option Nat):Prop:=∃ x ∈ l,x.n=n∧match i with
 | none=>HI≤x.hi
 | some j=>HI≤x.hi∨(x.lo≤j∧j<x.hi)
def cov (l l':List Rng):Prop:=∀ n i,wrote l n i→wrote l' n i
theorem cov.refl (l:List Rng):cov l l:=fun _ _ h=>h
theorem cov.trans {a b c:List Rng} (h:cov a b) (k:cov b c):cov a c:=fun n i x=>k n i (h n i x)
theorem mark_cov (x:Rng) (l:List Rng):cov l (mark x l):=by
 intro n i ⟨y,hy,h⟩
 unfold mark
 split
 ·exact ⟨y,hy,h⟩
 ·exact ⟨y,List.mem_cons_of_mem _ hy,h⟩
theorem mark_self (x:Rng) (l:List Rng):cov [x] (mark x l):=by
 rintro n i ⟨y,hy,hn,h⟩
 obtain rfl:y=x:=by simpa using hy
 unfold mark
 split
 ·rename_i ha
  obtain ⟨z,hz,hw⟩:=List.any_eq_true.1 ha
  simp only [Rng.within,Bool.and_eq_true,Nat.beq_eq,Nat.ble_eq] at hw
  obtain ⟨⟨h1,h2⟩,h3⟩:=hw
  refine ⟨z,hz,by omega,?_⟩
  cases i with
  | none=>exact Nat.le_trans h h3
  | some j=>rcases h with h | h;exact .inl (Nat.le_trans h h3);exact .inr ⟨by omega,by omega⟩
 ·exact ⟨y,by simp,hn,h⟩
theorem foldr_cov:∀ (a l:List Rng),cov l (a.foldr mark l)∧cov a (a.foldr mark l)
 | [],l=>⟨cov.refl _,fun n i ⟨x,hx,_⟩=>by simp at hx⟩
 | x :: a,l=>by
  have ih:=foldr_cov a l
  refine ⟨ih.1.trans (mark_cov _ _),fun n i ⟨y,hy,h⟩=>?_⟩
  rcases List.mem_cons.1 hy with rfl | hy
  ·exact mark_self _ _ n i ⟨_,by simp,h⟩
  ·exact mark_cov _ _ n i (ih.2 n i ⟨y,hy,h⟩)
def agree (l:List Rng) (M M':Mem):Prop:=∀ n,¬ wrote l n none→(M n).map shp=(M' n).map shp ∧ ∀ j,¬ wrote l n (some j)→(M n).bind (cel · j)=(M' n).bind (cel · j)
theorem agree.refl (l:List Rng) (M:Mem):agree l M M:=fun _ _=>⟨rfl,fun _ _=>rfl⟩
theorem agree.trans {l:List Rng} {A B C:Mem} (h:agree l A B) (k:agree l B C):agree l A C:=fun n hn=>⟨(h n hn).1.trans (k n hn).1,fun j hj=>((h n hn).2 j hj).trans ((k n hn).2 j hj)⟩
theorem agree.mono {l l':List Rng} {A B:Mem} (h:agree l A B) (hc:cov l l'):agree l' A B:=fun n hn=>⟨(h n (fun x=>hn (hc _ _ x))).1,fun j hj=>(h n (fun x=>hn (hc _ _ x))).2 j (fun x=>hj (hc _ _ x))⟩
structure In (ρ:Ren) (M:Mem) (s:St) (base:Nat) (w0 w:World):Prop where
 sub:Sub s.es M
 hr:HR ρ M base w
 bel:Below base w0 w
def Done (ρ:Ren) (M:Mem) (s:St) (base:Nat) (w0:World) (s':St) (w':World) (Q:Ren→Prop):Prop :=
 ∃ ρ' M',ρ.le ρ'∧(∀ n,ρ' n=ρ n∨(s.c≤n∧n<s'.c))∧In ρ' M' s' base w0 w'∧agree s'.wr M M'∧Q ρ'
theorem nb {n m:Nat} (h:n≠m):Nat.beq n m=false:=by
 cases hb:Nat.beq n m with
 | false=>rfl
 | true=>exact absurd (Nat.eq_of_beq_eq_true hb) h
theorem get_set (n m:Nat) (b:Blk):∀ es:Heap,get (set es n b) m=if n=m then some b else get es m
 | []=>by
  simp only [set,get]
  by_cases h:n=m
  ·subst h;simp
  ·rw [if_neg h];have:Nat.beq n m=false:=nb h
   rw [this]
 | (k,x) :: r=>by
  have ih:=get_set n m b r
  simp only [set]
  by_cases hk:k=n
  ·subst hk
   have:Nat.beq k k=true:=by simp
   rw [this]
   simp only [get]
   by_cases h:k=m
   ·subst h;simp
   ·have h2:Nat.beq k m=false:=nb h
    rw [h2,if_neg h]
  ·have:Nat.beq k n=false:=nb hk
   rw [this]
   simp only [get]
   by_cases h:k=m
   ·subst h
    have h2:Nat.beq k k=true:=by simp
    rw [h2,if_neg (fun e=>hk e.symm)]
   ·have h2:Nat.beq k m=false:=nb h
    rw [h2]
    exact ih
theorem get_cons (k m:Nat) (b:Blk) (es:Heap):get ((k,b) :: es) m=if k=m then some b else get es m:=by
 simp only [get]
 by_cases h:k=m
 ·subst h;simp
 ·have h2:Nat.beq k m=false:=nb h
  rw [h2,if_neg h]
theorem In.see {ρ:Ren} {M:Mem} {s:St} {base:Nat} {w0 w:World} (h:In ρ M s base w0 w) {n:Nat} {b:Blk} (hg:get s.es n=some b) (hd:isDead b=false) :
 ∃ b' k o,M n=some b'∧Le b b'∧ρ n=some k∧w.heap[k.1]?=some o∧BR ρ b o∧BR ρ b' o∧(isRo b=false→base≤k.1)∧cellsIn o=k.2:=by
 obtain ⟨b',h1,h2⟩:=h.sub n b hg
 obtain ⟨k,o,h3,h4,h5,h6,h7⟩:=h.hr.blk n b' h1 (by rw [← shp_dead h2.1];exact hd)
 exact ⟨b',k,o,h1,h2,h3,h4,h5.less h2,h5,fun hr=>h6 (by rw [← shp_ro h2.1];exact hr),h7⟩
structure Same (w w':World):Prop where
 os:w'.os=w.os
 tape:w'.tape=w.tape
 output:w'.output=w.output
 heap:w'.heap=w.heap
theorem Same.refl (w:World):Same w w:=⟨rfl,rfl,rfl,rfl⟩
theorem In.same {ρ:Ren} {M:Mem} {s:St} {base:Nat} {w0 w w':World} (h:In ρ M s base w0 w) (e:Same w w'):In ρ M s base w0 w' :=
 ⟨h.sub,⟨fun n b hb hd=>by rw [e.heap];exact h.hr.blk n b hb hd,h.hr.inj,by rw [e.heap];exact h.hr.base⟩,h.bel.trans ⟨e.os,e.tape,e.output,by rw [e.heap];exact Nat.le_refl _,fun k _=>by rw [e.heap]⟩⟩
theorem Done.stay {ρ:Ren} {M:Mem} {s:St} {base:Nat} {w0 w w':World} {Q:Ren→Prop} (h:In ρ M s base w0 w) (e:Same w w') (q:Q ρ):Done ρ M s base w0 s w' Q :=
 ⟨ρ,M,ρ.le_refl,fun _=>.inl rfl,h.same e,agree.refl _ _,q⟩
theorem Done.fresh {ρ:Ren} {M:Mem} {s:St} {base:Nat} {w0 w w':World} {Q:Ren→Prop} {b:Blk} {o:Obj} (h:In ρ M s base w0 w)
 (hos:w'.os=w.os) (htape:w'.tape=w.tape) (hout:w'.output=w.output) (hheap:w'.heap=w.heap.push o) (hb:BR ρ b o) (hro:isRo b=false) (hc:ρ s.c=none)
 (q:∀ ρ':Ren,ρ.le ρ'→ρ' s.c=some (w.heap.size,cellsIn o)→Q ρ'):Done ρ M s base w0 (new s b) w' Q:=by
 have hle:ρ.le (fun n=>if n=s.c then some (w.heap.size,cellsIn o) else ρ n):=fun n k e=>by
  show (if n=s.c then _ else _)=_
  by_cases hn:n=s.c
  ·rw [hn,hc] at e;cases e
  ·rw [if_neg hn,e]
 have old:∀ k,k<w.heap.size→w'.heap[k]?=w.heap[k]?:=fun k hk=>by rw [hheap,Array.getElem?_push,if_neg (by omega)]
 have lt:∀ n b,M n=some b→isDead b=false → ∀ k,ρ n=some k→k.1<w.heap.size:=fun n b h1 h2 k h3=>by
  obtain ⟨k',o',e1,e2,_⟩:=h.hr.blk n b h1 h2
  rw [h3] at e1;cases e1
  exact (Array.getElem?_eq_some_iff.1 e2).1
 refine ⟨fun n=>if n=s.c then some (w.heap.size,cellsIn o) else ρ n,fun n=>if n=s.c then some b else M n,hle,fun n=>?_,⟨fun n d hd=>?_,⟨fun n d hd hdd=>?_,fun n m d d' k j h1 h2 h3 h4 h5 h6 h7=>?_,by rw [hheap];simp;have:=h.hr.base;omega⟩,h.bel.trans ⟨hos,htape,hout,by rw [hheap];simp,fun k hk=>old k (by have:=h.hr.base;omega)⟩⟩,?_,q _ hle (by simp)⟩
 ·by_cases hn:n=s.c
  ·exact .inr ⟨by omega,by show n<s.c+1;omega⟩
  ·exact .inl (by simp [hn])
 ·rw [show (new s b).es=(s.c,b) :: s.es from rfl,get_cons] at hd
  by_cases hn:s.c=n
  ·rw [if_pos hn] at hd;cases hd
   exact ⟨b,by simp [hn],Le.refl _⟩
  ·rw [if_neg hn] at hd
   obtain ⟨b',e1,e2⟩:=h.sub n d hd
   exact ⟨b',by show (if n=s.c then _ else _)=_;rw [if_neg (fun e=>hn e.symm)];exact e1,e2⟩
 ·by_cases hn:n=s.c
  ·subst hn
   simp only [if_true] at hd;cases hd
   exact ⟨(w.heap.size,cellsIn o),o,by simp,by rw [hheap];simp,hb.mono hle,fun _=>h.hr.base,rfl⟩
  ·simp only [if_neg hn] at hd
   obtain ⟨k,o',e1,e2,e3,e4,e5⟩:=h.hr.blk n d hd hdd
   exact ⟨k,o',by simp only [if_neg hn];exact e1,by rw [old k.1 (lt n d hd hdd k e1)];exact e2,e3.mono hle,e4,e5⟩
 ·by_cases hn:n=s.c
  ·by_cases hm:m=s.c
   ·omega
   ·simp only [if_neg hm] at h3 h6
    simp only [if_pos hn] at h5
    cases h5
    have:=lt m d' h3 h4 _ h6
    simp only at h7
    omega
  ·simp only [if_neg hn] at h1 h5
   by_cases hm:m=s.c
   ·simp only [if_pos hm] at h6
    cases h6
    have:=lt n d h1 h2 _ h5
    simp only at h7
    omega
   ·simp only [if_neg hm] at h3 h6
    exact h.hr.inj n m d d' k j h1 h2 h3 h4 h5 h6 h7
 ·intro n hn
  have hne:n≠s.c:=fun e=>hn (mark_self _ _ n none ⟨⟨s.c,0,HI⟩,by simp,e.symm,Nat.le_refl _⟩)
  simp [hne]
structure WSet (w w':World) (k:Nat) (o:Obj):Prop where
 os:w'.os=w.os
 tape:w'.tape=w.tape
 output:w'.output=w.output
 size:w'.heap.size=w.heap.size
 at_:w'.heap[k]?=some o
 other:∀ j,j≠k→w'.heap[j]?=w.heap[j]?
theorem Done.change {ρ:Ren} {M:Mem} {s:St} {base:Nat} {w0 w w':World} {Q:Ren→Prop} {n:Nat} {k:Nat × Nat} {b b' d:Blk} {o:Obj} {x:Rng} (h:In ρ M s base w0 w)
 (hM:M n=some b) (hl:isDead b=false) (hr:isRo b=false) (hk:ρ n=some k) (hw:WSet w w' k.1 o) (hcell:cellsIn o=k.2) (hb:BR ρ b' o) (hd:Le d b') (hro:isRo b'=false) (hdd:isDead b'=false) (hx:x.n=n)
 (hag:HI≤x.hi∨(shp b=shp b' ∧ ∀ j,¬ (x.lo≤j∧j<x.hi)→cel b j=cel b' j)) (q:Q ρ):Done ρ M s base w0 ⟨set s.es n d,mark x s.wr,s.c⟩ w' Q:=by
 have hbase:base≤k.1:=by
  obtain ⟨k',o',e1,e2,_,e4,_⟩:=h.hr.blk n b hM hl
  rw [hk] at e1;cases e1
  exact e4 hr
 refine ⟨ρ,fun m=>if m=n then some b' else M m,ρ.le_refl,fun _=>.inl rfl,⟨fun m f hf=>?_,⟨fun m f hf hfd=>?_,fun m1 m2 f1 f2 j1 j h1 h2 h3 h4 h5 h6 h7=>?_,by rw [hw.size];exact h.hr.base⟩,h.bel.trans ⟨hw.os,hw.tape,hw.output,Nat.le_of_eq hw.size.symm,fun j hj=>hw.other j (by omega)⟩⟩,?_,q⟩
 ·rw [get_set] at hf
  by_cases hn:n=m
  ·rw [if_pos hn] at hf;cases hf
   exact ⟨b',by simp [hn],hd⟩
  ·rw [if_neg hn] at hf
   obtain ⟨b2,e1,e2⟩:=h.sub m f hf
   exact ⟨b2,by simp only [if_neg (Ne.symm hn)];exact e1,e2⟩
 ·by_cases hn:m=n
  ·subst hn
   simp only [if_true] at hf;cases hf
   exact ⟨k,o,hk,hw.at_,hb,fun _=>hbase,hcell⟩
  ·simp only [if_neg hn] at hf
   obtain ⟨k',o',e1,e2,e3,e4,e5⟩:=h.hr.blk m f hf hfd
   have hne:k'.1≠k.1:=fun e=>hn (h.hr.inj m n f b k' k hf hfd hM hl e1 hk e)
   exact ⟨k',o',e1,by rw [hw.other k'.1 hne];exact e2,e3,e4,e5⟩
 ·have live:∀ m f,(if m=n then some b' else M m)=some f→isDead f=false → ∃ g,M m=some g∧isDead g=false:=fun m f e1 e2=>by
   by_cases hn:m=n
   ·exact ⟨b,by rw [hn];exact hM,hl⟩
   ·rw [if_neg hn] at e1;exact ⟨f,e1,e2⟩
  obtain ⟨g1,a1,a2⟩:=live m1 f1 h1 h2
  obtain ⟨g2,a3,a4⟩:=live m2 f2 h3 h4
  exact h.hr.inj m1 m2 g1 g2 j1 j a1 a2 a3 a4 h5 h6 h7
 ·intro m hm
  by_cases hn:m=n
  ·subst hn
   have h0:¬ HI≤x.hi:=fun e=>hm (mark_self _ _ m none ⟨x,by simp,hx,e⟩)
   obtain ⟨h1,h2⟩:=hag.resolve_left h0
   refine ⟨by simp [hM,h1],fun j hj=>?_⟩
   simp only [hM,if_true,Option.bind_some]
   exact h2 j (fun e=>hj (mark_self _ _ m (some j) ⟨x,by simp,hx,.inr e⟩))
  ·simp [hn]
theorem Done.kill {ρ:Ren} {M:Mem} {s:St} {base:Nat} {w0 w w':World} {Q:Ren→Prop} {n:Nat} (h:In ρ M s base w0 w) (e:Same w w') (q:Q ρ):Done ρ M s base w0 (put s n .dead) w' Q:=by
 have h:=h.same e
 refine ⟨ρ,fun m=>if m=n then some .dead else M m,ρ.le_refl,fun _=>.inl rfl,⟨fun m f hf=>?_,⟨fun m f hf hfd=>?_,fun m1 m2 f1 f2 j1 j h1 h2 h3 h4 h5 h6 h7=>?_,h.hr.base⟩,h.bel⟩,?_,q⟩
 ·rw [show (put s n .dead).es=set s.es n .dead from rfl,get_set] at hf
  by_cases hn:n=m
  ·rw [if_pos hn] at hf;cases hf
   exact ⟨.dead,by simp [hn],Le.refl _⟩
  ·rw [if_neg hn] at hf
   obtain ⟨b2,e1,e2⟩:=h.sub m f hf
   exact ⟨b2,by simp only [if_neg (Ne.symm hn)];exact e1,e2⟩
 ·by_cases hn:m=n
  ·simp only [if_pos hn] at hf;cases hf;simp [isDead] at hfd
  ·simp only [if_neg hn] at hf
   exact h.hr.blk m f hf hfd
 ·have live:∀ m f,(if m=n then some Blk.dead else M m)=some f→isDead f=false→M m=some f:=fun m f e1 e2=>by
   by_cases hn:m=n
   ·rw [if_pos hn] at e1;cases e1;simp [isDead] at e2
   ·rw [if_neg hn] at e1;exact e1
  exact h.hr.inj m1 m2 f1 f2 j1 j (live m1 f1 h1 h2) h2 (live m2 f2 h3 h4) h4 h5 h6 h7
 ·intro m hm
  have hne:m≠n:=fun e=>hm (mark_self _ _ m none ⟨⟨n,0,HI⟩,by simp,e.symm,Nat.le_refl _⟩)
  simp [hne]
theorem Done.bind {ρ:Ren} {M:Mem} {s s1 s2:St} {base:Nat} {w0 w1 w2:World} {Q Q':Ren→Prop} (h:Done ρ M s base w0 s1 w1 Q) (hc:s.c≤s1.c) (hc2:s1.c≤s2.c) (hcov:cov s1.wr s2.wr)
 (k:∀ ρ1 M1,ρ.le ρ1→(∀ n,ρ1 n=ρ n∨(s.c≤n∧n<s1.c))→In ρ1 M1 s1 base w0 w1→Q ρ1→Done ρ1 M1 s1 base w0 s2 w2 Q'):Done ρ M s base w0 s2 w2 Q':=by
 obtain ⟨ρ1,M1,a1,a2,a3,a4,a5⟩:=h
 obtain ⟨ρ2,M2,b1,b2,b3,b4,b5⟩:=k ρ1 M1 a1 a2 a3 a5
 refine ⟨ρ2,M2,Ren.le_trans a1 b1,fun n=>?_,b3,(a4.mono hcov).trans b4,b5⟩
 rcases b2 n with e | e
 ·rcases a2 n with e2 | e2
  ·exact .inl (e.trans e2)
  ·exact .inr ⟨e2.1,by omega⟩
 ·exact .inr ⟨by omega,e.2⟩
theorem Done.mono {ρ:Ren} {M:Mem} {s s1:St} {base:Nat} {w0 w1:World} {Q Q':Ren→Prop} (h:Done ρ M s base w0 s1 w1 Q) (k:∀ ρ',ρ.le ρ'→Q ρ'→Q' ρ'):Done ρ M s base w0 s1 w1 Q' :=
 let ⟨ρ1,M1,a1,a2,a3,a4,a5⟩:=h;⟨ρ1,M1,a1,a2,a3,a4,k ρ1 a1 a5⟩
end Ev
namespace Ev
set_option linter.unusedVariables false
set_option linter.unusedSimpArgs false
variable {P:Program}
theorem cell_of {w:World} {k:Nat} {c:Array Value} {e:TypeId} {fz:Nat × Nat} (h:w.heap[k]?=some (.cells c e fz)) (i:Nat):w.cell? ⟨k,i,none⟩=c[i]?:=by
 simp [World.cell?,h]
theorem frozen_of {w:World} {k:Nat} {c:Array Value} {e:TypeId} {fz:Nat × Nat} (h:w.heap[k]?=some (.cells c e fz)) {i:Nat} (hi:¬ (fz.1≤i∧i<fz.2)):w.frozen? ⟨k,i,none⟩=false:=by
 obtain ⟨a,b⟩:=fz
 simp only [World.frozen?,h]
 simp only [Bool.and_eq_false_imp,decide_eq_true_eq,decide_eq_false_iff_not]
 exact fun h1 h2=>hi ⟨h1,h2⟩
theorem run_isAggT {t:TypeId} {b:Bool} (h:isAggT P t=some b) (w:World):(isAgg t).run P w = .ok b w:=by
 unfold isAggT at h
 cases hu:P.underlying t with
 | none=>rw [hu] at h;cases h
 | some d =>
  rw [hu] at h
  have hr:=run_underlying hu w
  cases d <;> simp_all [isAgg]
theorem run_sizeT {t:TypeId} {n:Nat} (h:sizeT P t=some n) (w:World):(sizeOf t).run P w = .ok n w:=by
 unfold sizeT at h
 cases hi:P.info? t with
 | none=>rw [hi] at h;cases h
 | some i=>rw [hi] at h;simp only [Option.map_some,Option.some.injEq] at h;simp [sizeOf,typeInfo,hi,h]
theorem run_zeroT {t:TypeId} {z:List Value} (h:zeroT P t=some z) (w:World):∃ v,(zeroValue t).run P w = .ok v w∧v.cells.toList=z∧fl v=true:=by
 unfold zeroT at h
 split at h
 ·rename_i i hi
  split at h
  ·rename_i v hv
   split at h
   ·rename_i hf
    cases h
    exact ⟨v,by simp [zeroValue,typeInfo,hi,hv],rfl,hf⟩
   ·cases h
  ·cases h
 ·cases h
theorem known_spec:∀ (l:List (Option Value)) (xs:List Value),known l=some xs→l=xs.map some
 | [],xs,h=>by simp only [known] at h;cases h;rfl
 | none :: r,xs,h=>by simp [known] at h
 | some v :: r,xs,h=>by
  simp only [known] at h
  cases hr:known r with
  | none=>rw [hr] at h;cases h
  | some vs=>rw [hr] at h;cases h;rw [known_spec r vs hr];rfl
theorem cut_spec {cs:List (Option Value)} {off n:Nat} {xs:List Value} (h:cut cs off n=some xs):xs.length=n∧off+n≤cs.length ∧ ∀ j x,xs[j]?=some x→(cs[off+j]?).join=some x:=by
 unfold cut at h
 split at h
 ·rename_i hb
  have hb:=Nat.le_of_ble_eq_true hb
  have hk:=known_spec _ _ h
  have hlen:=congrArg List.length hk
  simp at hlen
  refine ⟨by omega,hb,fun j x hx=>?_⟩
  have h1:=congrArg (fun l=>l[j]?) hk
  simp only [List.getElem?_take,List.getElem?_drop,List.getElem?_map,hx,Option.map_some] at h1
  split at h1
  ·rw [h1];rfl
  ·cases h1
 ·cases h
theorem reals {ρ:Ren} {cs:List (Option Value)} {c:Array Value} (h:∀ (i:Nat) (v:Value),(cs[i]?).join=some v → ∃ v',c[i]?=some v'∧VR ρ v v') {off n:Nat} {xs:List Value} (hc:cut cs off n=some xs) :
 ∃ ys,VRl ρ xs ys∧ys.length=n ∧ ∀ j v,ys[j]?=some v→c[off+j]?=some v:=by
 obtain ⟨h1,h2,h3⟩:=cut_spec hc
 have hsz:∀ j,j<n→off+j<c.size:=fun j hj=>by
  obtain ⟨v',e,_⟩:=h _ _ (h3 j xs[j] (List.getElem?_eq_getElem (by omega)))
  exact (Array.getElem?_eq_some_iff.1 e).1
 have hl:((c.toList.drop off).take n).length=n:=by
  rw [List.length_take,List.length_drop,Array.length_toList]
  cases n with
  | zero=>simp
  | succ m=>have:=hsz m (by omega);omega
 have hget:∀ j v,((c.toList.drop off).take n)[j]?=some v→c[off+j]?=some v:=fun j v hv=>by
  rw [List.getElem?_take] at hv
  split at hv
  ·rw [List.getElem?_drop,Array.getElem?_toList] at hv;exact hv
  ·cases hv
 refine ⟨_,⟨by omega,fun i x y hx hy=>?_⟩,hl,hget⟩
 obtain ⟨v',e1,e2⟩:=h _ _ (h3 i x hx)
 rw [hget i y hy] at e1
 cases e1
 exact e2
theorem add_off (k off i:Nat):(⟨k,off,none⟩:Addr).add i=⟨k,off+i,none⟩:=by unfold Addr.add;split <;> simp_all
theorem run_cells {w:World} {k:Nat} {c:Array Value} {e:TypeId} {fz:Nat × Nat} (h:w.heap[k]?=some (.cells c e fz)) {off:Nat} {ys:List Value} (hy:∀ j v,ys[j]?=some v→c[off+j]?=some v) :
 (loadCells ⟨k,off,none⟩ ys.length).run P w = .ok ys.toArray w :=
 run_loadCells_list w ⟨k,off,none⟩ ys (fun j v hv=>by rw [add_off,cell_of h];exact hy j v hv)
theorem loadA_run {s:St} {t:TypeId} {a:Addr} {v:Value} (h:loadA P s t a=some v) {ρ:Ren} {M:Mem} {base:Nat} {w0 w:World} (hI:In ρ M s base w0 w) :
 a.spot=none ∧ ∀ k,ρ a.block=some k → ∃ v',VR ρ v v'∧(loadVar t ⟨k.1,a.off,none⟩).run P w = .ok v' w:=by
 unfold loadA at h
 split at h
 ·rename_i cs e m r hsp hg
  refine ⟨hsp,fun k hk=>?_⟩
  obtain ⟨b',k',o,_,_,e1,e2,e3,_,_,_⟩:=hI.see hg rfl
  rw [hk] at e1;cases e1
  cases o <;> try exact e3.elim
  rename_i c e' fz
  obtain ⟨f1,f2,f3,f4,f5⟩:=e3
  split at h
  ·rename_i ha
   split at h
   ·rename_i n hn
    cases hc:cut cs a.off n with
    | none=>rw [hc] at h;cases h
    | some xs =>
     rw [hc] at h;cases h
     obtain ⟨ys,g1,g2,g3⟩:=reals f5 hc
     refine ⟨.agg ys.toArray,.agg g1.arr.1 g1.arr.2,?_⟩
     have:=run_cells (P:=P) e2 g3
     rw [g2] at this
     simp [loadVar,run_isAggT ha,run_sizeT hn,this]
   ·cases h
  ·rename_i ha
   split at h
   ·rename_i x hc
    cases h
    obtain ⟨ys,g1,g2,g3⟩:=reals f5 hc
    obtain ⟨y,rfl⟩:∃ y,ys=[y]:=by
     cases ys with
     | nil=>simp at g2
     | cons y r=>cases r with
      | nil=>exact ⟨y,rfl⟩
      | cons z r=>simp at g2
    refine ⟨y,g1.2 0 _ _ rfl rfl,?_⟩
    have hcell:w.cell? ⟨k.1,a.off,none⟩=some y:=by rw [cell_of e2];have:=g3 0 y rfl;simpa using this
    simp [loadVar,run_isAggT ha,hcell]
   ·cases h
  ·cases h
 ·cases h
theorem setCells_set (k:Nat) (e:TypeId) (fz:Nat × Nat):∀ (xs:List Value) (off:Nat) (c:Array Value) (w:World),w.heap[k]?=some (.cells c e fz)→off+xs.length≤c.size →
 ∃ c':Array Value,WSet w (w.setCells k off xs) k (.cells c' e fz)∧c'.size=c.size ∧ ∀ i,c'[i]?=if off≤i∧i<off+xs.length then xs[i-off]? else c[i]?
 | [],off,c,w,h,_=>⟨c,⟨rfl,rfl,rfl,rfl,h,fun _ _=>rfl⟩,rfl,fun i=>by rw [if_neg (by simp)]⟩
 | x :: r,off,c,w,h,hs=>by
  simp only [List.length_cons] at hs
  have h1:(w.setCell ⟨k,off,none⟩ x).heap[k]?=some (.cells (c.setIfInBounds off x) e fz):=by
   simp [World.setCell,Array.getElem?_modify,h]
  have ho:∀ j,j≠k→(w.setCell ⟨k,off,none⟩ x).heap[j]?=w.heap[j]?:=fun j hj=>by
   simp only [World.setCell,Array.getElem?_modify]
   rw [if_neg (Ne.symm hj)]
  obtain ⟨c',hw,hsz,hg⟩:=setCells_set k e fz r (off+1) (c.setIfInBounds off x) _ h1 (by simp;omega)
  refine ⟨c',⟨hw.os,hw.tape,hw.output,by rw [World.setCells,hw.size];simp [World.setCell],hw.at_,fun j hj=>(hw.other j hj).trans (ho j hj)⟩,by simpa using hsz,fun i=>?_⟩
  rw [hg i]
  by_cases h2:off+1≤i∧i<off+1+r.length
  ·rw [if_pos h2,if_pos (by simp;omega)]
   obtain ⟨j,hj⟩:∃ j,i-off=j+1:=⟨i-off-1,by omega⟩
   rw [hj,show i-(off+1)=j by omega];rfl
  ·rw [if_neg h2]
   by_cases h3:i=off
   ·subst h3
    rw [if_pos (by simp),Nat.sub_self,Array.getElem?_setIfInBounds]
    simp;try omega
   ·rw [if_neg (by simp;omega),Array.getElem?_setIfInBounds]
    rw [if_neg (Ne.symm h3)]
theorem oneCell_real {ρ:Ren} {x y:Value} (h:VR ρ x y) (hx:oneCell x=true):y.oneCell'=true:=by
 cases h <;> first | rfl | simp [oneCell] at hx
theorem over_spec {cs:List (Option Value)} {off:Nat} {xs:List Value} {ds:List (Option Value)} (h:over cs off xs=some ds) :
 off+xs.length≤cs.length∧(∀ x ∈ xs,oneCell x=true)∧ds.length=cs.length ∧ ∀ i,(ds[i]?).join=if off≤i∧i<off+xs.length then xs[i-off]? else (cs[i]?).join:=by
 unfold over at h
 split at h
 ·rename_i h1 h2
  have h1:=Nat.le_of_ble_eq_true h1
  cases h
  refine ⟨h1,fun x hx=>List.all_eq_true.1 h2 x hx,by simp;omega,fun i=>?_⟩
  by_cases ha:i<off
  ·rw [if_neg (by omega),List.append_assoc,List.getElem?_append_left (by simp;omega),List.getElem?_take,if_pos ha]
  ·by_cases hb:i<off+xs.length
   ·rw [if_pos (by omega),List.append_assoc,List.getElem?_append_right (by simp;omega),List.getElem?_append_left (by simp;omega),List.getElem?_map]
    rw [show i-(cs.take off).length=i-off by simp;omega]
    cases xs[i-off]? <;> rfl
   ·rw [if_neg (by omega),List.getElem?_append_right (by simp;omega),List.getElem?_drop]
    congr 2
    simp;omega
 ·cases h
theorem writeA_run {s s':St} {a:Addr} {xs:List Value} (h:writeA s a xs=some s') {ρ:Ren} {M:Mem} {base:Nat} {w0 w:World} (hI:In ρ M s base w0 w) {ys:List Value} (hx:VRl ρ xs ys) :
 a.spot=none∧s'.c=s.c∧cov s.wr s'.wr ∧ ∀ k,ρ a.block=some k → ∃ w',(storeCells ⟨k.1,a.off,none⟩ ys).run P w = .ok () w' ∧ ∀ Q:Ren→Prop,Q ρ→Done ρ M s base w0 s' w' Q:=by
 unfold writeA at h
 split at h
 ·rename_i cs e m hsp hg
  split at h
  ·rename_i ds hov
   cases h
   refine ⟨hsp,rfl,mark_cov _ _,fun k hk=>?_⟩
   obtain ⟨b',k',o,hM,hle,e1,e2,e3,e3',e4,e5⟩:=hI.see hg rfl
   rw [hk] at e1;cases e1
   obtain ⟨cs',rfl,hlen⟩:=shp_cells hle.1
   cases o <;> try exact e3.elim
   rename_i c e' fz
   obtain ⟨f1,f2,f3,f4,f5⟩:=e3
   obtain rfl:=f1 rfl
   have f4:=f4 rfl
   obtain ⟨_,g2,g3,g4,g5⟩:=e3'
   obtain ⟨o1,o2,o3,o4⟩:=over_spec hov
   have hyl:ys.length=xs.length:=hx.1.symm
   obtain ⟨c',hw,hsz,hc'⟩:=setCells_set k.1 _ fz ys a.off c w e2 (by omega)
   refine ⟨w.setCells k.1 a.off ys,?_,fun Q q=>?_⟩
   ·have:=run_storeCells_cells (P:=P) k.1 a.off ys 0 w (fun j hj=>by
     rw [Nat.add_zero,cell_of e2,Array.getElem?_eq_getElem (by omega)];rfl) (fun j hj=>by
     rw [Nat.add_zero];exact frozen_of e2 (f4 _ (by omega)).1) (fun v hv=>by
     obtain ⟨i,hi,rfl⟩:=List.mem_iff_getElem.1 hv
     exact oneCell_real (hx.2 i _ _ (List.getElem?_eq_getElem (by omega)) (List.getElem?_eq_getElem hi)) (o2 _ (by simp)))
    simpa using this
   ·obtain ⟨ds',hov'⟩:∃ ds',over cs' a.off xs=some ds':=by
     unfold over
     rw [show Nat.ble (a.off+xs.length) cs'.length=true from Nat.ble_eq_true_of_le (by omega),show xs.all oneCell=true from List.all_eq_true.2 o2]
     exact ⟨_,rfl⟩
    obtain ⟨p1,p2,p3,p4⟩:=over_spec hov'
    refine Done.change (b:=.cells cs' _ m false) (b':=.cells ds' _ m false) (d:=.cells ds _ m false) hI hM rfl rfl hk hw (by simp only [cellsIn] at e5 ⊢;omega) ⟨fun _=>rfl,by omega,fun hm=>by rw [hsz,g3 hm,p3],fun _ i hi=>f4 i (by omega),fun i v hv=>?_⟩ ⟨?_,fun i v hv=>?_⟩ rfl rfl rfl (.inr ⟨?_,fun j hj=>?_⟩) q
    ·rw [p4] at hv
     rw [hc' i,hyl]
     split at hv
     ·rename_i hin
      rw [if_pos hin]
      have hlt:i-a.off<ys.length:=by omega
      exact ⟨ys[i-a.off],List.getElem?_eq_getElem hlt,hx.2 _ _ _ hv (List.getElem?_eq_getElem hlt)⟩
     ·rename_i hin
      rw [if_neg hin]
      exact g5 i v hv
    ·have:ds.map (fun _=>(none:Option Value))=ds'.map (fun _=>none):=by
      apply List.ext_getElem?
      intro i
      simp only [List.getElem?_map]
      by_cases hi:i<ds.length
      ·rw [List.getElem?_eq_getElem hi,List.getElem?_eq_getElem (show i<ds'.length by omega)];rfl
      ·rw [List.getElem?_eq_none (by omega),List.getElem?_eq_none (by omega)]
     simp only [shp,this]
    ·simp only [cel] at hv ⊢
     rw [o4] at hv
     rw [p4]
     split at hv
     ·rename_i hin;rw [if_pos hin];exact hv
     ·rename_i hin;rw [if_neg hin];exact hle.2 i v hv
    ·have:cs'.map (fun _=>(none:Option Value))=ds'.map (fun _=>none):=by
      apply List.ext_getElem?
      intro i
      simp only [List.getElem?_map]
      by_cases hi:i<ds'.length
      ·rw [List.getElem?_eq_getElem hi,List.getElem?_eq_getElem (show i<cs'.length by omega)];rfl
      ·rw [List.getElem?_eq_none (by omega),List.getElem?_eq_none (by omega)]
     simp only [shp,this]
    ·simp only [cel]
     rw [p4,if_neg hj]
  ·cases h
 ·cases h
theorem storeA_run {s s':St} {t:TypeId} {a:Addr} {v v':Value} (h:storeA P s t a v=some s') {ρ:Ren} {M:Mem} {base:Nat} {w0 w:World} (hI:In ρ M s base w0 w) (hv:VR ρ v v') :
 a.spot=none∧s'.c=s.c∧cov s.wr s'.wr ∧ ∀ k,ρ a.block=some k → ∃ w',(storeVar t ⟨k.1,a.off,none⟩ v').run P w = .ok () w' ∧ ∀ Q:Ren→Prop,Q ρ→Done ρ M s base w0 s' w' Q:=by
 unfold storeA at h
 split at h
 ·rename_i n hn
  split at h
  ·rename_i hb
   have hb:=Nat.eq_of_beq_eq_true hb
   have hc:=hv.cells
   obtain ⟨h1,h2,h3,h4⟩:=writeA_run (P:=P) h hI hc.list
   refine ⟨h1,h2,h3,fun k hk=>?_⟩
   obtain ⟨w',h5,h6⟩:=h4 k hk
   refine ⟨w',?_,h6⟩
   have:v'.cells.size=n:=by rw [← hc.1];exact hb
   simp [storeVar,run_sizeT hn,this,h5]
  ·cases h
 ·cases h
theorem rowA_run {s s':St} {e:TypeId} {xs:List Value} {a:Addr} (h:rowA s e xs=some (a,s')) {ρ:Ren} {M:Mem} {base:Nat} {w0 w:World} (hI:In ρ M s base w0 w) {ys:List Value} (hx:VRl ρ xs ys) (hc:ρ s.c=none) :
 a=⟨s.c,0,none⟩∧s'.c=s.c+1∧cov s.wr s'.wr ∧ ∃ w',(newRow e ys.toArray).run P w = .ok ⟨w.heap.size,0,none⟩ w' ∧ ∀ Q:Ren→Prop,(∀ ρ':Ren,ρ.le ρ'→ρ' s.c=some (w.heap.size,ys.length)→Q ρ')→Done ρ M s base w0 s' w' Q:=by
 unfold rowA at h
 split at h
 ·cases h
  refine ⟨rfl,rfl,mark_cov _ _, { w with heap:=w.heap.push (.cells ys.toArray e) },by simp [newRow,newObj,Sem.run],fun Q q=>?_⟩
  refine Done.fresh (o:=.cells ys.toArray e) hI rfl rfl rfl rfl ⟨fun _=>rfl,by simp [hx.1],fun _=>by simp [hx.1],fun _ i _=>by simp,fun i v hv=>?_⟩ rfl hc (by simpa [cellsIn] using q)
  rw [List.getElem?_map] at hv
  cases hxi:xs[i]? with
  | none=>rw [hxi] at hv;cases hv
  | some x =>
   rw [hxi] at hv;cases hv
   have hlt:i<ys.length:=by rw [← hx.1];exact (List.getElem?_eq_some_iff.1 hxi).1
   exact ⟨ys[i],by simp [hlt],hx.2 i _ _ hxi (List.getElem?_eq_getElem hlt)⟩
 ·cases h
end Ev
namespace Ev
set_option linter.unusedVariables false
set_option linter.unusedSimpArgs false
variable {P:Program}
def OpOk (P:Program) (ρ:Ren) (M:Mem) (s:St) (base:Nat) (w0 w:World) (sem:Sem Next) (r:Res) (s':St):Prop :=
 s.c≤s'.c∧cov s.wr s'.wr∧match r with
  | .val v=>∃ y w',sem.run P w = .ok (.value y) w'∧Done ρ M s base w0 s' w' (fun ρ'=>VR ρ' v y)
  | .skip=>∃ w',sem.run P w = .ok .skip w'∧Done ρ M s base w0 s' w' (fun _=>True)
  | .enter f args=>s'=s ∧ ∃ args':Array Value,sem.run P w = .ok (.enter f args') w∧VRl ρ args args'.toList
section
variable {ρ:Ren} {M:Mem} {s:St} {base:Nat} {w0 w:World}
theorem ok_val (hI:In ρ M s base w0 w) {sem:Sem Next} {v y:Value} (hr:sem.run P w = .ok (.value y) w) (hv:VR ρ v y):OpOk P ρ M s base w0 w sem (.val v) s :=
 ⟨Nat.le_refl _,cov.refl _,y,w,hr,Done.stay hI (Same.refl w) hv⟩
theorem val_inv {v:Value} {t s':St} {r:Res} (h:val v t=some (r,s')):r = .val v∧s'=t:=by
 unfold val at h;cases h;exact ⟨rfl,rfl⟩
def Opd (ρ:Ren) (T:Tmps) (a:Act) (xs:List Operand):Prop:=∀ x ∈ xs,∀ v,opd T x=some v→VR ρ v (a.eval x)
theorem opds_run {T:Tmps} {a:Act}:∀ {xs:List Operand} {vs:List Value},opds T xs=some vs→Opd ρ T a xs→VRl ρ vs (xs.map a.eval)
 | [],vs,h,_=>by simp only [opds] at h;cases h;exact VRl.nil ρ
 | x :: r,vs,h,hO=>by
  simp only [opds] at h
  cases hx:opd T x with
  | none=>rw [hx] at h;cases h
  | some v =>
   rw [hx] at h
   cases hr:opds T r with
   | none=>rw [hr] at h;cases h
   | some us =>
    rw [hr] at h;cases h
    exact VRl.cons (hO x (by simp) v hx) (opds_run hr (fun y hy=>hO y (by simp [hy])))
theorem opdO_run {T:Tmps} {a:Act} {x:Option Operand} {v:Option Value} (h:opdO T x=some v) (hO:Opd ρ T a x.toList):(x=none∧v=none) ∨ ∃ o u,x=some o∧v=some u∧VR ρ u (a.eval o):=by
 cases x with
 | none=>simp only [opdO] at h;cases h;exact .inl ⟨rfl,rfl⟩
 | some o =>
  simp only [opdO] at h
  cases ho:opd T o with
  | none=>rw [ho] at h;cases h
  | some u=>rw [ho] at h;cases h;exact .inr ⟨o,u,rfl,rfl,hO o (by simp) u ho⟩
theorem move_ok (hI:In ρ M s base w0 w) {T:Tmps} {a:Act} {o:Oper} {x:Operand} (ho:o.op = .move x∨o.op = .assign x) (hO:Opd ρ T a o.op.operands.toList) {r:Res} {s':St} (h:((opd T x).bind fun v=>val v s)=some (r,s')) :
 OpOk P ρ M s base w0 w (execOp a.eval o) r s':=by
 cases hx:opd T x with
 | none=>rw [hx] at h;cases h
 | some v =>
  rw [hx] at h
  obtain ⟨rfl,rfl⟩:=val_inv h
  have hv:VR ρ v (a.eval x):=hO x (by rcases ho with e | e <;> simp [e,Op.operands]) v hx
  exact ok_val hI (by rcases ho with e | e <;> simp [execOp,e]) hv
theorem pick_ok (hI:In ρ M s base w0 w) {T:Tmps} {a:Act} {o:Oper} {c x y:Operand} (ho:o.op = .pick c x y) (hO:Opd ρ T a o.op.operands.toList) {r:Res} {s':St}
 (h:(match opd T c with
  | some (.bool true)=>(opd T x).bind fun v=>val v s
  | some (.bool false)=>(opd T y).bind fun v=>val v s
  | _=>none)=some (r,s')):OpOk P ρ M s base w0 w (execOp a.eval o) r s':=by
 rw [ho] at hO
 simp only [Op.operands] at hO
 split at h
 ·rename_i hc
  have hc:=hO c (by simp) _ hc
  have hce:a.eval c = .bool true:=by generalize a.eval c=u at hc;cases hc;rfl
  cases hx:opd T x with
  | none=>rw [hx] at h;cases h
  | some v =>
   rw [hx] at h
   obtain ⟨rfl,rfl⟩:=val_inv h
   exact ok_val hI (by simp [execOp,ho,asBool,hce]) (hO x (by simp) v hx)
 ·rename_i hc
  have hc:=hO c (by simp) _ hc
  have hce:a.eval c = .bool false:=by generalize a.eval c=u at hc;cases hc;rfl
  cases hx:opd T y with
  | none=>rw [hx] at h;cases h
  | some v =>
   rw [hx] at h
   obtain ⟨rfl,rfl⟩:=val_inv h
   exact ok_val hI (by simp [execOp,ho,asBool,hce]) (hO y (by simp) v hx)
 ·cases h
theorem alloc_ok (hI:In ρ M s base w0 w) {a:Act} {o:Oper} {e:TypeId} (ho:o.op = .alloc e) {r:Res} {s':St} (hF:∀ n,s.c≤n→n<s'.c→ρ n=none)
 (h:((zeroT P e).bind fun z=>(rowA s e z).bind fun (ad,s1)=>val (.pointer (some ad)) s1)=some (r,s')):OpOk P ρ M s base w0 w (execOp a.eval o) r s':=by
 cases hz:zeroT P e with
 | none=>rw [hz] at h;cases h
 | some z =>
  rw [hz] at h
  simp only [Option.bind_some] at h
  cases hr:rowA s e z with
  | none=>rw [hr] at h;cases h
  | some p =>
   obtain ⟨ad,s1⟩:=p
   rw [hr] at h
   have hrow:=hr
   have hsc:s1.c=s.c+1:=by unfold rowA at hr;split at hr <;> cases hr;rfl
   obtain ⟨rfl,rfl⟩:=val_inv h
   obtain ⟨v,h1,h2,h3⟩:=run_zeroT hz w
   obtain ⟨rfl,g2,g3,w',g4,g5⟩:=rowA_run (P:=P) hrow hI (ys:=v.cells.toList) (by rw [← h2];exact (fl_refl ρ h3).cells.list) (hF s.c (Nat.le_refl _) (by omega))
   refine ⟨by omega,g3,.pointer (some ⟨w.heap.size,0,none⟩),w',?_,g5 _ (fun ρ' hl hp=>.ptr 0 none hp)⟩
   simp [execOp,ho,Instr.alloc,h1,newVar,g4]
theorem box_ok (hI:In ρ M s base w0 w) {T:Tmps} {a:Act} {o:Oper} {e:TypeId} {x:Operand} (ho:o.op = .box e x) (hO:Opd ρ T a o.op.operands.toList) {r:Res} {s':St} (hF:∀ n,s.c≤n→n<s'.c→ρ n=none)
 (h:((opd T x).bind fun v=>(rowA s e v.cells.toList).bind fun (ad,s1)=>val (.pointer (some ad)) s1)=some (r,s')):OpOk P ρ M s base w0 w (execOp a.eval o) r s':=by
 cases hx:opd T x with
 | none=>rw [hx] at h;cases h
 | some v =>
  rw [hx] at h
  simp only [Option.bind_some] at h
  cases hr:rowA s e v.cells.toList with
  | none=>rw [hr] at h;cases h
  | some p =>
   obtain ⟨ad,s1⟩:=p
   rw [hr] at h
   have hsc:s1.c=s.c+1:=by unfold rowA at hr;split at hr <;> cases hr;rfl
   obtain ⟨rfl,rfl⟩:=val_inv h
   have hv:VR ρ v (a.eval x):=hO x (by simp [ho,Op.operands]) v hx
   obtain ⟨rfl,g2,g3,w',g4,g5⟩:=rowA_run (P:=P) hr hI hv.cells.list (hF s.c (Nat.le_refl _) (by omega))
   refine ⟨by omega,g3,.pointer (some ⟨w.heap.size,0,none⟩),w',?_,g5 _ (fun ρ' hl hp=>.ptr 0 none hp)⟩
   simp only [Array.toArray_toList] at g4
   simp [execOp,ho,Instr.box,newVar,g4]
theorem load_ok (hI:In ρ M s base w0 w) {T:Tmps} {a:Act} {o:Oper} {t:TypeId} {x:Operand} (ho:o.op = .load t x) (hO:Opd ρ T a o.op.operands.toList) {r:Res} {s':St}
 (h:(match opd T x with
  | some (.pointer (some ad))=>(loadA P s t ad).bind fun v=>val v s
  | _=>none)=some (r,s')):OpOk P ρ M s base w0 w (execOp a.eval o) r s':=by
 split at h
 ·rename_i ad hx
  have hv:=hO x (by simp [ho,Op.operands]) _ hx
  cases hl:loadA P s t ad with
  | none=>rw [hl] at h;cases h
  | some v =>
   rw [hl] at h
   obtain ⟨rfl,rfl⟩:=val_inv h
   obtain ⟨h1,h2⟩:=loadA_run hl hI
   obtain ⟨b,off,sp⟩:=ad
   cases h1
   generalize hex:a.eval x=u at hv
   cases hv with
   | ptr off sp e =>
    obtain ⟨y,h3,h4⟩:=h2 _ e
    exact ok_val hI (by simp [execOp,ho,Instr.loadAt,Instr.sureAddr,hex,h4]) h3
 ·cases h
theorem store_ok (hI:In ρ M s base w0 w) {T:Tmps} {a:Act} {o:Oper} {t:TypeId} {x y:Operand} (ho:o.op = .store t x y) (hO:Opd ρ T a o.op.operands.toList) {r:Res} {s':St}
 (h:(match opd T x,opd T y with
  | some (.pointer (some ad)),some v=>(storeA P s t ad v).bind fun s1=>some (Res.skip,s1)
  | _,_=>none)=some (r,s')):OpOk P ρ M s base w0 w (execOp a.eval o) r s':=by
 split at h
 ·rename_i ad v hx hy
  have hp:=hO x (by simp [ho,Op.operands]) _ hx
  have hv:=hO y (by simp [ho,Op.operands]) _ hy
  cases hl:storeA P s t ad v with
  | none=>rw [hl] at h;cases h
  | some s1 =>
   rw [hl] at h
   simp only [Option.bind_some,Option.some.injEq,Prod.mk.injEq] at h
   obtain ⟨rfl,rfl⟩:=h
   obtain ⟨h1,h2,h3,h4⟩:=storeA_run hl hI hv
   obtain ⟨b,off,sp⟩:=ad
   cases h1
   generalize hex:a.eval x=u at hp
   cases hp with
   | ptr off sp e =>
    obtain ⟨w',h5,h6⟩:=h4 _ e
    exact ⟨by omega,h3,w',by simp [execOp,ho,Instr.storeAt,Instr.sureAddr,hex,h5],h6 _ trivial⟩
 ·cases h
theorem nilCheck_ok (hI:In ρ M s base w0 w) {T:Tmps} {a:Act} {o:Oper} {x:Operand} (ho:o.op = .nilCheck x) (hO:Opd ρ T a o.op.operands.toList) {r:Res} {s':St}
 (h:(match opd T x with
  | some (.pointer (some ad))=>val (.pointer (some ad)) s
  | some (.func (.func f) b c)=>val (.func (.func f) b c) s
  | _=>none)=some (r,s')):OpOk P ρ M s base w0 w (execOp a.eval o) r s':=by
 split at h
 ·rename_i ad hx
  have hv:=hO x (by simp [ho,Op.operands]) _ hx
  obtain ⟨rfl,rfl⟩:=val_inv h
  refine ok_val hI (y:=a.eval x) ?_ hv
  generalize hex:a.eval x=u at hv
  cases hv
  simp [execOp,ho,hex]
 ·rename_i f b c hx
  have hv:=hO x (by simp [ho,Op.operands]) _ hx
  obtain ⟨rfl,rfl⟩:=val_inv h
  refine ok_val hI (y:=a.eval x) ?_ hv
  generalize hex:a.eval x=u at hv
  cases hv
  simp [execOp,ho,hex]
 ·cases h
theorem extract_ok (hI:In ρ M s base w0 w) {T:Tmps} {a:Act} {o:Oper} {x:Operand} {i:Nat} (ho:o.op = .extract x i) (hO:Opd ρ T a o.op.operands.toList) {r:Res} {s':St}
 (h:(match opd T x with
  | some (.tuple vs)=>(vs[i]?).bind fun v=>val v s
  | _=>none)=some (r,s')):OpOk P ρ M s base w0 w (execOp a.eval o) r s':=by
 split at h
 ·rename_i vs hx
  have hv:=hO x (by simp [ho,Op.operands]) _ hx
  cases hi:vs[i]? with
  | none=>rw [hi] at h;cases h
  | some v =>
   rw [hi] at h
   obtain ⟨rfl,rfl⟩:=val_inv h
   generalize hex:a.eval x=u at hv
   cases hv with
   | tuple hs hc =>
    rename_i us
    have hlt:i<us.size:=by rw [← hs];exact (Array.getElem?_eq_some_iff.1 hi).1
    exact ok_val hI (by simp [execOp,ho,Instr.extract,hex,hlt]) (hc i v us[i] hi (Array.getElem?_eq_getElem hlt))
 ·cases h
theorem makeFunc_ok (hI:In ρ M s base w0 w) {T:Tmps} {a:Act} {o:Oper} {fn:Fn} {x y:Array Operand} (ho:o.op = .makeFunc fn x y) (hO:Opd ρ T a o.op.operands.toList) {r:Res} {s':St}
 (h:((opds T x.toList).bind fun vs=>(opds T y.toList).bind fun us=>val (.func fn vs.toArray us.toArray) s)=some (r,s')):OpOk P ρ M s base w0 w (execOp a.eval o) r s':=by
 rw [ho] at hO
 simp only [Op.operands,Array.toList_append] at hO
 cases hx:opds T x.toList with
 | none=>rw [hx] at h;cases h
 | some vs =>
  rw [hx] at h
  simp only [Option.bind_some] at h
  cases hy:opds T y.toList with
  | none=>rw [hy] at h;cases h
  | some us =>
   rw [hy] at h
   obtain ⟨rfl,rfl⟩:=val_inv h
   have h1:=(opds_run hx (fun z hz=>hO z (by simp at hz ⊢;exact .inl hz))).arr
   have h2:=(opds_run hy (fun z hz=>hO z (by simp at hz ⊢;exact .inr hz))).arr
   refine ok_val hI (y:=.func fn (x.map a.eval) (y.map a.eval)) (by simp [execOp,ho,Instr.makeFunc]) ?_
   have e1:(x.toList.map a.eval).toArray=x.map a.eval:=by apply Array.ext';simp
   have e2:(y.toList.map a.eval).toArray=y.map a.eval:=by apply Array.ext';simp
   rw [e1] at h1
   rw [e2] at h2
   exact .func fn h1.1 h1.2 h2.1 h2.2
theorem makeInterface_ok (hI:In ρ M s base w0 w) {T:Tmps} {a:Act} {o:Oper} {t:TypeId} {x:Operand} (ho:o.op = .makeInterface t x) (hO:Opd ρ T a o.op.operands.toList) {r:Res} {s':St}
 (h:(match opd T x,P.underlying t with
  | some _,some (.interface _)=>none
  | some v,some _=>val (.iface t v) s
  | _,_=>none)=some (r,s')):OpOk P ρ M s base w0 w (execOp a.eval o) r s':=by
 cases hx:opd T x with
 | none=>rw [hx] at h;simp at h
 | some v =>
  have hv:=hO x (by simp [ho,Op.operands]) _ hx
  rw [hx] at h
  cases hu:P.underlying t with
  | none=>rw [hu] at h;simp at h
  | some d =>
   rw [hu] at h
   have hr:=run_underlying hu w
   cases d <;> simp only [reduceCtorEq] at h <;>
    (obtain ⟨rfl,rfl⟩:=val_inv h
     exact ok_val hI (y:=.iface t (a.eval x)) (by simp [execOp,ho,Instr.makeInterface,hr]) (.iface t hv))
end
end Ev
namespace Ev
set_option linter.unusedVariables false
set_option linter.unusedSimpArgs false
variable {P:Program}
section
variable {ρ:Ren} {M:Mem} {s:St} {base:Nat} {w0 w:World}
theorem opds_mem {T:Tmps}:∀ {xs:List Operand} {vs:List Value},opds T xs=some vs→vs.all fl=true → ∀ x ∈ xs,∃ v,opd T x=some v∧fl v=true
 | [],_,_,_,x,hx=>by simp at hx
 | y :: r,vs,h,hf,x,hx=>by
  simp only [opds] at h
  cases hy:opd T y with
  | none=>rw [hy] at h;cases h
  | some v =>
   rw [hy] at h
   cases hr:opds T r with
   | none=>rw [hr] at h;cases h
   | some us =>
    rw [hr] at h;cases h
    simp only [List.all_cons,Bool.and_eq_true] at hf
    rcases List.mem_cons.1 hx with rfl | hx
    ·exact ⟨v,hy,hf.1⟩
    ·exact opds_mem hr hf.2 x hx
def plainOk:Op→Bool
 | .slice _ _ _ _ _=>true
 | .binOp _ _ _ _ _=>true
 | .unOp _ _ _=>true
 | .index _ _ _=>true
 | .typeAssert _ _ _ _=>true
 | .convert _ _ _=>true
 | .call _=>true
 | _=>false
theorem map_congrA {f g:Operand→Value} (xs:Array Operand) (h:∀ x ∈ xs.toList,f x=g x):xs.map f=xs.map g:=by
 apply Array.ext'
 simp only [Array.toList_map]
 exact List.map_congr_left h
theorem map_congrO {f g:Operand→Value} (x:Option Operand) (h:∀ y ∈ x.toList,f y=g y):x.map f=x.map g:=by
 cases x with
 | none=>rfl
 | some y=>simp [h y (by simp)]
theorem execOp_congr {f g:Operand→Value} {o:Oper} (hk:plainOk o.op=true) (h:∀ x ∈ o.op.operands.toList,f x=g x):execOp f o=execOp g o:=by
 obtain ⟨dst,op,ty,pos,after,guard⟩:=o
 cases op <;> simp only [plainOk,Bool.false_eq_true] at hk
 case slice t x lo hi mx =>
  simp only [Op.operands,Array.toList_append] at h
  have h1:=h x (by simp)
  have h2:=map_congrO (f:=f) (g:=g) lo (fun y hy=>h y (by cases lo <;> simp_all))
  have h3:=map_congrO (f:=f) (g:=g) hi (fun y hy=>h y (by cases hi <;> simp_all))
  have h4:=map_congrO (f:=f) (g:=g) mx (fun y hy=>h y (by cases mx <;> simp_all))
  simp only [execOp,h1,h2,h3,h4]
 case binOp op t x y t2=>simp only [execOp,h x (by simp [Op.operands]),h y (by simp [Op.operands])]
 case unOp op t x=>simp only [execOp,h x (by simp [Op.operands])]
 case index t x i=>simp only [execOp,h x (by simp [Op.operands]),h i (by simp [Op.operands])]
 case typeAssert x t1 t2 ok=>simp only [execOp,h x (by simp [Op.operands])]
 case convert t1 t2 x=>simp only [execOp,h x (by simp [Op.operands])]
 case call c =>
  simp only [Op.operands,Call.operands,Array.toList_append] at h
  have h1:=map_congrA (f:=f) (g:=g) c.args (fun y hy=>h y (by simp only [List.mem_append];exact .inr hy))
  cases hc:c.callee with
  | value x =>
   have h2:=h x (by simp [hc])
   simp only [execOp,resolve,hc,h1,h2]
  | invoke x m =>
   have h2:=h x (by simp [hc])
   simp only [execOp,resolve,hc,h1,h2]
  | builtin b=>simp only [execOp,resolve,hc,h1]
theorem plain_ok (hI:In ρ M s base w0 w) {T:Tmps} {a:Act} {o:Oper} (hk:plainOk o.op=true) (hO:Opd ρ T a o.op.operands.toList) {r:Res} {s':St} (h:plainOp P T o s=some (r,s')):OpOk P ρ M s base w0 w (execOp a.eval o) r s':=by
 unfold plainOp at h
 split at h
 ·cases h
 ·rename_i vs hvs
  split at h
  ·cases h
  ·rename_i hfl
   have he:execOp (evalF T) o=execOp a.eval o:=execOp_congr hk (fun x hx=>by
    obtain ⟨v,h1,h2⟩:=opds_mem hvs hfl x hx
    rw [fl_eq h2 (hO x hx v h1)]
    simp [evalF,h1])
   split at h
   ·rename_i v hv
    split at h
    ·rename_i hf
     obtain ⟨rfl,rfl⟩:=val_inv h
     rw [he] at hv
     exact ok_val hI (pureRun_run P _ _ w hv) (fl_refl ρ hf)
    ·cases h
   ·cases h
theorem field_ok (hI:In ρ M s base w0 w) {T:Tmps} {a:Act} {o:Oper} {t:TypeId} {x:Operand} {f:Nat} (ho:o.op = .field t x f) (hO:Opd ρ T a o.op.operands.toList) {r:Res} {s':St}
 (h:(match opd T x,P.underlying t with
  | some (.agg cs),some (.struct fs)=>match fs[f]? with
   | some q=>match isAggT P q.type,sizeT P q.type with
    | some true,some n=>val (.agg (cs.extract q.offset (q.offset+n))) s
    | some false,_=>(cs[q.offset]?).bind fun v=>val v s
    | _,_=>none
   | none=>none
  | _,_=>none)=some (r,s')):OpOk P ρ M s base w0 w (execOp a.eval o) r s':=by
 split at h
 ·rename_i cs fs hx hu
  have hv:=hO x (by simp [ho,Op.operands]) _ hx
  generalize hex:a.eval x=u at hv
  cases hv with
  | agg hs hc =>
   rename_i us
   split at h
   ·rename_i q hq
    split at h
    ·rename_i n ha hn
     obtain ⟨rfl,rfl⟩:=val_inv h
     refine ok_val hI (y:=.agg (us.extract q.offset (q.offset+n))) (by simp [execOp,ho,Instr.field,run_underlying hu,hq,hex,asAgg,part,run_isAggT ha,run_sizeT hn]) (.agg (by simp [hs]) (fun i y z h1 h2=>?_))
     rw [Array.getElem?_extract] at h1 h2
     split at h1
     ·split at h2
      ·exact hc _ _ _ h1 h2
      ·cases h2
     ·cases h1
    ·rename_i ha
     cases hi:cs[q.offset]? with
     | none=>rw [hi] at h;cases h
     | some v =>
      rw [hi] at h
      obtain ⟨rfl,rfl⟩:=val_inv h
      have hlt:q.offset<us.size:=by rw [← hs];exact (Array.getElem?_eq_some_iff.1 hi).1
      exact ok_val hI (y:=us[q.offset]) (by simp [execOp,ho,Instr.field,run_underlying hu,hq,hex,asAgg,part,run_isAggT ha,hlt]) (hc _ _ _ hi (Array.getElem?_eq_getElem hlt))
    ·cases h
   ·cases h
 ·cases h
theorem fieldAddr_ok (hI:In ρ M s base w0 w) {T:Tmps} {a:Act} {o:Oper} {t:TypeId} {x:Operand} {f:Nat} (ho:o.op = .fieldAddr t x f) (hO:Opd ρ T a o.op.operands.toList) {r:Res} {s':St}
 (h:(match opd T x,P.underlying t with
  | some (.pointer (some ad)),some (.struct fs)=>match fs[f]? with
   | some q=>match sizeT P q.type with
    | some (_+1)=>val (.pointer (some (ad.add q.offset))) s
    | _=>none
   | none=>none
  | _,_=>none)=some (r,s')):OpOk P ρ M s base w0 w (execOp a.eval o) r s':=by
 split at h
 ·rename_i ad fs hx hu
  have hv:=hO x (by simp [ho,Op.operands]) _ hx
  generalize hex:a.eval x=u at hv
  cases hv with
  | ptr off sp e =>
   rename_i n k
   split at h
   ·rename_i q hq
    split at h
    ·rename_i m hm
     obtain ⟨rfl,rfl⟩:=val_inv h
     refine ok_val hI (y:=.pointer (some ((⟨k.1,off,sp⟩:Addr).add q.offset))) (by simp [execOp,ho,Instr.fieldAt,run_underlying hu,hq,hex,Instr.sureAddr,fieldPlace,run_sizeT hm]) ?_
     unfold Addr.add
     split
     ·exact .ptr off sp e
     ·exact .ptr _ none e
    ·cases h
   ·cases h
 ·cases h
theorem indexAddr_ok (hI:In ρ M s base w0 w) {T:Tmps} {a:Act} {o:Oper} {t:TypeId} {x ix:Operand} (ho:o.op = .indexAddr t x ix) (hO:Opd ρ T a o.op.operands.toList) {r:Res} {s':St}
 (h:(match opd T x,opd T ix,P.underlying t with
  | some (.pointer (some ad)),some (.int _ (.ofNat i)),some (.array n e)=>match sizeT P e,Nat.blt i n with
   | some size,true=>val (.pointer (some (ad.add (i * size)))) s
   | _,_=>none
  | some (.slice (some ad) n _),some (.int _ (.ofNat i)),some (.slice e)=>match sizeT P e,Nat.blt i n with
   | some size,true=>val (.pointer (some (ad.add (i * size)))) s
   | _,_=>none
  | _,_,_=>none)=some (r,s')):OpOk P ρ M s base w0 w (execOp a.eval o) r s':=by
 split at h
 ·rename_i ad k i n e hx hix hu
  have hv:=hO x (by simp [ho,Op.operands]) _ hx
  have hj:=hO ix (by simp [ho,Op.operands]) _ hix
  generalize hex:a.eval x=u at hv
  generalize hei:a.eval ix=v at hj
  cases hj
  cases hv with
  | ptr off sp e1 =>
   rename_i m k1
   split at h
   ·rename_i size hs hb
    have hb:i<n:=by simpa [Nat.blt_eq] using hb
    obtain ⟨rfl,rfl⟩:=val_inv h
    refine ok_val hI (y:=.pointer (some ((⟨k1.1,off,sp⟩:Addr).add (i * size)))) ?_ ?_
    ·simp [execOp,ho,Instr.indexAt,run_underlying hu,hex,hei,asIntOf,Instr.sureAddr,run_sizeT hs,hb]
    ·unfold Addr.add
     split
     ·exact .ptr off sp e1
     ·exact .ptr _ none e1
   ·cases h
 ·rename_i ad n c k i e hx hix hu
  have hv:=hO x (by simp [ho,Op.operands]) _ hx
  have hj:=hO ix (by simp [ho,Op.operands]) _ hix
  generalize hex:a.eval x=u at hv
  generalize hei:a.eval ix=v at hj
  cases hj
  cases hv with
  | slice off sp n c c' e1 e2 e3 e4 =>
   rename_i m k1
   split at h
   ·rename_i size hs hb
    have hb:i<n:=by simpa [Nat.blt_eq] using hb
    obtain ⟨rfl,rfl⟩:=val_inv h
    refine ok_val hI (y:=.pointer (some ((⟨k1.1,off,sp⟩:Addr).add (i * size)))) ?_ ?_
    ·simp [execOp,ho,Instr.indexAt,run_underlying hu,hex,hei,asIntOf,run_sizeT hs,hb]
    ·unfold Addr.add
     split
     ·exact .ptr off sp e1
     ·exact .ptr _ none e1
   ·cases h
 ·cases h
theorem fill_rel:∀ {place:Nat→Option (Nat × Nat)} {ps qs:List (Nat × Value)} {cs ds r:Array Value},VRs ρ cs ds→ps.length=qs.length→(∀ (i:Nat) (x y:Nat × Value),ps[i]?=some x→qs[i]?=some y→x.1=y.1∧VR ρ x.2 y.2) →
 Instr.fill place cs ps=some r → ∃ r',Instr.fill place ds qs=some r'∧VRs ρ r r'
 | place,[],qs,cs,ds,r,hc,hl,hp,h=>by
  obtain rfl:qs=[]:=List.eq_nil_of_length_eq_zero (by simpa using hl.symm)
  simp only [Instr.fill,Option.some.injEq] at h
  subst h
  exact ⟨ds,rfl,hc⟩
 | place,(i,v) :: ps,qs,cs,ds,r,hc,hl,hp,h=>by
  cases qs with
  | nil=>simp at hl
  | cons q qs =>
   obtain ⟨j,u⟩:=q
   obtain ⟨e1,hv⟩:=hp 0 _ _ rfl rfl
   simp only at e1 hv
   subst e1
   simp only [Instr.fill] at h ⊢
   cases hpl:place i with
   | none=>rw [hpl] at h;cases h
   | some pl =>
    obtain ⟨off,size⟩:=pl
    rw [hpl] at h
    simp only at h ⊢
    have hcv:=hv.cells
    rw [← hcv.1,← hc.1]
    split at h
    ·cases h
    ·rename_i hcond
     rw [if_neg hcond]
     refine fill_rel ?_ (by simpa using hl) (fun i x y h1 h2=>hp (i+1) x y (by simpa using h1) (by simpa using h2)) h
     have key:∀ (l l':List (Value × Nat)) (c d:Array Value),VRs ρ c d→l.length=l'.length→(∀ (k:Nat) (x y:Value × Nat),l[k]?=some x→l'[k]?=some y→x.2=y.2∧VR ρ x.1 y.1) →
      VRs ρ (l.foldl (fun cs (c,j)=>cs.setIfInBounds (off+j) c) c) (l'.foldl (fun cs (c,j)=>cs.setIfInBounds (off+j) c) d):=by
      intro l
      induction l with
      | nil=>intro l' c d hcd hll _;obtain rfl:l'=[]:=List.eq_nil_of_length_eq_zero (by simpa using hll.symm);exact hcd
      | cons p l ih =>
       intro l' c d hcd hll hpp
       cases l' with
       | nil=>simp at hll
       | cons p' l' =>
        obtain ⟨e2,hv2⟩:=hpp 0 _ _ rfl rfl
        obtain ⟨x,k⟩:=p
        obtain ⟨y,k'⟩:=p'
        simp only at e2 hv2
        subst e2
        simp only [List.foldl_cons]
        refine ih l' _ _ ⟨by simp [hcd.1],fun m a b h1 h2=>?_⟩ (by simpa using hll) (fun m a b h1 h2=>hpp (m+1) a b (by simpa using h1) (by simpa using h2))
        rw [Array.getElem?_setIfInBounds] at h1 h2
        by_cases hm:off+k=m
        ·rw [if_pos hm] at h1 h2
         split at h1
         ·split at h2
          ·cases h1;cases h2;exact hv2
          ·cases h2
         ·cases h1
        ·rw [if_neg hm] at h1 h2
         exact hcd.2 m a b h1 h2
     have hz:∀ (a b:Array Value),VRs ρ a b→VRs ρ (a.zipIdx.foldl (fun cs (c,j)=>cs.setIfInBounds (off+j) c) cs) (b.zipIdx.foldl (fun cs (c,j)=>cs.setIfInBounds (off+j) c) ds):=fun a b hab=>by
      rw [← Array.foldl_toList,← Array.foldl_toList]
      refine key _ _ _ _ hc (by simp [hab.1]) (fun k x y h1 h2=>?_)
      rw [Array.toList_zipIdx] at h1 h2
      rw [List.getElem?_zipIdx] at h1 h2
      simp only [Array.getElem?_toList] at h1 h2
      cases ha:a[k]? with
      | none=>rw [ha] at h1;cases h1
      | some p =>
       cases hb:b[k]? with
       | none=>rw [hb] at h2;cases h2
       | some q =>
        rw [ha] at h1;rw [hb] at h2
        cases h1;cases h2
        exact ⟨rfl,hab.2 k p q ha hb⟩
     exact hz _ _ hcv
theorem parts_rel {T:Tmps} {a:Act} {ps:Array (Nat × Operand)} {vs:List Value} (h:opds T (ps.toList.map (·.2))=some vs) (hO:Opd ρ T a (ps.toList.map (·.2))) :
 ((ps.toList.map (·.1)).zip vs).length=(ps.map fun (i,x)=>(i,a.eval x)).toList.length ∧ ∀ (i:Nat) (x y:Nat × Value),((ps.toList.map (·.1)).zip vs)[i]?=some x→(ps.map fun (i,x)=>(i,a.eval x)).toList[i]?=some y→x.1=y.1∧VR ρ x.2 y.2:=by
 have h1:=opds_run h hO
 have hl:vs.length=ps.size:=by have:=h1.1;simpa using this
 refine ⟨by simp [hl],fun i x y hx hy=>?_⟩
 rw [List.getElem?_zip_eq_some] at hx
 obtain ⟨h2,h3⟩:=hx
 simp only [Array.toList_map,List.getElem?_map] at hy h2
 cases hp:ps.toList[i]? with
 | none=>rw [hp] at hy;cases hy
 | some p =>
  rw [hp] at hy h2
  simp only [Option.map_some,Option.some.injEq] at hy h2
  subst hy
  exact ⟨h2.symm,h1.2 i _ _ h3 (by simp [hp])⟩
theorem build_ok (hI:In ρ M s base w0 w) {T:Tmps} {a:Act} {o:Oper} {t:TypeId} {ps:Array (Nat × Operand)} (ho:o.op = .build t ps) (hO:Opd ρ T a o.op.operands.toList) {r:Res} {s':St}
 (h:((opds T (ps.toList.map (·.2))).bind fun vs=>match zeroT P t,P.underlying t with
  | some z,some (.struct fs)=>match pureRun P (fs.mapM fun f=>do pure (f.offset,← sizeOf f.type)) with
   | some places=>(Instr.fill (places[·]?) z.toArray ((ps.toList.map (·.1)).zip vs)).bind fun cells=>val (.agg cells) s
   | none=>none
  | some z,some (.array _ e)=>match sizeT P e with
   | some size=>(Instr.fill (fun i=>some (i * size,size)) z.toArray ((ps.toList.map (·.1)).zip vs)).bind fun cells=>val (.agg cells) s
   | none=>none
  | _,_=>none)=some (r,s')):OpOk P ρ M s base w0 w (execOp a.eval o) r s':=by
 cases hvs:opds T (ps.toList.map (·.2)) with
 | none=>rw [hvs] at h;cases h
 | some vs =>
  rw [hvs] at h
  simp only [Option.bind_some] at h
  obtain ⟨q1,q2⟩:=parts_rel hvs (ρ:=ρ) (a:=a) (fun x hx=>hO x (by rw [ho];simpa [Op.operands] using hx))
  split at h
  ·rename_i z fs hz hu
   obtain ⟨zv,z1,z2,z3⟩:=run_zeroT hz w
   have hzr:VRs ρ z.toArray zv.cells:=by have:=(fl_refl ρ z3).cells;rw [← z2];simpa using this
   split at h
   ·rename_i places hp
    have hp:=pureRun_run P _ _ w hp
    cases hf:Instr.fill (places[·]?) z.toArray ((ps.toList.map (·.1)).zip vs) with
    | none=>rw [hf] at h;cases h
    | some cells =>
     rw [hf] at h
     obtain ⟨rfl,rfl⟩:=val_inv h
     obtain ⟨cells',c1,c2⟩:=fill_rel hzr q1 q2 hf
     exact ok_val hI (y:=.agg cells') (by simp only [execOp,ho,Instr.build,Sem.run_bind,z1,Result.andThen_ok,run_underlying hu,hp,c1,Sem.run_pure]) (.agg c2.1 c2.2)
   ·cases h
  ·rename_i z n e hz hu
   obtain ⟨zv,z1,z2,z3⟩:=run_zeroT hz w
   have hzr:VRs ρ z.toArray zv.cells:=by have:=(fl_refl ρ z3).cells;rw [← z2];simpa using this
   split at h
   ·rename_i size hs
    cases hf:Instr.fill (fun i=>some (i * size,size)) z.toArray ((ps.toList.map (·.1)).zip vs) with
    | none=>rw [hf] at h;cases h
    | some cells =>
     rw [hf] at h
     obtain ⟨rfl,rfl⟩:=val_inv h
     obtain ⟨cells',c1,c2⟩:=fill_rel hzr q1 q2 hf
     exact ok_val hI (y:=.agg cells') (by simp only [execOp,ho,Instr.build,Sem.run_bind,z1,Result.andThen_ok,run_underlying hu,run_sizeT hs,c1,Sem.run_pure]) (.agg c2.1 c2.2)
   ·cases h
  ·cases h
end
end Ev
namespace Ev
set_option linter.unusedVariables false
set_option linter.unusedSimpArgs false
variable {P:Program}
theorem zeros_len (z:List Value):∀ n,(zeros z n).length=n * z.length
 | 0=>by simp [zeros]
 | n+1=>by rw [zeros,List.length_append,zeros_len z n,Nat.succ_mul];omega
theorem zeros_get (z:List Value):∀ (n i:Nat),i<n * z.length→(zeros z n)[i]?=z[i % z.length]?
 | 0,i,h=>by simp at h
 | n+1,i,h=>by
  rw [zeros]
  by_cases hi:i<z.length
  ·rw [List.getElem?_append_left hi,Nat.mod_eq_of_lt hi]
  ·have h2:(n+1) * z.length=n * z.length+z.length:=Nat.succ_mul _ _
   rw [List.getElem?_append_right (by omega),zeros_get z n _ (by omega)]
   conv=>rhs;rw [Nat.mod_eq_sub_mod (by omega)]
theorem zeros_arr (z:Array Value) (n:Nat):(zeros z.toList n).toArray=(Array.range (n * z.size)).map (z[· % z.size]!):=by
 apply Array.ext
 ·simp [zeros_len]
 ·intro i h1 h2
  simp only [List.size_toArray,zeros_len,Array.length_toList] at h1
  have hz:0<z.size:=by rcases Nat.eq_zero_or_pos z.size with e | e;rw [e] at h1;simp at h1;exact e
  have hm:i % z.size<z.size:=Nat.mod_lt _ hz
  have h3:=zeros_get z.toList n i (by simpa using h1)
  rw [List.getElem?_eq_getElem (by rw [zeros_len];simpa using h1),List.getElem?_eq_getElem (by simpa using hm)] at h3
  simp only [List.getElem_toArray,Array.getElem_map,Array.getElem_range]
  rw [getElem!_pos z _ hm]
  have:=Option.some.inj h3
  simpa using this
theorem zeroCells_arr (z:Array Value) (n:Nat):Builtin.zeroCells z n=(zeros z.toList n).toArray:=by
 rw [zeros_arr];rfl
theorem run_buildSlice {t e:TypeId} {n size:Nat} {parts:Array (Nat × Value)} {zv:Value} {w:World} {cells:Array Value} (hu:P.underlying t=some (.slice e)) (hs:∀ w,(sizeOf e).run P w = .ok size w) (hz:(zeroValue e).run P w = .ok zv w)
 (hn:n * size≤16777216) (hzs:zv.cells.size=size) (hf:Instr.fill (fun i=>some (i * size,size)) (zeros zv.cells.toList n).toArray parts.toList=some cells) :
 (Instr.buildSlice t n parts).run P w=((newRow e cells).run P w).andThen fun a w'=>.ok (.slice (some a) n n) w':=by
 have hn':¬ (16777216<n * size):=by omega
 by_cases h0:n * size=0
 ·have:zeros zv.cells.toList n=[]:=List.eq_nil_of_length_eq_zero (by rw [zeros_len,Array.length_toList,hzs];exact h0)
  rw [this] at hf
  have e0:(Array.range 0).map (fun x=>(default:Value))=#[]:=by apply Array.ext <;> simp
  simp [Instr.buildSlice,run_underlying hu,hs,h0,hf,e0]
 ·rw [zeros_arr,hzs] at hf
  simp [Instr.buildSlice,run_underlying hu,hs,h0,hn',hz,hzs,hf]
section
variable {ρ:Ren} {M:Mem} {s:St} {base:Nat} {w0 w:World}
theorem flat_row {z:List Value} {v:Value} (h:v.cells.toList=z) (hf:fl v=true):VRl ρ z z:=by
 have:=(fl_refl ρ hf).cells.list
 rw [h] at this
 exact this
theorem VRl.zeros {z:List Value} (h:VRl ρ z z):∀ n,VRl ρ (zeros z n) (zeros z n)
 | 0=>VRl.nil ρ
 | n+1=>VRl.append h (VRl.zeros h n)
theorem buildSlice_ok (hI:In ρ M s base w0 w) {T:Tmps} {a:Act} {o:Oper} {t:TypeId} {n:Nat} {ps:Array (Nat × Operand)} (ho:o.op = .buildSlice t n ps) (hO:Opd ρ T a o.op.operands.toList) {r:Res} {s':St} (hF:∀ n,s.c≤n→n<s'.c→ρ n=none)
 (h:((opds T (ps.toList.map (·.2))).bind fun vs=>match P.underlying t with
  | some (.slice e)=>match sizeT P e,zeroT P e with
   | some size,some z=>match Nat.ble (n * size) 16777216 && Nat.ble n 16777216 && Nat.beq z.length size,Instr.fill (fun i=>some (i * size,size)) (zeros z n).toArray ((ps.toList.map (·.1)).zip vs) with
    | true,some cells=>(rowA s e cells.toList).bind fun (a,s')=>val (.slice (some a) n n) s'
    | _,_=>none
   | _,_=>none
  | _=>none)=some (r,s')):OpOk P ρ M s base w0 w (execOp a.eval o) r s':=by
 cases hvs:opds T (ps.toList.map (·.2)) with
 | none=>rw [hvs] at h;cases h
 | some vs =>
  rw [hvs] at h
  simp only [Option.bind_some] at h
  obtain ⟨q1,q2⟩:=parts_rel hvs (ρ:=ρ) (a:=a) (fun x hx=>hO x (by rw [ho];simpa [Op.operands] using hx))
  split at h
  ·rename_i e hu
   split at h
   ·rename_i size z hs hz
    split at h
    ·rename_i cells hb hf
     simp only [Bool.and_eq_true,Nat.ble_eq,Nat.beq_eq] at hb
     obtain ⟨⟨hb1,hb3⟩,hb2⟩:=hb
     obtain ⟨zv,z1,z2,z3⟩:=run_zeroT hz w
     have hzz:=(VRl.zeros (flat_row (ρ:=ρ) z2 z3) n).arr
     obtain ⟨cells',c1,c2⟩:=fill_rel hzz q1 q2 hf
     cases hr:rowA s e cells.toList with
     | none=>rw [hr] at h;cases h
     | some p =>
      obtain ⟨ad,s1⟩:=p
      rw [hr] at h
      have hsc:s1.c=s.c+1:=by unfold rowA at hr;split at hr <;> cases hr;rfl
      obtain ⟨rfl,rfl⟩:=val_inv h
      obtain ⟨rfl,g2,g3,w',g4,g5⟩:=rowA_run (P:=P) hr hI c2.list (hF s.c (Nat.le_refl _) (by omega))
      refine ⟨by omega,g3,.slice (some ⟨w.heap.size,0,none⟩) n n,w',?_,g5 _ (fun ρ' hl hp=>.slice 0 none n n n hp (Nat.le_refl _) (fun _=>rfl) (fun h=>?_))⟩
      ·simp only [Array.toArray_toList] at g4
       have hzs:zv.cells.size=size:=by have:=congrArg List.length z2;simp at this;omega
       simp [execOp,ho,run_buildSlice hu (run_sizeT hs) z1 (by omega) hzs (by rw [z2];exact c1),g4]
      ·have h2:BIG=1208925819614629174706176:=rfl
       omega
    ·cases h
   ·cases h
  ·cases h
theorem natOf_spec {v:Value} {n:Nat} (h:natOf v=some n):∃ k,v = .int k (n:Int):=by
 unfold natOf at h
 split at h
 ·cases h;exact ⟨_,rfl⟩
 ·cases h
theorem run_makeSlice {t e:TypeId} {k1 k2:IntKind} {n m:Nat} {i:TypeInfo} {zv:Value} {w:World} (hu:P.underlying t=some (.slice e)) (hi:P.info? e=some i) (hz:(zeroValue e).run P w = .ok zv w) (hn:n≤m) (hm:m≤1048576) (hb:m * i.bytes≤1048576) (hzs:zv.cells.size=i.size) :
 (Instr.makeSlice t (.int k1 (n:Int)) (.int k2 (m:Int))).run P w=((newRow e (zeros zv.cells.toList m).toArray).run P w).andThen fun a w'=>.ok (.slice (some a) n m) w':=by
 have e1:IntKind.i64.wrap (n:Int)=n:=by rw [IntKind.wrap_i64];omega
 have e2:IntKind.i64.wrap (m:Int)=m:=by rw [IntKind.wrap_i64];omega
 have e3:¬ ((m:Int)<0):=by omega
 have e4:¬ (281474976710656<(i.bytes:Int) * (m:Int)):=by
  have h1:i.bytes * m≤1048576:=by rw [Nat.mul_comm];exact hb
  rw [← Int.natCast_mul]
  omega
 have e5:¬ ((n:Int)<0):=by omega
 have e6:¬ ((m:Int)<(n:Int)):=by omega
 have e7:¬ (140737488355328<m * i.bytes):=by omega
 by_cases h0:m * i.size=0
 ·have hzn:zeros zv.cells.toList m=[]:=List.eq_nil_of_length_eq_zero (by rw [zeros_len,Array.length_toList,hzs];exact h0)
  have e0:(Array.range 0).map (fun x=>(default:Value))=#[]:=by apply Array.ext <;> simp
  rw [hzn]
  simp [Instr.makeSlice,run_underlying hu,asInt,asIntOf,typeInfo,hi,e1,e2,e3,e4,e5,e6,askRoom,roomBytes,e7,sizeOf,h0,e0]
 ·have hrow:(zeros zv.cells.toList m).toArray=(Array.range (m * i.size)).map (zv.cells[· % i.size]!):=by rw [zeros_arr,hzs]
  simp [Instr.makeSlice,run_underlying hu,asInt,asIntOf,typeInfo,hi,e1,e2,e3,e4,e5,e6,askRoom,roomBytes,e7,sizeOf,h0,hz,hzs,hrow]
theorem makeSlice_ok (hI:In ρ M s base w0 w) {T:Tmps} {a:Act} {o:Oper} {t:TypeId} {l c:Operand} (ho:o.op = .makeSlice t l c) (hO:Opd ρ T a o.op.operands.toList) {r:Res} {s':St} (hF:∀ n,s.c≤n→n<s'.c→ρ n=none)
 (h:(match opd T l,opd T c,P.underlying t with
  | some lv,some cv,some (.slice e)=>match natOf lv,natOf cv,P.info? e,zeroT P e with
   | some n,some m,some i,some z=>match Nat.ble n m,Nat.ble (m * i.bytes) 1048576,Nat.ble m 1048576 && Nat.beq z.length i.size with
    | true,true,true=>(rowA s e (zeros z m)).bind fun (a,s')=>val (.slice (some a) n m) s'
    | _,_,_=>none
   | _,_,_,_=>none
  | _,_,_=>none)=some (r,s')):OpOk P ρ M s base w0 w (execOp a.eval o) r s':=by
 split at h
 ·rename_i lv cv e hl hc hu
  split at h
  ·rename_i n m i z hn hm hi hz
   split at h
   ·rename_i b1 b2 b3
    simp only [Bool.and_eq_true,Nat.ble_eq,Nat.beq_eq] at b1 b2 b3
    obtain ⟨k1,rfl⟩:=natOf_spec hn
    obtain ⟨k2,rfl⟩:=natOf_spec hm
    have v1:=hO l (by simp [ho,Op.operands]) _ hl
    have v2:=hO c (by simp [ho,Op.operands]) _ hc
    generalize hel:a.eval l=u1 at v1
    generalize hec:a.eval c=u2 at v2
    cases v1
    cases v2
    obtain ⟨zv,z1,z2,z3⟩:=run_zeroT hz w
    have hzz:=VRl.zeros (flat_row (ρ:=ρ) z2 z3) m
    cases hr:rowA s e (zeros z m) with
    | none=>rw [hr] at h;cases h
    | some p =>
     obtain ⟨ad,s1⟩:=p
     rw [hr] at h
     have hsc:s1.c=s.c+1:=by unfold rowA at hr;split at hr <;> cases hr;rfl
     obtain ⟨rfl,rfl⟩:=val_inv h
     obtain ⟨rfl,g2,g3,w',g4,g5⟩:=rowA_run (P:=P) hr hI hzz (hF s.c (Nat.le_refl _) (by omega))
     refine ⟨by omega,g3,.slice (some ⟨w.heap.size,0,none⟩) n m,w',?_,g5 _ (fun ρ' hl hp=>.slice 0 none n m m hp b1 (fun _=>rfl) (fun h=>?_))⟩
     ·have hzs:zv.cells.size=i.size:=by have:=congrArg List.length z2;simp at this;omega
      rw [← z2] at g4
      simp [execOp,ho,hel,hec,run_makeSlice hu hi z1 b1 b3.1 b2 hzs,g4]
     ·have h2:BIG=1208925819614629174706176:=rfl
      omega
   ·cases h
  ·cases h
 ·cases h
theorem makeMap_ok (hI:In ρ M s base w0 w) {T:Tmps} {a:Act} {o:Oper} {t:TypeId} {x:Option Operand} (ho:o.op = .makeMap t x) (hO:Opd ρ T a o.op.operands.toList) {r:Res} {s':St} (hF:∀ n,s.c≤n→n<s'.c→ρ n=none)
 (h:makeMapA P T s t x=some (r,s')):OpOk P ρ M s base w0 w (execOp a.eval o) r s':=by
 have key:s'=new s (.map [] 0)→r = .val (.map (some s.c))→(execOp a.eval o).run P w = .ok (.value (.map (some w.heap.size))) { w with heap:=w.heap.push (.map #[] 0) }→OpOk P ρ M s base w0 w (execOp a.eval o) r s':=by
  rintro rfl rfl hr
  exact ⟨Nat.le_succ _,mark_cov _ _,_,_,hr,Done.fresh (o:=.map #[] 0) hI rfl rfl rfl rfl ⟨rfl,rfl,fun i x y h1 h2=>by simp at h1⟩ rfl (hF s.c (Nat.le_refl _) (Nat.lt_succ_self _)) (fun ρ' hl hp=>VR.map (k:=(w.heap.size,_)) hp)⟩
 unfold makeMapA at h
 cases x with
 | none =>
  cases h
  exact key rfl rfl (by simp [execOp,ho,Instr.makeMap,newObj,Sem.run])
 | some y =>
  simp only at h
  split at h
  ·rename_i k m kt hy hk
   cases h
   have hv:=hO y (by simp [ho,Op.operands]) _ hy
   generalize hey:a.eval y=u at hv
   cases hv
   unfold keyType at hk
   split at hk
   ·rename_i k1 e1 hu
    exact key rfl rfl (by simp [execOp,ho,Instr.makeMap,newObj,Sem.run,hey,run_underlying hu,asInt,asIntOf])
   ·cases hk
  ·cases h
theorem run_bound {k:IntKind} {i y:Nat} {code:BoundsCode} {w:World} (h:i≤y):(Instr.sliceBound (.int k (i:Int)) y code).run P w = .ok i w:=by
 have:(0:Int)≤(i:Int)∧(i:Int)≤(y:Int):=by omega
 simp [Instr.sliceBound,asIntOf,this]
theorem bounds_run {b:Bool} {len cap l h m:Nat} {lo hi mx:Option Value} {w:World} (h1:boundO lo 0=some l) (h2:boundO hi len=some h) (h3:boundO mx cap=some m) (hx:(mx.isSome && hi.isNone)=false) (b1:l≤h) (b2:h≤m) (b3:m≤cap) :
 (Instr.sliceBounds b len cap lo hi mx).run P w = .ok (l,h,m) w:=by
 cases lo <;> cases mx <;> cases hi <;> simp only [boundO,Option.some.injEq] at h1 h2 h3 <;> (try simp at hx) <;>
  (try (obtain ⟨k1,rfl⟩:=natOf_spec h1)) <;> (try (obtain ⟨k2,rfl⟩:=natOf_spec h2)) <;> (try (obtain ⟨k3,rfl⟩:=natOf_spec h3)) <;> (try subst h1) <;> (try subst h2) <;> (try subst h3) <;>
  simp [Instr.sliceBounds,run_bound b1,run_bound b2,run_bound b3]
theorem opt_flat {T:Tmps} {a:Act} {x:Option Operand} {v:Option Value} {d n:Nat} (h:opdO T x=some v) (hO:Opd ρ T a x.toList) (hb:boundO v d=some n):x.map a.eval=v:=by
 rcases opdO_run h hO with ⟨rfl,rfl⟩ | ⟨o,u,rfl,rfl,hv⟩
 ·rfl
 ·obtain ⟨k,rfl⟩:=natOf_spec hb
  generalize hex:a.eval o=q at hv
  cases hv
  simp [hex]
theorem sliceA_ok (hI:In ρ M s base w0 w) {T:Tmps} {a:Act} {o:Oper} {t:TypeId} {x:Operand} {lo hi mx:Option Operand} (ho:o.op = .slice t x lo hi mx) (hO:Opd ρ T a o.op.operands.toList) {r:Res} {s':St} {v:Value} {l' h' m':Option Value}
 (hx:opd T x=some v) (hl:opdO T lo=some l') (hh:opdO T hi=some h') (hm:opdO T mx=some m') (h:sliceA P s t v l' h' m'=some (r,s')):OpOk P ρ M s base w0 w (execOp a.eval o) r s':=by
 rw [ho] at hO
 simp only [Op.operands,Array.toList_append] at hO
 have hv:=hO x (by simp) v hx
 have oL:∀ {d n},boundO l' d=some n→lo.map a.eval=l':=fun hb=>opt_flat hl (fun y hy=>hO y (by simp;cases lo <;> simp_all)) hb
 have oH:∀ {d n},boundO h' d=some n→hi.map a.eval=h':=fun hb=>opt_flat hh (fun y hy=>hO y (by simp;cases hi <;> simp_all)) hb
 have oM:∀ {d n},boundO m' d=some n→mx.map a.eval=m':=fun hb=>opt_flat hm (fun y hy=>hO y (by simp;cases mx <;> simp_all)) hb
 generalize hex:a.eval x=u at hv
 unfold sliceA at h
 split at h
 ·cases h
 ·rename_i hxn
  split at h
  ·rename_i e ad n cap hu
   cases hv with
   | slice off sp n c c' e1 e2 e3 e4 =>
    rename_i b k
    split at h
    ·rename_i size l hh2 m hs bl bh bm
     have go:∀ (M2 C2:Nat),boundO m' c'=some M2→l≤hh2→hh2≤M2→M2≤c'→(execOp a.eval o).run P w = .ok (.value (.slice (some (if M2=l then ⟨k.1,off,sp⟩ else (⟨k.1,off,sp⟩:Addr).add (l * size))) (hh2-l) (M2-l))) w:=fun M2 C2 q1 q2 q3 q4=>by
      have:=bounds_run (P:=P) (b:=true) (w:=w) bl bh q1 hxn q2 q3 q4
      simp [execOp,ho,Instr.sliceAt,Instr.slice,run_underlying hu,hex,oL bl,oH bh,oM bm,this,run_sizeT hs]
      split <;> simp_all
     have place:∀ (q:Nat) (cc cr:Nat),hh2-l≤cr→(cc<BIG→cr=cc)→(BIG≤cc→(if q=l then off else off+l * size)+cr * (cc-BIG)=k.2)→VR ρ (.slice (some (match Nat.beq q l with | true=>⟨b,off,sp⟩ | false=>(⟨b,off,sp⟩:Addr).add (l * size))) (hh2-l) cc) (.slice (some (if q=l then ⟨k.1,off,sp⟩ else (⟨k.1,off,sp⟩:Addr).add (l * size))) (hh2-l) cr):=fun q cc cr p1 p2 p3=>by
      by_cases hq:q=l
      ·rw [if_pos hq] at p3 ⊢
       have:Nat.beq q l=true:=by simp [hq]
       rw [this]
       exact .slice off sp _ cc cr e1 p1 p2 p3
      ·rw [if_neg hq] at p3 ⊢
       rw [nb hq]
       simp only
       unfold Addr.add
       by_cases hz:l * size=0
       ·rw [if_pos hz,if_pos hz];exact .slice off sp _ cc cr e1 p1 p2 (fun h=>by have:=p3 h;omega)
       ·rw [if_neg hz,if_neg hz];exact .slice _ none _ cc cr e1 p1 p2 p3
     split at h
     ·rename_i hb
      simp only [boundO] at bm oM
      split at h
      ·rename_i b1 b2 b3
       simp only [Bool.and_eq_true,Nat.ble_eq,Nat.beq_eq,Nat.blt_eq] at b1 b2 b3
       obtain ⟨rfl,rfl⟩:=val_inv h
       have hne:¬ c'=l:=by omega
       have hr:=go c' 0 rfl b1 (by omega) (Nat.le_refl _)
       rw [if_neg hne] at hr
       refine ok_val hI hr ?_
       have hp:=place (l+1) cap (c'-l) (by omega) (fun hc=>absurd hc (by rw [b3.2];omega)) (fun hc=>by
        rw [if_neg (by omega)]
        have h5:=e4 hc
        rw [b3.2,Nat.add_sub_cancel_left] at h5 ⊢
        have h6:c' * size=l * size+(c'-l) * size:=by rw [← Nat.add_mul];congr 1;omega
        omega)
       rw [if_neg (by omega),nb (by omega)] at hp
       exact hp
      ·cases h
     ·rename_i hb
      simp only [boundO,Option.some.injEq] at bm
      subst bm
      simp only [Nat.blt_eq] at hb
      obtain rfl:=e3 hb
      split at h
      ·rename_i b1 b2
       simp only [Nat.ble_eq] at b1 b2
       obtain ⟨rfl,rfl⟩:=val_inv h
       exact ok_val hI (go _ 0 rfl b1 b2 (Nat.le_refl _)) (place _ _ _ (by omega) (fun _=>rfl) (fun hc=>by omega))
      ·cases h
     ·split at h
      ·rename_i b1 b2 b3
       simp only [Bool.and_eq_true,Nat.ble_eq,Nat.blt_eq] at b1 b2
       obtain ⟨rfl,rfl⟩:=val_inv h
       have hmc:m≤c':=by
        cases hk:Nat.blt cap BIG with
        | true =>
         rw [hk] at b3
         simp only [Nat.ble_eq] at b3
         rw [e3 (by simpa using hk)];exact b3
        | false =>
         rw [hk] at b3
         simp only [Nat.ble_eq] at b3
         omega
       exact ok_val hI (go m 0 (by simpa [boundO] using bm) b1.1 b2 hmc) (place m (m-l) (m-l) (by omega) (fun _=>rfl) (fun hc=>by omega))
      ·cases h
    ·cases h
  ·rename_i e n cap hu
   cases hv
   split at h
   ·rename_i size l hh2 m hs bl bh bm
    split at h
    ·rename_i b1 b2 b3 b4
     simp only [Nat.ble_eq] at b1 b2 b3
     obtain ⟨rfl,rfl⟩:=val_inv h
     have:=bounds_run (P:=P) (b:=true) (w:=w) bl bh bm hxn b1 b2 b3
     refine ok_val hI (y:=.slice none (hh2-l) (m-l)) ?_ (.snil _ _)
     simp [execOp,ho,Instr.sliceAt,Instr.slice,run_underlying hu,hex,oL bl,oH bh,oM bm,this,run_sizeT hs]
    ·cases h
   ·cases h
  ·rename_i n e ad hu
   cases hv with
   | ptr off sp e1 =>
    rename_i b k
    split at h
    ·rename_i size l hh2 m hs bl bh bm
     split at h
     ·rename_i b1 b2 b3
      simp only [Bool.and_eq_true,Nat.ble_eq,Nat.blt_eq] at b1 b2 b3
      obtain ⟨rfl,rfl⟩:=val_inv h
      have:=bounds_run (P:=P) (b:=false) (w:=w) bl bh bm hxn b1.1 b2 b3
      refine ok_val hI (y:=.slice (some (if m=l then ⟨k.1,off,sp⟩ else (⟨k.1,off,sp⟩:Addr).add (l * size))) (hh2-l) (m-l)) ?_ ?_
      ·simp [execOp,ho,Instr.sliceAt,run_underlying hu,hex,Instr.sureAddr,oL bl,oH bh,oM bm,this,run_sizeT hs]
      ·by_cases hq:m=l
       ·rw [if_pos hq]
        have:Nat.beq m l=true:=by simp [hq]
        rw [this]
        exact .slice off sp _ _ _ e1 (by omega) (fun _=>rfl) (fun hc=>by omega)
       ·rw [if_neg hq,nb hq]
        simp only
        unfold Addr.add
        by_cases hz:l * size=0
        ·rw [if_pos hz,if_pos hz];exact .slice off sp _ _ _ e1 (by omega) (fun _=>rfl) (fun hc=>by omega)
        ·rw [if_neg hz,if_neg hz];exact .slice _ none _ _ _ e1 (by omega) (fun _=>rfl) (fun hc=>by omega)
     ·cases h
    ·cases h
  ·cases h
end
end Ev
namespace Ev
set_option linter.unusedVariables false
set_option linter.unusedSimpArgs false
variable {P:Program}
section
variable {ρ:Ren} {M:Mem} {s:St} {base:Nat} {w0 w:World}
theorem nilEq_run {t:TypeId} {d:TypeDesc} {v u v' u':Value} {b:Bool} (hu:P.underlying t=some d) (h:nilEq d v u=some b) (hv:VR ρ v v') (hu':VR ρ u u') (w:World) :
 (Op.equal t v' u').run P w = .ok b w∧(∀ op x y,(eqGuard op t x y v' u').run P w = .ok () w) ∧
 (binOp .eql t v' u'=do pure (.bool (← Op.equal t v' u')))∧(binOp .neq t v' u'=do pure (.bool (!(← Op.equal t v' u')))):=by
 have hr:=run_underlying hu w
 have key:∀ k,(Op.equalIn (k+1) t v' u').run P w = .ok b w:=fun k=>by
  unfold nilEq at h
  split at h <;> (try cases h) <;> cases hv <;> cases hu' <;> simp [Op.equalIn,hr]
 refine ⟨key 9999,?_⟩
 unfold nilEq at h
 split at h <;> (try cases h) <;> cases hv <;> cases hu' <;>
  exact ⟨fun op x y=>by unfold eqGuard;split <;> rfl,rfl,rfl⟩
theorem binOp_ok (hI:In ρ M s base w0 w) {T:Tmps} {a:Act} {o:Oper} {op:BinOp} {t t2:TypeId} {x y:Operand} (ho:o.op = .binOp op t x y t2) (hO:Opd ρ T a o.op.operands.toList) {r:Res} {s':St}
 (h:(match opd T x,opd T y with
  | some v,some u=>binA P T o s op t v u
  | _,_=>none)=some (r,s')):OpOk P ρ M s base w0 w (execOp a.eval o) r s':=by
 split at h
 ·rename_i v u hx hy
  have hv:=hO x (by simp [ho,Op.operands]) _ hx
  have hu:=hO y (by simp [ho,Op.operands]) _ hy
  unfold binA at h
  cases hfl:fl v && fl u with
  | true =>
   rw [hfl] at h
   exact plain_ok hI (by rw [ho];rfl) hO (by cases op <;> exact h)
  | false =>
   rw [hfl] at h
   cases hd:P.underlying t with
   | none=>rw [hd] at h;cases op <;> simp at h
   | some d =>
    rw [hd] at h
    simp only [Option.bind_some] at h
    cases hb:nilEq d v u with
    | none=>rw [hb] at h;cases op <;> simp at h
    | some b =>
     rw [hb] at h
     obtain ⟨h1,h3,h4,h5⟩:=nilEq_run hd hb hv hu w
     cases op <;> (try (simp at h;done))
     case eql =>
      obtain ⟨rfl,rfl⟩:=val_inv h
      exact ok_val hI (by simp [execOp,ho,h3,h4,h1]) (.bool b)
     case neq =>
      obtain ⟨rfl,rfl⟩:=val_inv h
      exact ok_val hI (by simp [execOp,ho,h3,h5,h1]) (.bool _)
 ·cases h
theorem cellsOf_run {size n:Nat} {v v':Value} {xs:List Value} (h:cellsOf s size v n=some xs) (hI:In ρ M s base w0 w) (hv:VR ρ v v') :
 ∃ ys,VRl ρ xs ys ∧ ∀ w',Same w w'→(Builtin.firstCells size n v').run P w' = .ok ys.toArray w':=by
 cases v with
 | slice b l c =>
  cases b with
  | none =>
   cases hv
   simp only [cellsOf] at h
   split at h
   ·cases h
    exact ⟨[],VRl.nil ρ,fun w' _=>by simp [Builtin.firstCells]⟩
   ·cases h
  | some b =>
   simp only [cellsOf] at h
   split at h
   ·rename_i cs e m r hsp hg
    obtain ⟨b',k',o,_,_,e1,e2,e3,_,_,_⟩:=hI.see hg rfl
    obtain ⟨bb,off,sp⟩:=b
    cases hsp
    cases hv with
    | slice off sp n2 c c' f1 f2 f3 f4 =>
     simp only at e1
     rw [f1] at e1;cases e1
     obtain ⟨cc,e',fz,rfl⟩:∃ cc e' fz,o = .cells cc e' fz:=by cases o <;> first | exact ⟨_,_,_,rfl⟩ | exact e3.elim
     obtain ⟨g1,g2,g3,g4,g5⟩:=e3
     obtain ⟨ys,y1,y2,y3⟩:=reals g5 h
     refine ⟨ys,y1,fun w' hs=>?_⟩
     have e2':w'.heap[k'.1]?=some (.cells cc e' fz):=by rw [hs.heap];exact e2
     have:=run_cells (P:=P) e2' y3
     rw [y2] at this
     simpa [Builtin.firstCells] using this
   ·cases h
 | string b =>
  cases hv
  simp only [cellsOf,Option.some.injEq] at h
  subst h
  refine ⟨(b.data.toList.take n).map fun x=>.int .u8 (x.toNat:Int),?_,fun w' _=>?_⟩
  ·refine ⟨rfl,fun i x y h1 h2=>?_⟩
   rw [h1] at h2
   cases h2
   rw [List.getElem?_map] at h1
   cases hb:(b.data.toList.take n)[i]? with
   | none=>rw [hb] at h1;cases h1
   | some z=>rw [hb] at h1;cases h1;exact .int _ _
  ·simp only [Builtin.firstCells,Sem.run_pure]
   congr 1
   apply Array.ext'
   simp [Lib.extract_data]
 | _=>simp [cellsOf] at h
theorem growBy_le (n:Nat):∀ (r c:Nat),Builtin.growBy n r c≤c∨Builtin.growBy n r c≤2 * n+1000
 | 0,c=>.inl (Nat.le_refl _)
 | r+1,c=>by
  unfold Builtin.growBy
  split
  ·exact .inl (Nat.le_refl _)
  ·rcases growBy_le n r (c+(c+768) / 4) with h | h
   ·exact .inr (by omega)
   ·exact .inr h
theorem nextslicecap_le {n o:Nat} (h:o<n):Builtin.nextslicecap n o≤2 * n+1000:=by
 unfold Builtin.nextslicecap
 split
 ·omega
 ·split
  ·omega
  ·rcases growBy_le n 4 o with h2 | h2 <;> omega
theorem grown_ge (w:World) (need old:Nat) (e:TypeId):need≤grownCap w need old e:=by
 unfold grownCap Question.cut
 exact Nat.le_add_right _ _
theorem same_drew (w:World):Same w w.drew:=⟨rfl,rfl,rfl,rfl⟩
theorem srcA_run {d:TypeDesc} {tx:TypeId} {z:List Value} {size k:Nat} {y y':Value} {news:List Value} (hu:P.underlying tx=some d) (h:srcA P s d z size y=some (k,news)) (hI:In ρ M s base w0 w) (hv:VR ρ y y') (h1:news.all oneCell=true) (hd:∀ q,d ≠ .int q) :
 ∃ ns,VRl ρ news ns∧Src P size tx y' k ns w:=by
 unfold srcA at h
 split at h
 ·rename_i e b k2 c
  cases hc:cellsOf s size (.slice b k2 c) k2 with
  | none=>rw [hc] at h;cases h
  | some xs =>
   rw [hc] at h
   simp only [Option.map_some,Option.some.injEq,Prod.mk.injEq] at h
   obtain ⟨rfl,rfl⟩:=h
   obtain ⟨ns,g1,g2⟩:=cellsOf_run (P:=P) hc hI hv
   refine ⟨ns,g1,.inl ⟨e,hu⟩,fun w'=>?_,g2 w (Same.refl w),g2 w.drew (same_drew w),?_,fun u hu=>?_⟩
   ·cases hv <;> rfl
   ·rw [← g1.1]
    cases b with
    | none =>
     simp only [cellsOf] at hc
     split at hc
     ·rename_i hb
      have:=Nat.eq_of_beq_eq_true hb
      cases hc
      simp [this]
     ·cases hc
    | some b =>
     simp only [cellsOf] at hc
     split at hc
     ·exact (cut_spec hc).1
     ·cases hc
   ·obtain ⟨i,hi,rfl⟩:=List.mem_iff_getElem.1 hu
    have hi2:i<xs.length:=by rw [g1.1];exact hi
    exact oneCell_real (g1.2 i _ _ (List.getElem?_eq_getElem hi2) (List.getElem?_eq_getElem hi)) (List.all_eq_true.1 h1 _ (by simp))
 ·rename_i b
  split at h
  ·rename_i hb
   have hb:=Nat.eq_of_beq_eq_true hb
   subst hb
   simp only [Option.some.injEq,Prod.mk.injEq] at h
   obtain ⟨rfl,rfl⟩:=h
   cases hv
   refine ⟨_,?_,Src.ofString w hu b⟩
   refine ⟨by simp [byteCells],fun i x y h1 h2=>?_⟩
   unfold byteCells at h2
   have e:(fun b:UInt8=>Value.int .u8 b.toNat)=fun x:UInt8=>Value.int .u8 (x.toNat:Int):=rfl
   rw [List.getElem?_map] at h1 h2
   cases hb:b.data.toList[i]? with
   | none=>rw [hb] at h1;cases h1
   | some q=>rw [hb] at h1 h2;cases h1;cases h2;exact .int _ _
  ·cases h
 ·exact absurd rfl (hd _)
 ·cases h
theorem fresh_done (hI:In ρ M s base w0 w) {w':World} {e:TypeId} {size m:Nat} {xs ys:List Value} {rest:Array Value} (hx:VRl ρ xs ys) (hc:ρ s.c=none) (hs:Same { w with heap:=w.heap.push (.cells (ys.toArray ++ rest) e) } w')
 {cap:Nat} (hm:m≤cap) (hroom:cap * size=ys.length+rest.size):Done ρ M s base w0 (new s (.cells (xs.map some) e true false)) w' (fun ρ'=>VR ρ' (.slice (some ⟨s.c,0,none⟩) m (BIG+size)) (.slice (some ⟨w.heap.size,0,none⟩) m cap)):=by
 have hb:BR ρ (.cells (xs.map some) e true false) (.cells (ys.toArray ++ rest) e):=by
  refine ⟨fun _=>rfl,?_,?_,?_,?_⟩
  ·simp [hx.1]
  ·intro h;cases h
  ·intro _ i _;simp
  ·intro i v hv
   rw [List.getElem?_map] at hv
   cases hxi:xs[i]? with
   | none=>rw [hxi] at hv;cases hv
   | some x =>
    rw [hxi] at hv;cases hv
    have hlt:i<ys.length:=by rw [← hx.1];exact (List.getElem?_eq_some_iff.1 hxi).1
    exact ⟨ys[i],by simp [Array.getElem?_append,hlt],hx.2 i _ _ hxi (List.getElem?_eq_getElem hlt)⟩
 refine Done.fresh (o:=.cells (ys.toArray ++ rest) e) hI hs.os hs.tape hs.output hs.heap hb rfl hc (fun ρ' hl hp=>VR.slice (k:=(w.heap.size,_)) 0 none m _ cap hp hm (fun h=>by omega) (fun _=>?_))
 simp [cellsIn,Nat.add_sub_cancel_left];omega
theorem Done.move {w':World} {Q:Ren→Prop} {n:Nat} {k:Nat × Nat} {b b2:Blk} {o:Obj} (h:In ρ M s base w0 w) (hM:M n=some b) (hl:isDead b=false) (hr:isRo b=false) (hk:ρ n=some k)
 (hw:WSet w w' k.1 o) (hcell:cellsIn o=k.2) (hb:BR ρ b2 o) (hro:isRo b2=false) (hd2:isDead b2=false) (hc:ρ s.c=none) (q:∀ ρ':Ren,ρ.le ρ'→ρ' s.c=some k→Q ρ'):Done ρ M s base w0 (new (put s n .dead) b2) w' Q:=by
 have hne:n≠s.c:=fun e=>by rw [e,hc] at hk;cases hk
 have hbase:base≤k.1:=by
  obtain ⟨k',o',e1,e2,_,e4,_⟩:=h.hr.blk n b hM hl
  rw [hk] at e1;cases e1
  exact e4 hr
 have hle:ρ.le (fun m=>if m=s.c then some k else ρ m):=fun m j e=>by
  show (if m=s.c then _ else _)=_
  by_cases hn:m=s.c
  ·rw [hn,hc] at e;cases e
  ·rw [if_neg hn,e]
 have live:∀ m f,(if m=s.c then some b2 else if m=n then some Blk.dead else M m)=some f→isDead f=false→(m=s.c∧f=b2)∨(m≠s.c∧m≠n∧M m=some f):=fun m f e1 e2=>by
  by_cases h1:m=s.c
  ·rw [if_pos h1] at e1;cases e1;exact .inl ⟨h1,rfl⟩
  ·rw [if_neg h1] at e1
   by_cases h2:m=n
   ·rw [if_pos h2] at e1;cases e1;simp [isDead] at e2
   ·rw [if_neg h2] at e1;exact .inr ⟨h1,h2,e1⟩
 refine ⟨fun m=>if m=s.c then some k else ρ m,fun m=>if m=s.c then some b2 else if m=n then some .dead else M m,hle,fun m=>?_,⟨fun m f hf=>?_,⟨fun m f hf hfd=>?_,fun m1 m2 f1 f2 j1 j h1 h2 h3 h4 h5 h6 h7=>?_,by rw [hw.size];exact h.hr.base⟩,h.bel.trans ⟨hw.os,hw.tape,hw.output,Nat.le_of_eq hw.size.symm,fun j hj=>hw.other j (by omega)⟩⟩,?_,q _ hle (by simp)⟩
 ·by_cases hn:m=s.c
  ·exact .inr ⟨by omega,by show m<s.c+1;omega⟩
  ·exact .inl (by simp [hn])
 ·rw [show (new (put s n .dead) b2).es=(s.c,b2) :: set s.es n .dead from rfl,get_cons,get_set] at hf
  by_cases hn:s.c=m
  ·rw [if_pos hn] at hf;cases hf
   exact ⟨b2,by simp [hn],Le.refl _⟩
  ·rw [if_neg hn] at hf
   by_cases hm:n=m
   ·rw [if_pos hm] at hf;cases hf
    exact ⟨.dead,by simp [Ne.symm hn,hm],Le.refl _⟩
   ·rw [if_neg hm] at hf
    obtain ⟨b',e1,e2⟩:=h.sub m f hf
    exact ⟨b',by simp only [if_neg (Ne.symm hn),if_neg (Ne.symm hm)];exact e1,e2⟩
 ·rcases live m f hf hfd with ⟨rfl,rfl⟩ | ⟨h1,h2,h3⟩
  ·exact ⟨k,o,by simp,hw.at_,hb.mono hle,fun _=>hbase,hcell⟩
  ·obtain ⟨k',o',e1,e2,e3,e4,e5⟩:=h.hr.blk m f h3 hfd
   have hkk:k'.1≠k.1:=fun e=>h2 (h.hr.inj m n f b k' k h3 hfd hM hl e1 hk e)
   exact ⟨k',o',by simp only [if_neg h1];exact e1,by rw [hw.other k'.1 hkk];exact e2,e3.mono hle,e4,e5⟩
 ·rcases live m1 f1 h1 h2 with ⟨a1,a2⟩ | ⟨a1,a2,a3⟩
  ·rcases live m2 f2 h3 h4 with ⟨b1,b2'⟩ | ⟨b1,b2',b3⟩
   ·omega
   ·exfalso
    simp only [if_pos a1,Option.some.injEq] at h5
    simp only [if_neg b1] at h6
    exact b2' (h.hr.inj m2 n f2 b j k b3 h4 hM hl h6 hk (by rw [← h7,← h5]))
  ·simp only [if_neg a1] at h5
   rcases live m2 f2 h3 h4 with ⟨b1,b2'⟩ | ⟨b1,b2',b3⟩
   ·exfalso
    simp only [if_pos b1,Option.some.injEq] at h6
    exact a2 (h.hr.inj m1 n f1 b j1 k a3 h2 hM hl h5 hk (by rw [h7,← h6]))
   ·simp only [if_neg b1] at h6
    exact h.hr.inj m1 m2 f1 f2 j1 j a3 h2 b3 h4 h5 h6 h7
 ·intro m hm
  have h1:m≠s.c:=fun e=>hm (mark_self _ _ m none ⟨_,List.mem_singleton.2 rfl,e.symm,Nat.le_refl _⟩)
  have h2:m≠n:=fun e=>hm (mark_cov _ _ m none (mark_self _ _ m none ⟨⟨n,0,HI⟩,by simp,e.symm,Nat.le_refl _⟩))
  simp [h1,h2]
theorem run_append_in {t tx ty e:TypeId} {i:TypeInfo} {n cap k:Nat} {y:Value} {ad:Addr} {ns:List Value} {w w':World} (ht:P.underlying t=some (.slice e)) (hi:P.info? e=some i) (hs:Src P i.size tx y k ns w) (hroom:n+k≤cap)
 (hst:(storeCells (ad.add (n * i.size)) ns).run P w = .ok () w'):(Builtin.append_ #[t,tx] ty #[.slice (some ad) n cap,y]).run P w = .ok (.slice (some ad) (n+k) cap) w':=by
 rcases hs.kind with ⟨e',hk⟩ | hk <;> simp [Builtin.append_,run_underlying ht,run_underlying hk,sizeOf,typeInfo,hi,hs.len,hroom,hs.cells,hst]
theorem add_real {b b' off m:Nat} {sp:Option Nat} (h:((⟨b,off,sp⟩:Addr).add m).spot=none):(⟨b',off,sp⟩:Addr).add m=⟨b',((⟨b,off,sp⟩:Addr).add m).off,none⟩∧((⟨b,off,sp⟩:Addr).add m).block=b:=by
 unfold Addr.add at *
 split at h
 ·rename_i hz;simp only at h;subst h;simp [hz]
 ·rename_i hz;simp [hz]
theorem run_append_in_nil {t tx ty e:TypeId} {i:TypeInfo} {n cap k:Nat} {y:Value} {w:World} (ht:P.underlying t=some (.slice e)) (hi:P.info? e=some i) (hs:Src P i.size tx y k [] w) (hroom:n+k≤cap) :
 (Builtin.append_ #[t,tx] ty #[.slice none n cap,y]).run P w = .ok (.slice none (n+k) cap) w:=by
 rcases hs.kind with ⟨e',hk⟩ | hk <;> simp [Builtin.append_,run_underlying ht,run_underlying hk,sizeOf,typeInfo,hi,hs.len,hroom,hs.cells]
theorem cellsOf_len {size n l c:Nat} {b:Option Addr} {xs:List Value} (h:cellsOf s size (.slice b l c) n=some xs):xs.length=n * size:=by
 cases b with
 | none =>
  simp only [cellsOf] at h
  split at h
  ·rename_i hb
   have:=Nat.eq_of_beq_eq_true hb
   cases h
   simp [this]
  ·cases h
 | some b =>
  simp only [cellsOf] at h
  split at h
  ·exact (cut_spec h).1
  ·cases h
theorem appendA_run {T:Tmps} {a:Act} {argTypes:Array TypeId} {x y x' y':Value} {ty:TypeId} {r:Res} {s':St} (hI:In ρ M s base w0 w) (hx:VR ρ x x') (hy:VR ρ y y') (hF:∀ n,s.c≤n→n<s'.c→ρ n=none) (h:appendA P s argTypes x y=some (r,s')) :
 s.c≤s'.c∧cov s.wr s'.wr ∧ ∃ v v' w',r = .val v∧(Builtin.append_ argTypes ty #[x',y']).run P w = .ok v' w'∧Done ρ M s base w0 s' w' (fun ρ'=>VR ρ' v v'):=by
 unfold appendA at h
 split at h
 ·rename_i t tx b n cap hat
  have hat':argTypes=#[t,tx]:=by apply Array.ext';simpa using hat
  subst hat'
  split at h
  ·rename_i e d ht hd
   split at h
   ·rename_i i z hi hz
    split at h
    ·rename_i k news hsrc
     split at h
     ·rename_i hb
      simp only [Bool.and_eq_true,Nat.ble_eq,Nat.beq_eq] at hb
      obtain ⟨⟨⟨b1,b2⟩,b3⟩,b4⟩:=hb
      obtain ⟨zv,z1,z2,z3⟩:=run_zeroT hz w
      have hzi:i.zero=some zv:=by
       have h1:=hz;unfold zeroT at h1;rw [hi] at h1;simp only at h1
       cases hq:i.zero with
       | none=>rw [hq] at h1;cases h1
       | some q=>simp [zeroValue,typeInfo,hi,hq] at z1;rw [z1]
      have hzs:zv.cells.size=i.size:=by have:=congrArg List.length z2;simp at this;omega
      have hfit:∀ o,o<n+k→Builtin.nextslicecap (n+k) o * i.bytes≤281474976710656:=fun o ho=>by
       have h1:=nextslicecap_le ho
       have h2:Builtin.nextslicecap (n+k) o * i.bytes≤2001000 * 1000000:=Nat.mul_le_mul (by omega) b2
       omega
      have hsrcI:(∀ q,d ≠ .int q) → ∃ ns,VRl ρ news ns∧Src P i.size tx y' k ns w:=fun hq=>srcA_run hd hsrc hI hy b4 hq
      have grow:∀ (s1:St) (b':Option Addr) (c':Nat) (old:List Value),In ρ M s base w0 w→(s1=s ∨ ∃ m,s1=put s m .dead)→x' = .slice b' n c'→c'<n+k→old.length=n * i.size→(∃ os,VRl ρ old os ∧ ∀ w',Same w w'→(Builtin.firstCells i.size n x').run P w' = .ok os.toArray w') →
       freshA s1 e i.size (n+k) (old ++ news)=some (r,s')→s.c≤s'.c∧cov s.wr s'.wr ∧ ∃ v v' w',r = .val v∧(Builtin.append_ #[t,tx] ty #[x',y']).run P w = .ok v' w'∧Done ρ M s base w0 s' w' (fun ρ'=>VR ρ' v v'):=fun s1 b' c' old hI hs1 hx1 hlt hol ⟨os,o1,o2⟩ hf=>by
       unfold freshA at hf
       obtain ⟨rfl,rfl⟩:=val_inv hf
       subst hx1
       have hsc:s1.c=s.c:=by rcases hs1 with rfl | ⟨m,rfl⟩ <;> rfl
       have hsw:cov s.wr s1.wr:=by rcases hs1 with rfl | ⟨m,rfl⟩;exact cov.refl _;exact mark_cov _ _
       have hfree:ρ s1.c=none:=by rw [hsc];exact hF s.c (Nat.le_refl _) (by show s.c<s1.c+1;omega)
       have two:∀ (w1 w2:World) (Q:Ren→Prop),Same w w1→(∀ M1,In ρ M1 s1 base w0 w1→Done ρ M1 s1 base w0 (new s1 (.cells ((old ++ news).map some) e true false)) w2 Q)→Done ρ M s base w0 (new s1 (.cells ((old ++ news).map some) e true false)) w2 Q:=fun w1 w2 Q hw hq=>by
        have h1:Done ρ M s base w0 s1 w1 (fun ρ'=>ρ'=ρ):=by
         rcases hs1 with rfl | ⟨m,rfl⟩
         ·exact Done.stay hI hw rfl
         ·exact Done.kill hI hw rfl
        refine Done.bind h1 (by omega) (Nat.le_succ _) (mark_cov _ _) (fun ρ1 M1 _ _ h2 h3=>?_)
        subst h3
        exact hq M1 h2
       refine ⟨by show s.c≤s1.c+1;omega,cov.trans hsw (mark_cov _ _),.slice (some ⟨s1.c,0,none⟩) (n+k) (BIG+i.size),?_⟩
       have hsum:∀ q,n+k≤q→q * i.size=n * i.size+k * i.size+(q-(n+k)) * i.size:=fun q hq=>by rw [← Nat.add_mul,← Nat.add_mul];congr 1;omega
       by_cases hint:∃ q,d = .int q
       ·obtain ⟨q,rfl⟩:=hint
        obtain ⟨kk,k3,rfl⟩:∃ kk k3,y = .int kk (.ofNat (k3+1)):=by
         unfold srcA at hsrc
         split at hsrc
         ·rename_i hh;cases hh
         ·rename_i hh;cases hh
         ·exact ⟨_,_,rfl⟩
         ·cases hsrc
        simp only [srcA] at hsrc
        cases hsz:Nat.blt 0 i.size with
        | false=>rw [hsz] at hsrc;cases hsrc
        | true =>
         rw [hsz] at hsrc
         simp only [Nat.blt_eq] at hsz
         simp only [Option.some.injEq,Prod.mk.injEq] at hsrc
         obtain ⟨rfl,rfl⟩:=hsrc
         cases hy
         have hrun:=Lib.run_append_grow_zeros (P:=P) w t tx ty e i zv kk q ht hd hi hzi b' n c' os (o2 w.drew (same_drew w)) (k3+1) (by omega) hsz hlt (by omega) (Nat.le_trans (Nat.mul_le_mul (by omega) b2:(k3+1) * i.bytes≤1000000 * 1000000) (by decide)) (hfit c' hlt)
         refine ⟨_,_,rfl,hrun,two w.drew _ _ (same_drew w) (fun M1 h2=>?_)⟩
         rw [zeroCells_arr,zeroCells_arr,z2]
         refine fresh_done (ys:=os ++ zeros z (k3+1)) (rest:=(zeros z (grownCap w (n+(k3+1)) c' e-(n+(k3+1)))).toArray) h2 (VRl.append o1 (VRl.zeros (flat_row z2 z3) _)) hfree ?_ (grown_ge _ _ _ _) ?_
         ·refine ⟨rfl,rfl,rfl,?_⟩
          show w.drew.heap.push _=w.drew.heap.push _
          congr 2
          apply Array.ext'
          simp
         ·have h4:=hsum _ (grown_ge w (n+(k3+1)) c' e)
          have h5:=o1.1
          simp only [List.length_append,zeros_len,List.size_toArray,b3]
          omega
       ·obtain ⟨ns,n1,n2⟩:=hsrcI (fun q hq=>hint ⟨q,hq⟩)
        have hrun:=run_append_grow_src (P:=P) w t tx ty e i zv ht hi hzi b' n c' os (o2 w.drew (same_drew w)) y' k ns n2 hlt (by omega) (hfit c' hlt)
        refine ⟨_,_,rfl,hrun,two w.drew _ _ (same_drew w) (fun M1 h2=>?_)⟩
        rw [zeroCells_arr,z2]
        refine fresh_done (ys:=os ++ ns) (rest:=(zeros z (grownCap w (n+k) c' e-(n+k))).toArray) h2 (VRl.append o1 n1) hfree ?_ (grown_ge _ _ _ _) ?_
        ·exact ⟨rfl,rfl,rfl,rfl⟩
        ·have h4:=hsum _ (grown_ge w (n+k) c' e)
         have h5:=o1.1
         have h6:=n2.newsLen
         simp only [List.length_append,zeros_len,List.size_toArray,b3]
         omega
      cases hkn:Nat.blt cap BIG with
      | true =>
       rw [hkn] at h
       simp only [Nat.blt_eq] at hkn
       cases hin:Nat.ble (n+k) cap with
       | true =>
        rw [hin] at h
        have hin:=Nat.le_of_ble_eq_true hin
        by_cases hint:∃ q,d = .int q
        ·obtain ⟨q,rfl⟩:=hint
         simp only [reduceCtorEq] at h
        ·obtain ⟨ns,n1,n2⟩:=hsrcI (fun q hq=>hint ⟨q,hq⟩)
         cases b with
         | none =>
          cases hx
          cases news with
          | nil =>
           have h:val (.slice none (n+k) cap) s=some (r,s'):=by cases d <;> first | exact h | exact absurd ⟨_,rfl⟩ hint
           obtain ⟨rfl,rfl⟩:=val_inv h
           obtain rfl:ns=[]:=List.eq_nil_of_length_eq_zero (by rw [← n1.1];rfl)
           exact ⟨Nat.le_refl _,cov.refl _,_,_,w,rfl,run_append_in_nil ht hi n2 hin,Done.stay hI (Same.refl w) (.snil _ _)⟩
          | cons q1 q2=>exfalso;cases d <;> first | (simp only [reduceCtorEq] at h;done) | exact hint ⟨_,rfl⟩
         | some ad =>
          have h:((writeA s (ad.add (n * i.size)) news).bind fun s'=>val (.slice (some ad) (n+k) cap) s')=some (r,s'):=by cases d <;> first | exact h | exact absurd ⟨_,rfl⟩ hint
          cases hw:writeA s (ad.add (n * i.size)) news with
          | none=>rw [hw] at h;cases h
          | some s1 =>
           rw [hw] at h
           obtain ⟨rfl,rfl⟩:=val_inv h
           obtain ⟨q1,q2,q3,q4⟩:=writeA_run (P:=P) hw hI n1
           cases hx with
           | slice off sp n2' c c' f1 f2 f3 f4 =>
            obtain rfl:=f3 hkn
            obtain ⟨w',g3,g4⟩:=q4 _ (by rw [(add_real (b':=0) q1).2];exact f1)
            rw [← (add_real q1).1] at g3
            refine ⟨by omega,q3,_,_,w',rfl,run_append_in ht hi n2 hin g3,?_⟩
            exact (g4 (fun ρ'=>ρ'=ρ) rfl).mono (fun ρ' hl he=>by subst he;exact .slice off sp (n+k) _ _ f1 hin (fun _=>rfl) (fun hc=>by omega))
       | false =>
        rw [hin] at h
        have hin:cap<n+k:=by
         rcases Nat.lt_or_ge cap (n+k) with h1 | h1
         ·exact h1
         ·rw [Nat.ble_eq_true_of_le h1] at hin;cases hin
        simp only at h
        cases hco:cellsOf s i.size (.slice b n cap) n with
        | none=>rw [hco] at h;cases h
        | some old =>
         rw [hco] at h
         have hx1:∃ b',x' = .slice b' n cap:=by
          cases hx with
          | snil=>exact ⟨_,rfl⟩
          | slice off sp n2 c c' f1 f2 f3 f4=>rw [f3 hkn];exact ⟨_,rfl⟩
         obtain ⟨b',hx1⟩:=hx1
         exact grow s b' cap old hI (.inl rfl) hx1 hin (cellsOf_len hco) (cellsOf_run hco hI hx) h
      | false =>
       rw [hkn] at h
       by_cases hint:∃ q,d = .int q
       ·obtain ⟨q,rfl⟩:=hint
        simp only [reduceCtorEq] at h
       ·obtain ⟨ns,n1,n2⟩:=hsrcI (fun q hq=>hint ⟨q,hq⟩)
        cases b with
        | none=>exfalso;cases d <;> first | (simp only [reduceCtorEq] at h;done) | exact hint ⟨_,rfl⟩
        | some ad =>
         have h:(match Nat.beq ad.off 0 && Nat.beq cap (BIG+i.size),get s.es ad.block with
          | true,some (.cells _ e' _ false)=>(match Nat.beq e' e with
           | true=>(cellsOf s i.size (.slice (some ad) n cap) n).bind fun old=>freshA (put s ad.block .dead) e i.size (n+k) (old ++ news)
           | false=>none)
          | _,_=>none)=some (r,s'):=by cases d <;> first | exact h | exact absurd ⟨_,rfl⟩ hint
         split at h
         ·rename_i cs e' mm hbb hg
          simp only [Bool.and_eq_true,Nat.beq_eq] at hbb
          obtain ⟨hb1,hb2⟩:=hbb
          split at h
          case h_2=>cases h
          rename_i hee
          have hee:=Nat.eq_of_beq_eq_true hee
          subst hee
          cases hco:cellsOf s i.size (.slice (some ad) n cap) n with
          | none=>rw [hco] at h;cases h
          | some old =>
           rw [hco] at h
           simp only [Option.bind_some] at h
           have hcr:=cellsOf_run (P:=P) hco hI hx
           have hcl:=cellsOf_len hco
           have hsp:ad.spot=none:=by
            simp only [cellsOf] at hco
            split at hco
            ·rename_i h1 _;exact h1
            ·cases hco
           obtain ⟨bn,off,sp⟩:=ad
           simp only at hb1 hsp hg
           subst hb1
           subst hsp
           cases hx with
           | slice off sp n2' c c' f1 f2 f3 f4 =>
            by_cases hroom:n+k≤c'
            ·unfold freshA at h
             obtain ⟨rfl,rfl⟩:=val_inv h
             obtain ⟨b',k',o,hM,hle,e1,e2,e3,e3',e4,e5⟩:=hI.see hg rfl
             have ek:=Option.some.inj (e1.symm.trans f1)
             subst ek
             obtain ⟨cc,e'',fz,rfl⟩:∃ cc e'' fz,o = .cells cc e'' fz:=by cases o <;> first | exact ⟨_,_,_,rfl⟩ | exact e3.elim
             obtain ⟨cs',rfl,hlen⟩:=shp_cells hle.1
             obtain ⟨p1,p2,p3,p4,p5⟩:=e3
             obtain rfl:=p1 rfl
             have p4:=p4 rfl
             obtain ⟨os,o1,o2⟩:=hcr
             have hroom2:c' * i.size=k'.2:=by
              have:=f4 (by rw [hb2];omega)
              rw [hb2,Nat.add_sub_cancel_left] at this
              omega
             have hnl:=n2.newsLen
             have hcs:cc.size=k'.2:=e5
             have hmul:n * i.size+k * i.size≤c' * i.size:=by rw [← Nat.add_mul];exact Nat.mul_le_mul_right _ hroom
             obtain ⟨c2,hw,hsz,hc2⟩:=setCells_set k'.1 _ fz ns (n * i.size) cc w e2 (by omega)
             have hrun:=run_append_room_src (P:=P) w t tx ty _ i ht hi k'.1 0 n c' y' k ns n2 hroom (fun j hj=>by
              rw [cell_of e2,Array.getElem?_eq_getElem (by omega)];rfl) (fun j hj=>frozen_of e2 (p4 _ (by omega)).1)
             rw [Nat.zero_add] at hrun
             refine ⟨by show s.c≤s.c+1;omega,cov.trans (mark_cov _ _) (mark_cov _ _),_,_,_,rfl,hrun,?_⟩
             have hbr:BR ρ (.cells ((old ++ news).map some) e'' true false) (.cells c2 e'' fz):=by
              refine ⟨fun _=>rfl,?_,?_,fun _ j hj=>p4 j (by omega),fun j v hv=>?_⟩
              ·have h7:=n1.1
               simp only [List.length_map,List.length_append]
               omega
              ·intro hh;simp at hh
              ·rw [List.getElem?_map] at hv
               rw [hc2 j]
               cases hj:(old ++ news)[j]? with
               | none=>rw [hj] at hv;cases hv
               | some x =>
                rw [hj] at hv;cases hv
                by_cases hjo:j<old.length
                ·rw [if_neg (by omega)]
                 rw [List.getElem?_append_left hjo] at hj
                 have h8:=(cut_spec (by
                  have h9:=hco
                  simp only [cellsOf,hg] at h9
                  exact h9)).2.2 j _ hj
                 rw [Nat.zero_add] at h8
                 exact p5 j _ h8
                ·have h7:=n1.1
                 rw [List.getElem?_append_right (by omega)] at hj
                 have hlt2:=(List.getElem?_eq_some_iff.1 hj).1
                 rw [if_pos (by omega),show j-n * i.size=j-old.length by omega]
                 exact ⟨ns[j-old.length],List.getElem?_eq_getElem (by omega),n1.2 _ _ _ hj (List.getElem?_eq_getElem (by omega))⟩
             refine Done.move (n:=bn) (k:=k') (b:=.cells cs' _ mm false) (b2:=.cells ((old ++ news).map some) _ true false) (o:=.cells c2 _ fz) hI hM rfl rfl f1 hw (by simp only [cellsIn];omega) hbr rfl rfl (hF s.c (Nat.le_refl _) (by show s.c<s.c+1;omega)) (fun ρ' hl hp=>.slice 0 none (n+k) _ c' hp hroom (fun hh=>by omega) (fun _=>by rw [Nat.add_sub_cancel_left];omega))
            ·exact grow _ _ c' old hI (.inr ⟨_,rfl⟩) rfl (by omega) hcl hcr h
         ·cases h
     ·cases h
    ·cases h
   ·cases h
  ·cases h
 ·cases h
end
end Ev
