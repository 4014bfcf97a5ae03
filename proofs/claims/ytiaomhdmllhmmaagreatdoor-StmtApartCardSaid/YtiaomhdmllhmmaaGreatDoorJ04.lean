/- Statements, in the document's words: which may be, and of which tokens and blanks their te Statements read from tokens, by the grammar; and how one reads what was written. -/
import Derived.Test.YtiaomhdmllhmmaaGreatDoorJ03
namespace Go.Proofs.YtiaomhdmllhmmaaGreatDoor.Sm
open Lx Ep
set_option linter.unusedVariables false
abbrev Bs:=List UInt8
structure Co where
 nm:Bs
 ty:Int
 nn:Bool
structure Cn where
 nm:Bs
 kind:Int
 cols:List Bs
 chk:Ex
 tbl:Bs
 refs:List Bs
def noEx:Ex:= .mk 0 0 0 0 [] [] []
inductive St where
 |mk (kind:Int) (table name role:Bs) (cols:List Co) (cons:List Cn) (names:List Bs) (rows:List (List Ex)) (wh:Ex) (sets:List (Bs × Ex)) (order:List (Ex × Bool)) (limit priv:Int) (opt:Bool) (kids:List St)
def kCREATE:Bs:= [67,82,69,65,84,69]
def kDROP:Bs:= [68,82,79,80]
def kALTER:Bs:= [65,76,84,69,82]
def kTABLE:Bs:= [84,65,66,76,69]
def kADD:Bs:= [65,68,68]
def kCOLUMN:Bs:= [67,79,76,85,77,78]
def kRENAME:Bs:= [82,69,78,65,77,69]
def kTO:Bs:= [84,79]
def kCONSTRAINT:Bs:= [67,79,78,83,84,82,65,73,78,84]
def kINDEX:Bs:= [73,78,68,69,88]
def kON:Bs:= [79,78]
def kROLE:Bs:= [82,79,76,69]
def kGRANT:Bs:= [71,82,65,78,84]
def kREVOKE:Bs:= [82,69,86,79,75,69]
def kFROM:Bs:= [70,82,79,77]
def kWITH:Bs:= [87,73,84,72]
def kOPTION:Bs:= [79,80,84,73,79,78]
def kINSERT:Bs:= [73,78,83,69,82,84]
def kINTO:Bs:= [73,78,84,79]
def kVALUES:Bs:= [86,65,76,85,69,83]
def kUPDATE:Bs:= [85,80,68,65,84,69]
def kSET:Bs:= [83,69,84]
def kWHERE:Bs:= [87,72,69,82,69]
def kDELETE:Bs:= [68,69,76,69,84,69]
def kSELECT:Bs:= [83,69,76,69,67,84]
def kORDER:Bs:= [79,82,68,69,82]
def kBY:Bs:= [66,89]
def kDESC:Bs:= [68,69,83,67]
def kLIMIT:Bs:= [76,73,77,73,84]
def kPREPARE:Bs:= [80,82,69,80,65,82,69]
def kAS:Bs:= [65,83]
def kEXECUTE:Bs:= [69,88,69,67,85,84,69]
def kDEALLOCATE:Bs:= [68,69,65,76,76,79,67,65,84,69]
def kUNIQUE:Bs:= [85,78,73,81,85,69]
def kCHECK:Bs:= [67,72,69,67,75]
def kFOREIGN:Bs:= [70,79,82,69,73,71,78]
def kKEY:Bs:= [75,69,89]
def kREFERENCES:Bs:= [82,69,70,69,82,69,78,67,69,83]
def kINT:Bs:= [73,78,84]
def kBOOL:Bs:= [66,79,79,76]
def kTEXT:Bs:= [84,69,88,84]
def tyW (t:Int):Bs:=if t=1 then kINT else if t=2 then kBOOL else if t=3 then kTEXT else []
def prW (p:Int):Bs:=if p=1 then kSELECT else if p=2 then kINSERT else if p=3 then kUPDATE else if p=4 then kDELETE else []
def K (l:Bs):Pc:=some (key l)
def N (l:Bs):Pc:=some (1,l)
def C (c:UInt8):Pc:=some (sgn6 c)
def sep:List (List Pc)→List Pc
 | []=> []
 | [a]=>a
 |a::b::l=>a++(C 44::none::sep (b::l))
def brk (l:List Pc):List Pc:=C 40::(l++ [C 41])
def nmsP (l:List Bs):List Pc:=sep (l.map fun x=> [N x])
def exsP (l:List Ex):List Pc:=sep (l.map pcs)
def coP (x:Co):List Pc:=N x.nm::none::K (tyW x.ty)::(if x.nn=true then [none,K kNOT,none,K Val.wNull] else [])
def cnP (x:Cn):List Pc:=K kCONSTRAINT::none::N x.nm::none::
 (if x.kind=1 then K kUNIQUE::none::brk (nmsP x.cols)
 else if x.kind=2 then K kCHECK::none::brk (pcs x.chk)
 else K kFOREIGN::none::K kKEY::none::(brk (nmsP x.cols)++(none::K kREFERENCES::none::N x.tbl::none::brk (nmsP x.refs))))
def isNo:Ex→Bool
 | .mk k o vk vn vs nm kids=>k==0 && o==0 && vk==0 && vn==0 && vs.isEmpty && nm.isEmpty && kids.isEmpty
def whP (e:Ex):List Pc:=if isNo e=true then [] else none::K kWHERE::none::pcs e
def ordP (x:Ex × Bool):List Pc:=pcs x.1++(if x.2=true then [none,K kDESC] else [])
def setP (x:Bs × Ex):List Pc:=N x.1::none::C 61::none::pcs x.2
def limP (n:Int):List Pc:=if 0≤n then [none,K kLIMIT,none,some (3,Num.dgz n)] else []
def selX:List (List Ex)→List Pc
 | []=> [C 42]
 |x::_=>exsP x
def exeX:List (List Ex)→List Pc
 | []=> []
 |x::_=>none::brk (exsP x)
def stP:St→List Pc
  | .mk k t n r cols cons names rows wh sets order limit priv opt kids=>
    if k=1 then K kCREATE::none::K kTABLE::none::N t::none::brk (sep (cols.map coP++cons.map cnP))
    else if k=2 then [K kDROP,none,K kTABLE,none,N t]
    else if k=3 then K kALTER::none::K kTABLE::none::N t::none::K kADD::none::K kCOLUMN::none::sep (cols.map coP)
    else if k=4 then [K kALTER,none,K kTABLE,none,N t,none,K kDROP,none,K kCOLUMN,none,N n]
    else if k=5 then [K kALTER,none,K kTABLE,none,N t,none,K kRENAME,none,K kTO,none,N n]
    else if k=6 then K kALTER::none::K kTABLE::none::N t::none::K kADD::none::sep (cons.map cnP)
    else if k=7 then [K kALTER,none,K kTABLE,none,N t,none,K kDROP,none,K kCONSTRAINT,none,N n]
    else if k=8 then K kCREATE::none::K kINDEX::none::N n::none::K kON::none::N t::none::brk (nmsP names)
    else if k=9 then [K kDROP,none,K kINDEX,none,N n,none,K kON,none,N t]
    else if k=10 then [K kCREATE,none,K kROLE,none,N n]
    else if k=11 then [K kDROP,none,K kROLE,none,N n]
    else if k=12 then [K kGRANT,none,K kROLE,none,N n,none,K kTO,none,N r]
    else if k=13 then [K kREVOKE,none,K kROLE,none,N n,none,K kFROM,none,N r]
    else if k=14 then K kGRANT::none::K (prW priv)::none::K kON::none::N t::none::K kTO::none::N r::(if opt=true then [none,K kWITH,none,K kGRANT,none,K kOPTION] else [])
    else if k=15 then [K kREVOKE,none,K (prW priv),none,K kON,none,N t,none,K kFROM,none,N r]
    else if k=16 then K kINSERT::none::K kINTO::none::N t::none::((if names.isEmpty=true then [] else brk (nmsP names)++ [none])++(K kVALUES::none::sep (rows.map fun x=>brk (exsP x))))
    else if k=17 then K kUPDATE::none::N t::none::K kSET::none::(sep (sets.map setP)++whP wh)
    else if k=18 then K kDELETE::none::K kFROM::none::N t::whP wh
    else if k=19 then K kSELECT::none::(selX rows++(none::K kFROM::none::N t::(whP wh++((if order.isEmpty=true then [] else none::K kORDER::none::K kBY::none::sep (order.map ordP))++limP limit))))
    else if k=20 then K kPREPARE::none::N n::none::K kAS::none::(match kids with| []=> []|s::_=>stP s)
    else if k=21 then K kEXECUTE::none::N n::exeX rows
    else [K kDEALLOCATE,none,N n]
mutual
def ht:Ex→Nat
 | .mk _ _ _ _ _ _ kids=>htL kids+1
def htL:List Ex→Nat
 | []=>0
 |x::l=>max (ht x) (htL l)
end
def Lo (e:Ex):Prop:=Rt e∧ht e≤8
def isN (l:Bs):Prop:=kindOf l=1
def okNs (l:List Bs) (least most:Nat):Prop:=least≤l.length∧l.length≤most∧∀x∈l,isN x
def okEs (l:List Ex) (most:Nat):Prop:=1≤l.length∧l.length≤most∧∀x∈l,Lo x
def okCo (x:Co):Prop:=isN x.nm∧1≤x.ty∧x.ty≤3
inductive OkCn:Cn→Prop
 |unique {nm:Bs} {cols:List Bs}:isN nm→okNs cols 1 3→OkCn ⟨nm,1,cols,noEx, [], []⟩
 |check {nm:Bs} {e:Ex}:isN nm→Lo e→OkCn ⟨nm,2, [],e, [], []⟩
 |foreign {nm t:Bs} {cols refs:List Bs}:isN nm→okNs cols 1 3→isN t→okNs refs cols.length cols.length→OkCn ⟨nm,3,cols,noEx,t,refs⟩
def okWh (e:Ex):Prop:=e=noEx ∨ Lo e
inductive OkR:St→Prop
 |insert {t:Bs} {ns:List Bs} {rows:List (List Ex)}:isN t→okNs ns 0 6→1≤rows.length→rows.length≤8→(∀x∈rows,okEs x 6)→OkR (.mk 16 t [] [] [] [] ns rows noEx [] [] 0 0 false [])
 |update {t:Bs} {sets:List (Bs × Ex)} {wh:Ex}:isN t→1≤sets.length→sets.length≤6→(∀x∈sets,isN x.1∧Lo x.2)→okWh wh→OkR (.mk 17 t [] [] [] [] [] [] wh sets [] 0 0 false [])
 |delete {t:Bs} {wh:Ex}:isN t→okWh wh→OkR (.mk 18 t [] [] [] [] [] [] wh [] [] 0 0 false [])
 |select {t:Bs} {rows:List (List Ex)} {wh:Ex} {order:List (Ex × Bool)} {limit:Int}:isN t→rows.length≤1→(∀x∈rows,okEs x 6)→okWh wh→order.length≤3→(∀x∈order,Lo x.1)→ -1≤limit→limit≤9999→
     OkR (.mk 19 t [] [] [] [] [] rows wh [] order limit 0 false [])
inductive OkS:St→Prop
 |table {t:Bs} {cols:List Co} {cons:List Cn}:isN t→1≤cols.length→cols.length≤6→(∀x∈cols,okCo x)→cons.length≤6→(∀x∈cons,OkCn x)→OkS (.mk 1 t [] [] cols cons [] [] noEx [] [] 0 0 false [])
 |dropTable {t:Bs}:isN t→OkS (.mk 2 t [] [] [] [] [] [] noEx [] [] 0 0 false [])
 |addCol {t:Bs} {x:Co}:isN t→okCo x→OkS (.mk 3 t [] [] [x] [] [] [] noEx [] [] 0 0 false [])
 |dropCol {t n:Bs}:isN t→isN n→OkS (.mk 4 t n [] [] [] [] [] noEx [] [] 0 0 false [])
 |rename {t n:Bs}:isN t→isN n→OkS (.mk 5 t n [] [] [] [] [] noEx [] [] 0 0 false [])
 |addCons {t:Bs} {x:Cn}:isN t→OkCn x→OkS (.mk 6 t [] [] [] [x] [] [] noEx [] [] 0 0 false [])
 |dropCons {t n:Bs}:isN t→isN n→OkS (.mk 7 t n [] [] [] [] [] noEx [] [] 0 0 false [])
 |index {t n:Bs} {ns:List Bs}:isN t→isN n→okNs ns 1 3→OkS (.mk 8 t n [] [] [] ns [] noEx [] [] 0 0 false [])
 |dropIndex {t n:Bs}:isN t→isN n→OkS (.mk 9 t n [] [] [] [] [] noEx [] [] 0 0 false [])
 |role {n:Bs}:isN n→OkS (.mk 10 [] n [] [] [] [] [] noEx [] [] 0 0 false [])
 |dropRole {n:Bs}:isN n→OkS (.mk 11 [] n [] [] [] [] [] noEx [] [] 0 0 false [])
 |grantRole {n r:Bs}:isN n→isN r→OkS (.mk 12 [] n r [] [] [] [] noEx [] [] 0 0 false [])
 |revokeRole {n r:Bs}:isN n→isN r→OkS (.mk 13 [] n r [] [] [] [] noEx [] [] 0 0 false [])
 |grant {t r:Bs} {p:Int} {o:Bool}:isN t→isN r→1≤p→p≤4→OkS (.mk 14 t [] r [] [] [] [] noEx [] [] 0 p o [])
 |revoke {t r:Bs} {p:Int}:isN t→isN r→1≤p→p≤4→OkS (.mk 15 t [] r [] [] [] [] noEx [] [] 0 p false [])
 |rows {s:St}:OkR s→OkS s
 |prepare {n:Bs} {s:St}:isN n→OkR s→OkS (.mk 20 [] n [] [] [] [] [] noEx [] [] 0 0 false [s])
 |execute {n:Bs} {rows:List (List Ex)}:isN n→rows.length≤1→(∀x∈rows,okEs x 6)→OkS (.mk 21 [] n [] [] [] [] rows noEx [] [] 0 0 false [])
 |deallocate {n:Bs}:isN n→OkS (.mk 22 [] n [] [] [] [] [] noEx [] [] 0 0 false [])
end Go.Proofs.YtiaomhdmllhmmaaGreatDoor.Sm
namespace Go.Proofs.YtiaomhdmllhmmaaGreatDoor.Sm
open Lx Ep
set_option linter.unusedVariables false
section
variable (L:List Tt)
def mustP (w:Bs) (p:Nat):Res Unit:=if isT L p w=true then .ok () (p+1) else .err 16 p
def nameP (p:Nat):Res Bs:=if (tk L p).1=1 then .ok (tk L p).2 (p+1) else .err 16 p
def anyP (n p:Nat):Res Ex:=match rankP L n 1 p with
 | .ok x q=>if ht x≤8 then .ok x q else .err 17 p
 | .err e q=> .err e q
def moreOf {α:Type} (item:Nat→Res α):Nat→List α→Nat→Res (List α)
 |0,l,p=> .ok l p
 |m+1,l,p=>if isT L p [44]=true then (item (p+1)).bind fun x q=>moreOf item m (l++ [x]) q else .ok l p
def listOf {α:Type} (item:Nat→Res α) (most:Nat) (p:Nat):Res (List α):=(item p).bind fun x q=>moreOf L item (most - 1) [x] q
def insideP (most p:Nat):Res (List Bs):=(mustP L [40] p).bind fun _ q=>(listOf L (nameP L) most q).bind fun l q=>(mustP L [41] q).bind fun _ q=> .ok l q
def tyP (p:Nat):Res Int:=if isT L p kINT=true then .ok 1 (p+1) else if isT L p kBOOL=true then .ok 2 (p+1) else if isT L p kTEXT=true then .ok 3 (p+1) else .err 16 p
def nn2 (x:Bs) (t:Int) (p:Nat):Res Co:=(mustP L Val.wNull p).bind fun _ q=> .ok ⟨x,t,true⟩ q
def nnP (x:Bs) (t:Int) (p:Nat):Res Co:=if isT L p kNOT=true then nn2 L x t (p+1) else .ok ⟨x,t,false⟩ p
def columnP (p:Nat):Res Co:=(nameP L p).bind fun x q=>(tyP L q).bind fun t q=>nnP L x t q
def refsP:Nat→List Bs→Nat→Res (List Bs)
 |0,l,p=> .ok l p
 |m+1,l,p=>if l= [] then (nameP L p).bind fun x q=>refsP m (l++ [x]) q else (mustP L [44] p).bind fun _ q=>(nameP L q).bind fun x q=>refsP m (l++ [x]) q
def uniqueP (x:Bs) (p:Nat):Res Cn:=(insideP L 3 p).bind fun l q=> .ok ⟨x,1,l,noEx, [], []⟩ q
def checkP (x:Bs) (n p:Nat):Res Cn:=(mustP L [40] p).bind fun _ q=>(anyP L n q).bind fun e q=>(mustP L [41] q).bind fun _ q=> .ok ⟨x,2, [],e, [], []⟩ q
def foreignP (x:Bs) (p:Nat):Res Cn:=(mustP L kFOREIGN p).bind fun _ q=>(mustP L kKEY q).bind fun _ q=>(insideP L 3 q).bind fun l q=>(mustP L kREFERENCES q).bind fun _ q=>(nameP L q).bind fun t q=>
 (mustP L [40] q).bind fun _ q=>(refsP L l.length [] q).bind fun r q=>(mustP L [41] q).bind fun _ q=> .ok ⟨x,3,l,noEx,t,r⟩ q
def cons2 (x:Bs) (n p:Nat):Res Cn:=if isT L p kUNIQUE=true then uniqueP L x (p+1) else if isT L p kCHECK=true then checkP L x n (p+1) else foreignP L x p
def consP (n p:Nat):Res Cn:=(nameP L p).bind fun x q=>cons2 L x n q
def colsMore:Nat→List Co→Nat→Res (List Co)
 |0,l,p=> .ok l p
 |m+1,l,p=>if isT L p [44]=true∧(tk L (p+1)).1=1 then (columnP L (p+1)).bind fun x q=>colsMore m (l++ [x]) q else .ok l p
def consMore (n:Nat):Nat→List Cn→Nat→Res (List Cn)
 |0,l,p=> .ok l p
 |m+1,l,p=>if isT L p [44]=true∧isT L (p+1) kCONSTRAINT=true then (consP L n (p+2)).bind fun x q=>consMore n m (l++ [x]) q else .ok l p
def shutP (cols:List Co) (cons:List Cn) (p:Nat):Res Unit:=
 if isT L p [44]=true∧¬(cols.length=6∧cons.length=0∧(tk L (p+1)).1=1)∧¬(cons.length=6∧isT L (p+1) kCONSTRAINT=true) then .err 16 (p+1) else mustP L [41] p
def tableP (n p:Nat):Res St:=(nameP L p).bind fun t q=>(mustP L [40] q).bind fun _ q=>(columnP L q).bind fun x q=>(colsMore L 5 [x] q).bind fun cols q=>(consMore L n 6 [] q).bind fun cons q=>
 (shutP L cols cons q).bind fun _ q=> .ok (.mk 1 t [] [] cols cons [] [] noEx [] [] 0 0 false []) q
def oneNm (f:Bs→St) (p:Nat):Res St:=(nameP L p).bind fun x q=> .ok (f x) q
def onNm (f:Bs→Bs→St) (w:Bs) (p:Nat):Res St:=(nameP L p).bind fun x q=>(mustP L w q).bind fun _ q=>(nameP L q).bind fun y q=> .ok (f x y) q
def indexP (p:Nat):Res St:=(nameP L p).bind fun x q=>(mustP L kON q).bind fun _ q=>(nameP L q).bind fun t q=>(insideP L 3 q).bind fun l q=> .ok (.mk 8 t x [] [] [] l [] noEx [] [] 0 0 false []) q
def createP (n p:Nat):Res St:=if isT L p kROLE=true then oneNm L (fun x=> .mk 10 [] x [] [] [] [] [] noEx [] [] 0 0 false []) (p+1) else if isT L p kINDEX=true then indexP L (p+1) else (mustP L kTABLE p).bind fun _ q=>tableP L n q
def dropP (p:Nat):Res St:=if isT L p kROLE=true then oneNm L (fun x=> .mk 11 [] x [] [] [] [] [] noEx [] [] 0 0 false []) (p+1)
 else if isT L p kINDEX=true then onNm L (fun x t=> .mk 9 t x [] [] [] [] [] noEx [] [] 0 0 false []) kON (p+1)
 else (mustP L kTABLE p).bind fun _ q=>oneNm L (fun t=> .mk 2 t [] [] [] [] [] [] noEx [] [] 0 0 false []) q
def renP (t:Bs) (p:Nat):Res St:=(mustP L kTO p).bind fun _ q=>oneNm L (fun x=> .mk 5 t x [] [] [] [] [] noEx [] [] 0 0 false []) q
def consOf (t:Bs) (n p:Nat):Res St:=(consP L n p).bind fun x q=> .ok (.mk 6 t [] [] [] [x] [] [] noEx [] [] 0 0 false []) q
def addP (t:Bs) (n p:Nat):Res St:=if isT L p kCONSTRAINT=true then consOf L t n (p+1) else (mustP L kCOLUMN p).bind fun _ q=>(columnP L q).bind fun x q=> .ok (.mk 3 t [] [] [x] [] [] [] noEx [] [] 0 0 false []) q
def drP (t:Bs) (p:Nat):Res St:=if isT L p kCONSTRAINT=true then oneNm L (fun x=> .mk 7 t x [] [] [] [] [] noEx [] [] 0 0 false []) (p+1)
 else (mustP L kCOLUMN p).bind fun _ q=>oneNm L (fun x=> .mk 4 t x [] [] [] [] [] noEx [] [] 0 0 false []) q
def alt2 (t:Bs) (n p:Nat):Res St:=if isT L p kRENAME=true then renP L t (p+1) else if isT L p kADD=true then addP L t n (p+1) else (mustP L kDROP p).bind fun _ q=>drP L t q
def alterP (n p:Nat):Res St:=(mustP L kTABLE p).bind fun _ q=>(nameP L q).bind fun t q=>alt2 L t n q
def privP (p:Nat):Res Int:=if isT L p kSELECT=true then .ok 1 (p+1) else if isT L p kINSERT=true then .ok 2 (p+1) else if isT L p kUPDATE=true then .ok 3 (p+1) else if isT L p kDELETE=true then .ok 4 (p+1) else .err 16 p
def opt2 (t r:Bs) (x:Int) (p:Nat):Res St:=(mustP L kGRANT p).bind fun _ q=>(mustP L kOPTION q).bind fun _ q=> .ok (.mk 14 t [] r [] [] [] [] noEx [] [] 0 x true []) q
def optP (t r:Bs) (x:Int) (p:Nat):Res St:=if isT L p kWITH=true then opt2 L t r x (p+1) else .ok (.mk 14 t [] r [] [] [] [] noEx [] [] 0 x false []) p
def grantP (p:Nat):Res St:=if isT L p kROLE=true then onNm L (fun x r=> .mk 12 [] x r [] [] [] [] noEx [] [] 0 0 false []) kTO (p+1)
 else (privP L p).bind fun x q=>(mustP L kON q).bind fun _ q=>(nameP L q).bind fun t q=>(mustP L kTO q).bind fun _ q=>(nameP L q).bind fun r q=>optP L t r x q
def revokeP (p:Nat):Res St:=if isT L p kROLE=true then onNm L (fun x r=> .mk 13 [] x r [] [] [] [] noEx [] [] 0 0 false []) kFROM (p+1)
 else (privP L p).bind fun x q=>(mustP L kON q).bind fun _ q=>(nameP L q).bind fun t q=>(mustP L kFROM q).bind fun _ q=>(nameP L q).bind fun r q=> .ok (.mk 15 t [] r [] [] [] [] noEx [] [] 0 x false []) q
def whereP (n p:Nat):Res Ex:=if isT L p kWHERE=true then anyP L n (p+1) else .ok noEx p
def exsIn (most n p:Nat):Res (List Ex):=(mustP L [40] p).bind fun _ q=>(listOf L (anyP L n) most q).bind fun l q=>(mustP L [41] q).bind fun _ q=> .ok l q
def valsP (t:Bs) (ns:List Bs) (n p:Nat):Res St:=(listOf L (exsIn L 6 n) 8 p).bind fun l q=> .ok (.mk 16 t [] [] [] [] ns l noEx [] [] 0 0 false []) q
def ins2 (t:Bs) (n p:Nat):Res St:=if isT L p kVALUES=true then valsP L t [] n (p+1) else (insideP L 6 p).bind fun ns q=>(mustP L kVALUES q).bind fun _ q=>valsP L t ns n q
def insP (n p:Nat):Res St:=(mustP L kINTO p).bind fun _ q=>(nameP L q).bind fun t q=>ins2 L t n q
def setI (n p:Nat):Res (Bs × Ex):=(nameP L p).bind fun x q=>(mustP L [61] q).bind fun _ q=>(anyP L n q).bind fun e q=> .ok (x,e) q
def updP (n p:Nat):Res St:=(nameP L p).bind fun t q=>(mustP L kSET q).bind fun _ q=>(listOf L (setI L n) 6 q).bind fun l q=>(whereP L n q).bind fun e q=> .ok (.mk 17 t [] [] [] [] [] [] e l [] 0 0 false []) q
def delP (n p:Nat):Res St:=(mustP L kFROM p).bind fun _ q=>(nameP L q).bind fun t q=>(whereP L n q).bind fun e q=> .ok (.mk 18 t [] [] [] [] [] [] e [] [] 0 0 false []) q
def descP (x:Ex) (p:Nat):Res (Ex × Bool):=if isT L p kDESC=true then .ok (x,true) (p+1) else .ok (x,false) p
def ordI (n p:Nat):Res (Ex × Bool):=(anyP L n p).bind fun x q=>descP L x q
def ord2 (n p:Nat):Res (List (Ex × Bool)):=(mustP L kBY p).bind fun _ q=>listOf L (ordI L n) 3 q
def ordL (n p:Nat):Res (List (Ex × Bool)):=if isT L p kORDER=true then ord2 L n (p+1) else .ok [] p
def lim2 (p:Nat):Res Int:=if (tk L p).1=3 then (if (Val.rd (tk L p).2).e=0∧(Val.rd (tk L p).2).n≤9999 then .ok (Val.rd (tk L p).2).n (p+1) else .err 10 p) else .err 16 p
def limL (p:Nat):Res Int:=if isT L p kLIMIT=true then lim2 L (p+1) else .ok (-1) p
def sel2 (rows:List (List Ex)) (n p:Nat):Res St:=(mustP L kFROM p).bind fun _ q=>(nameP L q).bind fun t q=>(whereP L n q).bind fun e q=>(ordL L n q).bind fun o q=>(limL L q).bind fun m q=>
 .ok (.mk 19 t [] [] [] [] [] rows e [] o m 0 false []) q
def selP (n p:Nat):Res St:=if isT L p [42]=true then sel2 L [] n (p+1) else (listOf L (anyP L n) 6 p).bind fun l q=>sel2 L [l] n q
def rowsP (n p:Nat):Res St:=if isT L p kINSERT=true then insP L n (p+1) else if isT L p kUPDATE=true then updP L n (p+1) else if isT L p kDELETE=true then delP L n (p+1) else (mustP L kSELECT p).bind fun _ q=>selP L n q
def prepP (n p:Nat):Res St:=(nameP L p).bind fun x q=>(mustP L kAS q).bind fun _ q=>(rowsP L n q).bind fun s q=> .ok (.mk 20 [] x [] [] [] [] [] noEx [] [] 0 0 false [s]) q
def exeL (x:Bs) (n p:Nat):Res St:=(listOf L (anyP L n) 6 p).bind fun l q=>(mustP L [41] q).bind fun _ q=> .ok (.mk 21 [] x [] [] [] [] [l] noEx [] [] 0 0 false []) q
def exe2 (x:Bs) (n p:Nat):Res St:=if isT L p [40]=true then exeL L x n (p+1) else .ok (.mk 21 [] x [] [] [] [] [] noEx [] [] 0 0 false []) p
def exeP (n p:Nat):Res St:=(nameP L p).bind fun x q=>exe2 L x n q
def stmtP (n p:Nat):Res St:=
 if isT L p kCREATE=true then createP L n (p+1) else if isT L p kDROP=true then dropP L (p+1) else if isT L p kALTER=true then alterP L n (p+1)
 else if isT L p kGRANT=true then grantP L (p+1) else if isT L p kREVOKE=true then revokeP L (p+1) else if isT L p kPREPARE=true then prepP L n (p+1)
 else if isT L p kEXECUTE=true then exeP L n (p+1) else if isT L p kDEALLOCATE=true then oneNm L (fun x=> .mk 22 [] x [] [] [] [] [] noEx [] [] 0 0 false []) (p+1) else rowsP L n p
end
def Rd {α:Type} (L:List Tt) (ts:List Tt) (f:Nat→Nat→Res α) (x:α) (A:Tt→Prop):Prop:=∀p,Sits L p ts→A (tk L (p+ts.length))→Ev (fun n=>f n p) (.ok x (p+ts.length))
def Nxt (b:List Tt) (B:Tt→Prop) (t:Tt):Prop:=match b with
 | []=>B t
 |t' ::_=>t=t'
section
variable {α β:Type} {L a b:List Tt} {t:Tt} {A B:Tt→Prop} {x:α} {y:β} {w nm:Bs}
theorem Rd.bind {f:Nat→Nat→Res α} {g:Nat→α→Nat→Res β} (h1:Rd L a f x A) (h2:Rd L b (fun n q=>g n x q) y B) (hA:∀t,Nxt b B t→A t):Rd L (a++b) (fun n p=>(f n p).bind fun x q=>g n x q) y B:=by
 intro p hs hB
 rw [List.length_append,←Nat.add_assoc] at hB ⊢
 refine (h1 p hs.left (hA _ ?_)).bind (h2 _ hs.right hB)
 have:=hs.right
 cases b with
 |nil=>exact hB
 |cons t' r=>exact this.head
theorem Rd.weak {f:Nat→Nat→Res α} (h:Rd L a f x A) (hw:∀t,B t→A t):Rd L a f x B:=fun p hs hB=>h p hs (hw _ hB)
theorem Rd.pure:Rd L [] (fun _ p=> .ok x p) x A:=fun p _ _=>Ev.pure _
theorem Rd.must {g:Nat→Nat→Res β} (hw:isW t w=true) (h:Rd L b g y B):Rd L (t::b) (fun n p=>(mustP L w p).bind fun _ q=>g n q) y B:=by
 intro p hs hB
 have e:p+(t::b).length=p+1+b.length:=by rw [List.length_cons];omega
 rw [e] at hB ⊢
 refine (h (p+1) hs.tail hB).congr fun n=>?_
 show (mustP L w p).bind _=_
 unfold mustP
 rw [isT_is L hs.head,if_pos hw];rfl
theorem Rd.name {g:Nat→Bs→Nat→Res β} (h:Rd L b (fun n q=>g n nm q) y B):Rd L ((1,nm)::b) (fun n p=>(nameP L p).bind fun x q=>g n x q) y B:=by
 intro p hs hB
 have e:p+((1,nm)::b).length=p+1+b.length:=by rw [List.length_cons];omega
 rw [e] at hB ⊢
 refine (h (p+1) hs.tail hB).congr fun n=>?_
 show (nameP L p).bind _=_
 unfold nameP
 rw [hs.head,if_pos rfl];rfl
theorem Rd.yes {F G:Nat→Nat→Res α} (hw:isW t w=true) (h:Rd L b F x B):Rd L (t::b) (fun n p=>if isT L p w=true then F n (p+1) else G n p) x B:=by
 intro p hs hB
 have e:p+(t::b).length=p+1+b.length:=by rw [List.length_cons];omega
 rw [e] at hB ⊢
 exact (h (p+1) hs.tail hB).congr fun n=>by show (if isT L p w=true then _ else _)=_;rw [isT_is L hs.head,if_pos hw]
theorem Rd.no {F G:Nat→Nat→Res α} (hw:∀t,Nxt b B t→isW t w=false) (h:Rd L b G x B):Rd L b (fun n p=>if isT L p w=true then F n (p+1) else G n p) x B:=by
 intro p hs hB
 refine (h p hs hB).congr fun n=>?_
 have:isT L p w=false:=by
   refine (isT_is L rfl _).trans (hw _ ?_)
   cases b with
   |nil=>exact hB
   |cons t' r=>exact hs.head
 show (if isT L p w=true then _ else _)=_
 rw [if_neg (by simp [this])]
theorem Rd.any {e:Ex} (hlo:Lo e):Rd L (tt (pcs e)) (anyP L) e (stp 1):=by
 intro p hs hB
 obtain ⟨h,hh⟩:=hlo
 have:=(reads (L:=L) h).2.1 1 p (Nat.le_refl _) (by decide) (by rw [kidP_no (rank_le e).1];exact hs) (by rw [kidP_no (rank_le e).1];exact hB)
 rw [kidP_no (rank_le e).1] at this
 obtain ⟨F,hF⟩:=this
 exact ⟨F,fun n hn=>by
   have e1:rankP L n 1 p=_:=hF n hn
   show anyP L n p=_
   unfold anyP
   rw [e1]
   exact if_pos hh⟩
def rest (P:α→List Pc):List α→List Pc
 | []=> []
 |a::l=>C 44::none::sep ((a::l).map P)
theorem sep_cons (P:α→List Pc) (a:α) (l:List α):sep ((a::l).map P)=P a++rest P l:=by
 cases l with
 |nil=>simp [sep,rest]
 |cons b l=>rfl
theorem Rd.moreOf {item:Nat→Nat→Res α} {P:α→List Pc} {A:Tt→Prop} (hA:A (sgn6 44)):∀(l d:List α) (m:Nat),(∀x∈l,Rd L (tt (P x)) item x A)→l.length≤m→
   Rd L (tt (rest P l)) (fun n p=>Sm.moreOf L (item n) m d p) (d++l) (fun t=>A t∧isW t [44]=false)
 | [],d,0,_,_=>by
   rw [List.append_nil]
   intro p _ _
   exact (Ev.pure _).congr fun n=>by show Sm.moreOf L (item n) 0 d p=_;rw [Sm.moreOf];rfl
 | [],d,m+1,_,_=>by
   rw [List.append_nil]
   intro p _ hB
   refine (Ev.pure _).congr fun n=>?_
   have:isT L p [44]=false:=(isT_is L rfl _).trans hB.2
   show Sm.moreOf L (item n) (m+1) d p=_
   rw [Sm.moreOf,if_neg (by simp [this])];rfl
 |a::l,d,0,_,h=>by simp at h
 | a ::l,d,m+1,hx,hl=>by
   have ih:=Rd.moreOf hA l (d++ [a]) m (fun x h=>hx x (List.mem_cons_of_mem _ h)) (by simp at hl;omega)
   rw [List.append_assoc] at ih
   have e:tt (rest P (a::l))=sgn6 44::(tt (P a)++tt (rest P l)):=by rw [←tt_app,←sep_cons];rfl
   rw [e]
   have hb:=Rd.bind (g:=fun n x q=>Sm.moreOf L (item n) m (d++ [x]) q) (hx a (by simp)) ih (fun t ht=>by
     cases l with
     |nil=>exact ht.1
     |cons b l=>exact ht▸hA)
   intro p hs hB
   have el:p+(sgn6 44::(tt (P a)++tt (rest P l))).length=p+1+(tt (P a)++tt (rest P l)).length:=by rw [List.length_cons];omega
   rw [el] at hB ⊢
   refine (hb (p+1) hs.tail hB).congr fun n=>?_
   show Sm.moreOf L (item n) (m+1) d p=_
   rw [Sm.moreOf,isT_is L hs.head,if_pos (by decide)]
theorem Rd.list {item:Nat→Nat→Res α} {P:α→List Pc} {A:Tt→Prop} (hA:A (sgn6 44)) {l:List α} {most:Nat} (h0:1≤l.length) (hm:l.length≤most) (hx:∀x∈l,Rd L (tt (P x)) item x A):
   Rd L (tt (sep (l.map P))) (fun n p=>listOf L (item n) most p) l (fun t=>A t∧isW t [44]=false):=by
 cases l with
 |nil=>simp at h0
 | cons a l=>
   rw [sep_cons,tt_app]
   have h2:=Rd.moreOf (L:=L) hA l [a] (most - 1) (fun x h=>hx x (List.mem_cons_of_mem _ h)) (by simp at hm;omega)
   exact Rd.bind (g:=fun n x q=>Sm.moreOf L (item n) (most - 1) [x] q) (hx a (by simp)) h2 (fun t ht=>by
     cases l with
     |nil=>exact ht.1
     |cons b l=>exact ht▸hA)
end
end Go.Proofs.YtiaomhdmllhmmaaGreatDoor.Sm
