/- Expressions as trees, in the document's words: their rank, which are right, and of which t Expressions read from tokens, by the grammar's lines; the number is a bound for the calls  -/
import Derived.Test.YtiaomhdmllhmmaaGreatDoorJ01
namespace Go.Proofs.YtiaomhdmllhmmaaGreatDoor.Ep
open Lx
set_option linter.unusedVariables false
inductive Ex where
 |mk (k o vk vn:Int) (vs nm:List UInt8) (kids:List Ex)
theorem Ex.byKids {C:Ex→Prop} (h:∀k o vk vn vs nm kids,(∀x∈kids,C x)→C (.mk k o vk vn vs nm kids)):∀e,C e:=by
 intro e
 refine Ex.rec (motive_1:=C) (motive_2:=fun l=>∀x∈l,C x) ?_ ?_ ?_ e
 · intro k o vk vn vs nm kids ih
   exact h k o vk vn vs nm kids ih
 · intro x hx;simp at hx
 · intro a l ha hl x hx
   rcases List.mem_cons.1 hx with rfl|hx
   · exact ha
   · exact hl x hx
def rk (k o:Int):Nat:=
 if k=6 then 4 else if k=4 then (if o=1 then 7 else if o=2 then 3 else 4) else if k≠5 then 8
 else if o=1 then 1 else if o=2 then 2 else if o=9 ∨ o=10 ∨ o=14 then 5 else if o=11 ∨ o=12 ∨ o=13 then 6 else 4
def Ex.rank:Ex→Nat
 | .mk k o _ _ _ _ _=>rk k o
def un (o:Int) (a:Ex):Ex:= .mk 4 o 0 0 [] [] [a]
def bin (o:Int) (a b:Ex):Ex:= .mk 5 o 0 0 [] [] [a,b]
def inn (l:List Ex):Ex:= .mk 6 0 0 0 [] [] l
def call (nm:List UInt8) (l:List Ex):Ex:= .mk 7 0 0 0 [] nm l
def lit (k n:Int) (s:List UInt8):Ex:= .mk 1 0 k n s [] []
def col (nm:List UInt8):Ex:= .mk 2 0 0 0 [] nm []
def par (o:Int):Ex:= .mk 3 o 0 0 [] [] []
def kOR:List UInt8:= [79,82]
def kAND:List UInt8:= [65,78,68]
def kNOT:List UInt8:= [78,79,84]
def kIS:List UInt8:= [73,83]
def kIN:List UInt8:= [73,78]
def kCOAL:List UInt8:= [67,79,65,76,69,83,67,69]
def kLEN:List UInt8:= [76,69,78,71,84,72]
def kABS:List UInt8:= [65,66,83]
def nCoal:List UInt8:= [99,111,97,108,101,115,99,101]
def nLen:List UInt8:= [108,101,110,103,116,104]
def nAbs:List UInt8:= [97,98,115]
def sg (o:Int):List UInt8:=
 if o=1 then kOR else if o=2 then kAND else if o=3 then [61] else if o=4 then [60,62] else if o=5 then [60] else if o=6 then [60,61] else if o=7 then [62] else if o=8 then [62,61]
 else if o=9 then [43] else if o=10 then [45] else if o=11 then [42] else if o=12 then [47] else if o=13 then [37] else [124,124]
abbrev Tt:=Nat × List UInt8
def key (l:List UInt8):Tt:=(2,l)
def sgn6 (c:UInt8):Tt:=(6, [c])
def sgT (o:Int):Tt:=if o=1 ∨ o=2 then (2,sg o) else (6,sg o)
def valT (k n:Int) (s:List UInt8):Tt:=(if k=1 then 3 else if k=3 then 4 else 2,Val.showV k n s)
def parT (o:Int):Tt:=(5, [36,UInt8.ofNat (48+o.toNat)])
def callT (nm:List UInt8):Tt:=key (if nm=nCoal then kCOAL else if nm=nLen then kLEN else kABS)
abbrev Pc:=Option Tt
def br (b:Bool) (l:List Pc):List Pc:=if b=true then some (sgn6 40)::(l++ [some (sgn6 41)]) else l
def asked (e:Ex) (r:Nat):Bool:=decide (e.rank<r)
def ask1 (o:Int):Nat:=if rk 5 o=4 then 5 else rk 5 o
def ask2 (o:Int):Nat:=if rk 5 o=4 then 5 else rk 5 o+1
mutual
def pcs :Ex→List Pc
  | .mk k o vk vn vs nm kids=>
    if k=1 then [some (valT vk vn vs)]
    else if k=2 then [some (1,nm)]
    else if k=3 then [some (parT o)]
    else if k=4 then match kids with
      | a::_=>
        if o=1 then some (sgn6 45)::br (asked a 7) (pcs a)
        else if o=2 then some (key kNOT)::none::br (asked a 3) (pcs a)
        else if o=3 then br (asked a 5) (pcs a)++ [none,some (key kIS),none,some (key Val.wNull)]
        else br (asked a 5) (pcs a)++ [none,some (key kIS),none,some (key kNOT),none,some (key Val.wNull)]
      | []=> []
    else if k=5 then match kids with
      |a::b::_=>br (asked a (ask1 o)) (pcs a)++(none::some (sgT o)::none::br (asked b (ask2 o)) (pcs b))
      |_=> []
    else if k=6 then match kids with
      |a::l=>br (asked a 5) (pcs a)++(none::some (key kIN)::none::some (sgn6 40)::(pcsL l++ [some (sgn6 41)]))
      | []=> []
    else some (callT nm)::some (sgn6 40)::(pcsL kids++ [some (sgn6 41)])
def pcsL:List Ex→List Pc
  | []=> []
  | [a]=>pcs a
  |a::b::l=>pcs a++(some (sgn6 44)::pcsL (b::l))
end
def kidP (e:Ex) (r:Nat):List Pc:=br (asked e r) (pcs e)
inductive Rt:Ex→Prop
 |lit {k n:Int} {s:List UInt8}:Val.okV k n s=true→(k=1→0≤n)→n≤9223372036854775807→ -9223372036854775808≤n→Rt (lit k n s)
 |col {nm:List UInt8}:kindOf nm=1→Rt (col nm)
 |par {o:Int}:1≤o→o≤6→Rt (par o)
 |un {o:Int} {a:Ex}:1≤o→o≤4→Rt a→Rt (un o a)
 |bin {o:Int} {a b:Ex}:1≤o→o≤14→Rt a→Rt b→Rt (bin o a b)
 |inn {a:Ex} {l:List Ex}:l≠ []→l.length≤8→Rt a→(∀x∈l,Rt x)→Rt (inn (a::l))
 |call {nm:List UInt8} {l:List Ex}:l≠ []→(nm=nCoal∧l.length≤4 ∨ (nm=nLen ∨ nm=nAbs)∧l.length≤1)→(∀x∈l,Rt x)→Rt (call nm l)
theorem pcs_lit (k n:Int) (s:List UInt8):pcs (lit k n s)= [some (valT k n s)]:=by unfold lit pcs;rfl
theorem pcs_col (nm:List UInt8):pcs (col nm)= [some (1,nm)]:=by unfold col pcs;rfl
theorem pcs_par (o:Int):pcs (par o)= [some (parT o)]:=by unfold par pcs;rfl
theorem pcs_un (o:Int) (a:Ex):pcs (un o a)=if o=1 then some (sgn6 45)::kidP a 7 else if o=2 then some (key kNOT)::none::kidP a 3
   else if o=3 then kidP a 5++ [none,some (key kIS),none,some (key Val.wNull)] else kidP a 5++ [none,some (key kIS),none,some (key kNOT),none,some (key Val.wNull)]:=by unfold un pcs;rfl
theorem pcs_bin (o:Int) (a b:Ex):pcs (bin o a b)=kidP a (ask1 o)++(none::some (sgT o)::none::kidP b (ask2 o)):=by unfold bin pcs;rfl
theorem pcs_inn (a:Ex) (l:List Ex):pcs (inn (a::l))=kidP a 5++(none::some (key kIN)::none::some (sgn6 40)::(pcsL l++ [some (sgn6 41)])):=by unfold inn pcs;rfl
theorem pcs_call (nm:List UInt8) (l:List Ex):pcs (call nm l)=some (callT nm)::some (sgn6 40)::(pcsL l++ [some (sgn6 41)]):=by unfold call pcs;rfl
theorem pcsL_one (a:Ex):pcsL [a]=pcs a:=by rw [pcsL]
theorem pcsL_more (a b:Ex) (l:List Ex):pcsL (a::b::l)=pcs a++(some (sgn6 44)::pcsL (b::l)):=by rw [pcsL]
end Go.Proofs.YtiaomhdmllhmmaaGreatDoor.Ep
namespace Go.Proofs.YtiaomhdmllhmmaaGreatDoor.Ep
open Lx
set_option linter.unusedVariables false
inductive Res (α:Type) where
 |ok (x:α) (p:Nat)
 |err (e:Int) (p:Nat)
def Res.bind {α β:Type}:Res α→(α→Nat→Res β)→Res β
 | .ok x p,g=>g x p
 | .err e p,_=> .err e p
section
variable (L:List Tt)
def tk (p:Nat):Tt:=(L[p]?).getD (7, [])
def isT (p:Nat) (w:List UInt8):Bool:=((tk L p).1==2||(tk L p).1==6) && (tk L p).2==w
def opT (t:Tt):Int:=
 if t.1≠2∧t.1≠6 then 0 else if t.2=kOR then 1 else if t.2=kAND then 2 else if t.2= [61] then 3 else if t.2= [60,62] then 4 else if t.2= [60] then 5 else if t.2= [60,61] then 6
 else if t.2= [62] then 7 else if t.2= [62,61] then 8 else if t.2= [43] then 9 else if t.2= [45] then 10 else if t.2= [42] then 11 else if t.2= [47] then 12 else if t.2= [37] then 13 else if t.2= [124,124] then 14 else 0
def sgAt (r p:Nat):Int:=if rk 5 (opT (tk L p))=r then opT (tk L p) else 0
def isVal (t:Tt):Bool:=t.1==3||t.1==4||t.2==Val.wTrue||t.2==Val.wFalse||t.2==Val.wNull
mutual
def rankP:Nat→Nat→Nat→Res Ex
  |0,_,p=> .err 99 p
  | f+1,r,p=>
    if r=3 then (if isT L p kNOT=true then (rankP f 3 (p+1)).bind fun x q=> .ok (un 2 x) q else rankP f 4 p)
    else if r=4 then isP f p
    else if r=7 then (if isT L p [45]=true then (rankP f 7 (p+1)).bind fun x q=> .ok (un 1 x) q else rankP f 8 p)
    else if r=8 then oneP f p
    else (rankP f (r+1) p).bind fun x q=>loopP f r x q
def loopP:Nat→Nat→Ex→Nat→Res Ex
  |0,_,_,p=> .err 99 p
  |f+1,r,x,p=>if sgAt L r p=0 then .ok x p else (rankP f (r+1) (p+1)).bind fun y q=>loopP f r (bin (sgAt L r p) x y) q
def isP:Nat→Nat→Res Ex
  |0,p=> .err 99 p
  | f +1,p=>(rankP f 5 p).bind fun x q=>
    if sgAt L 4 q≠0 then (rankP f 5 (q+1)).bind fun y s=> .ok (bin (sgAt L 4 q) x y) s
    else if isT L q kIS=true then
      (if isT L (q+1) kNOT=true then (if isT L (q+2) Val.wNull=true then .ok (un 4 x) (q+3) else .err 16 (q+2))
      else if isT L (q+1) Val.wNull=true then .ok (un 3 x) (q+2) else .err 16 (q+1))
    else if isT L q kIN=true then (listP f 8 (q+1)).bind fun l s=> .ok (inn (x::l)) s
    else .ok x q
def listP:Nat→Nat→Nat→Res (List Ex)
  |0,_,p=> .err 99 p
  |f+1,most,p=>if isT L p [40]=true then (rankP f 1 (p+1)).bind fun x q=>moreP f most [x] q else .err 16 p
def moreP:Nat→Nat→List Ex→Nat→Res (List Ex)
  |0,_,_,p=> .err 99 p
  | f+1,most,l,p=>
    if l.length<most∧isT L p [44]=true then (rankP f 1 (p+1)).bind fun x q=>moreP f most (l++ [x]) q
    else if isT L p [41]=true then .ok l (p+1) else .err 16 p
def oneP:Nat→Nat→Res Ex
  |0,p=> .err 99 p
  | f+1,p=>
    if isVal (tk L p)=true then (if (Val.rd (tk L p).2).e=0 then .ok (lit (Val.rd (tk L p).2).k (Val.rd (tk L p).2).n (Val.rd (tk L p).2).s) (p+1) else .err (Val.rd (tk L p).2).e p)
    else if (tk L p).1=1 then .ok (col (tk L p).2) (p+1)
    else if (tk L p).1=5 then .ok (par ((((tk L p).2.getD 1 0).toNat:Int) - 48)) (p+1)
    else if isT L p kCOAL=true then (listP f 4 (p+1)).bind fun l q=> .ok (call nCoal l) q
    else if isT L p kLEN=true then (listP f 1 (p+1)).bind fun l q=> .ok (call nLen l) q
    else if isT L p kABS=true then (listP f 1 (p+1)).bind fun l q=> .ok (call nAbs l) q
    else if isT L p [40]=true then (rankP f 1 (p+1)).bind fun x q=>if isT L q [41]=true then .ok x (q+1) else .err 16 q
    else .err 16 p
end
end
def Ev {α:Type} (f:Nat→Res α) (r:Res α):Prop:=∃F,∀n,F≤n→f n=r
section
variable {α β:Type} {f:Nat→Res α} {g:Nat→α→Nat→Res β} {x:α} {p q:Nat} {r:Res α} {R:Res β} {e:Int}
theorem Ev.pure (r:Res α):Ev (fun _=>r) r:=⟨0,fun _ _=>rfl⟩
theorem Ev.step (h:Ev (fun n=>f (n+1)) r):Ev f r:=by
 obtain ⟨F,h⟩:=h
 refine ⟨F+1,fun n hn=>?_⟩
 obtain ⟨m,rfl⟩:∃m,n=m+1:=⟨n - 1,by omega⟩
 exact h m (by omega)
theorem Ev.bind (h1:Ev f (.ok x q)) (h2:Ev (fun n=>g n x q) R):Ev (fun n=>(f n).bind (g n)) R:=by
 obtain ⟨F,h1⟩:=h1
 obtain ⟨G,h2⟩:=h2
 refine ⟨F+G,fun n hn=>?_⟩
 show (f n).bind (g n)=R
 rw [h1 n (by omega)]
 exact h2 n (by omega)
theorem Ev.congr {f' :Nat→Res α} (h:Ev f r) (e:∀n,f' n=f n):Ev f' r:=by
 obtain ⟨F,h⟩:=h
 exact ⟨F,fun n hn=>(e n).trans (h n hn)⟩
theorem Ev.unique {r' :Res α} (h:Ev f r) (h' :Ev f r'):r=r' :=by
 obtain ⟨F,h⟩:=h
 obtain ⟨G,h'⟩:=h'
 rw [←h (F+G) (by omega),h' (F+G) (by omega)]
end
section
variable {L:List Tt} {p q s:Nat} {x y:Ex} {R:Res Ex}
theorem ev_left {r:Nat} (hr:r=1 ∨ r=2 ∨ r=5 ∨ r=6) (h1:Ev (fun n=>rankP L n (r+1) p) (.ok x q)) (h2:Ev (fun n=>loopP L n r x q) R):Ev (fun n=>rankP L n r p) R:=
 Ev.step ((h1.bind h2).congr fun n=>by rcases hr with rfl|rfl|rfl|rfl<;>(rw [rankP];rfl))
theorem ev_stop {r:Nat} (h:sgAt L r p=0):Ev (fun n=>loopP L n r x p) (.ok x p):=
 Ev.step ((Ev.pure _).congr fun n=>by rw [loopP,if_pos h])
theorem ev_on {r:Nat} {o:Int} (ho:sgAt L r p=o) (h0:o≠0) (h1:Ev (fun n=>rankP L n (r+1) (p+1)) (.ok y q)) (h2:Ev (fun n=>loopP L n r (bin o x y) q) R):Ev (fun n=>loopP L n r x p) R:=
 Ev.step ((h1.bind h2).congr fun n=>by rw [loopP,ho,if_neg h0])
theorem ev_not (h:isT L p kNOT=true) (h1:Ev (fun n=>rankP L n 3 (p+1)) (.ok x q)):Ev (fun n=>rankP L n 3 p) (.ok (un 2 x) q):=
 Ev.step ((h1.bind (g:=fun _ x q=> .ok (un 2 x) q) (Ev.pure _)).congr fun n=>by rw [rankP,if_pos rfl,if_pos h])
theorem ev_not_no (h:isT L p kNOT=false) (h1:Ev (fun n=>rankP L n 4 p) R):Ev (fun n=>rankP L n 3 p) R:=
 Ev.step (h1.congr fun n=>by rw [rankP,if_pos rfl,if_neg (by simp [h])])
theorem ev_neg (h:isT L p [45]=true) (h1:Ev (fun n=>rankP L n 7 (p+1)) (.ok x q)):Ev (fun n=>rankP L n 7 p) (.ok (un 1 x) q):=
 Ev.step ((h1.bind (g:=fun _ x q=> .ok (un 1 x) q) (Ev.pure _)).congr fun n=>by rw [rankP,if_neg (by decide),if_neg (by decide),if_pos rfl,if_pos h])
theorem ev_neg_no (h:isT L p [45]=false) (h1:Ev (fun n=>rankP L n 8 p) R):Ev (fun n=>rankP L n 7 p) R:=
 Ev.step (h1.congr fun n=>by rw [rankP,if_neg (by decide),if_neg (by decide),if_pos rfl,if_neg (by simp [h])])
def isG (L:List Tt) (f:Nat) (x:Ex) (q:Nat):Res Ex:=
    if sgAt L 4 q≠0 then (rankP L f 5 (q+1)).bind fun y s=> .ok (bin (sgAt L 4 q) x y) s
    else if isT L q kIS=true then
      (if isT L (q+1) kNOT=true then (if isT L (q+2) Val.wNull=true then .ok (un 4 x) (q+3) else .err 16 (q+2))
      else if isT L (q+1) Val.wNull=true then .ok (un 3 x) (q+2) else .err 16 (q+1))
    else if isT L q kIN=true then (listP L f 8 (q+1)).bind fun l s=> .ok (inn (x::l)) s
    else .ok x q
theorem ev_is (h1:Ev (fun n=>rankP L n 5 p) (.ok x q)) (h2:Ev (fun n=>isG L n x q) R):Ev (fun n=>rankP L n 4 p) R:=by
 have h3:Ev (fun n=>isP L n p) R:=Ev.step ((h1.bind h2).congr fun n=>by rw [isP];rfl)
 exact Ev.step (h3.congr fun n=>by rw [rankP,if_neg (by decide),if_pos rfl])
theorem ev_is_end (h1:Ev (fun n=>rankP L n 5 p) (.ok x q)) (h2:sgAt L 4 q=0) (h3:isT L q kIS=false) (h4:isT L q kIN=false):Ev (fun n=>rankP L n 4 p) (.ok x q):=
 ev_is h1 ((Ev.pure (.ok x q)).congr fun n=>by unfold isG;rw [h2,h3,h4,if_neg (by simp),if_neg (by simp),if_neg (by simp)])
theorem ev_is_cmp {o:Int} (h1:Ev (fun n=>rankP L n 5 p) (.ok x q)) (ho:sgAt L 4 q=o) (h0:o≠0) (h2:Ev (fun n=>rankP L n 5 (q+1)) (.ok y s)):Ev (fun n=>rankP L n 4 p) (.ok (bin o x y) s):=
 ev_is h1 ((h2.bind (g:=fun _ y s=> .ok (bin o x y) s) (Ev.pure _)).congr fun n=>by unfold isG;rw [ho,if_pos h0])
theorem ev_is_null (h1:Ev (fun n=>rankP L n 5 p) (.ok x q)) (h2:sgAt L 4 q=0) (h3:isT L q kIS=true) (h4:isT L (q+1) kNOT=false) (h5:isT L (q+1) Val.wNull=true):Ev (fun n=>rankP L n 4 p) (.ok (un 3 x) (q+2)):=
 ev_is h1 ((Ev.pure (.ok (un 3 x) (q+2))).congr fun n=>by unfold isG;rw [h2,h3,h4,h5,if_neg (by simp),if_pos rfl,if_neg (by simp),if_pos rfl])
theorem ev_is_not_null (h1:Ev (fun n=>rankP L n 5 p) (.ok x q)) (h2:sgAt L 4 q=0) (h3:isT L q kIS=true) (h4:isT L (q+1) kNOT=true) (h5:isT L (q+2) Val.wNull=true):Ev (fun n=>rankP L n 4 p) (.ok (un 4 x) (q+3)):=
 ev_is h1 ((Ev.pure (.ok (un 4 x) (q+3))).congr fun n=>by unfold isG;rw [h2,h3,h4,h5,if_neg (by simp),if_pos rfl,if_pos rfl,if_pos rfl])
theorem ev_is_in {l:List Ex} (h1:Ev (fun n=>rankP L n 5 p) (.ok x q)) (h2:sgAt L 4 q=0) (h3:isT L q kIS=false) (h4:isT L q kIN=true) (h5:Ev (fun n=>listP L n 8 (q+1)) (.ok l s)):Ev (fun n=>rankP L n 4 p) (.ok (inn (x::l)) s):=
 ev_is h1 ((h5.bind (g:=fun _ l s=> .ok (inn (x::l)) s) (Ev.pure _)).congr fun n=>by unfold isG;rw [h2,h3,h4,if_neg (by simp),if_neg (by simp),if_pos rfl])
theorem ev_list {most:Nat} {R:Res (List Ex)} (h:isT L p [40]=true) (h1:Ev (fun n=>rankP L n 1 (p+1)) (.ok x q)) (h2:Ev (fun n=>moreP L n most [x] q) R):Ev (fun n=>listP L n most p) R:=
 Ev.step ((h1.bind h2).congr fun n=>by rw [listP,if_pos h])
theorem ev_more {most:Nat} {l:List Ex} {R:Res (List Ex)} (h0:l.length<most) (h:isT L p [44]=true) (h1:Ev (fun n=>rankP L n 1 (p+1)) (.ok x q)) (h2:Ev (fun n=>moreP L n most (l++ [x]) q) R):Ev (fun n=>moreP L n most l p) R:=
 Ev.step ((h1.bind h2).congr fun n=>by rw [moreP,if_pos ⟨h0,h⟩])
theorem ev_last {most:Nat} {l:List Ex} (h:isT L p [44]=false) (h1:isT L p [41]=true):Ev (fun n=>moreP L n most l p) (.ok l (p+1)):=
 Ev.step ((Ev.pure _).congr fun n=>by rw [moreP,if_neg (by simp [h]),if_pos h1])
theorem ev_one (h:Ev (fun n=>oneP L n p) R):Ev (fun n=>rankP L n 8 p) R:=
 Ev.step (h.congr fun n=>by rw [rankP,if_neg (by decide),if_neg (by decide),if_neg (by decide),if_pos rfl])
theorem ev_lit {k n:Int} {v:List UInt8} (h:isVal (tk L p)=true) (h1:Val.rd (tk L p).2=⟨k,n,v,0⟩):Ev (fun n=>rankP L n 8 p) (.ok (lit k n v) (p+1)):=
 ev_one (Ev.step ((Ev.pure _).congr fun n=>by rw [oneP,if_pos h,h1,if_pos rfl]))
theorem ev_col (h:isVal (tk L p)=false) (h1:(tk L p).1=1):Ev (fun n=>rankP L n 8 p) (.ok (col (tk L p).2) (p+1)):=
 ev_one (Ev.step ((Ev.pure _).congr fun n=>by rw [oneP,if_neg (by simp [h]),if_pos h1]))
theorem ev_par (h:isVal (tk L p)=false) (h1:(tk L p).1=5):Ev (fun n=>rankP L n 8 p) (.ok (par ((((tk L p).2.getD 1 0).toNat:Int) - 48)) (p+1)):=
 ev_one (Ev.step ((Ev.pure _).congr fun n=>by rw [oneP,if_neg (by simp [h]),if_neg (by omega),if_pos h1]))
theorem ev_coal {l:List Ex} (h:tk L p=key kCOAL) (h1:Ev (fun n=>listP L n 4 (p+1)) (.ok l q)):Ev (fun n=>rankP L n 8 p) (.ok (call nCoal l) q):=
 ev_one (Ev.step ((h1.bind (g:=fun _ l q=> .ok (call nCoal l) q) (Ev.pure _)).congr fun n=>by
   have e:isT L p kCOAL=true:=by unfold isT;rw [h];decide
   rw [oneP,h,if_neg (by decide),if_neg (by decide),if_neg (by decide),if_pos e]))
theorem ev_len {l:List Ex} (h:tk L p=key kLEN) (h1:Ev (fun n=>listP L n 1 (p+1)) (.ok l q)):Ev (fun n=>rankP L n 8 p) (.ok (call nLen l) q):=
 ev_one (Ev.step ((h1.bind (g:=fun _ l q=> .ok (call nLen l) q) (Ev.pure _)).congr fun n=>by
   have e0:isT L p kCOAL=false:=by unfold isT;rw [h];decide
   have e:isT L p kLEN=true:=by unfold isT;rw [h];decide
   rw [oneP,h,if_neg (by decide),if_neg (by decide),if_neg (by decide),if_neg (by simp [e0]),if_pos e]))
theorem ev_abs {l:List Ex} (h:tk L p=key kABS) (h1:Ev (fun n=>listP L n 1 (p+1)) (.ok l q)):Ev (fun n=>rankP L n 8 p) (.ok (call nAbs l) q):=
 ev_one (Ev.step ((h1.bind (g:=fun _ l q=> .ok (call nAbs l) q) (Ev.pure _)).congr fun n=>by
   have e0:isT L p kCOAL=false:=by unfold isT;rw [h];decide
   have e1:isT L p kLEN=false:=by unfold isT;rw [h];decide
   have e:isT L p kABS=true:=by unfold isT;rw [h];decide
   rw [oneP,h,if_neg (by decide),if_neg (by decide),if_neg (by decide),if_neg (by simp [e0]),if_neg (by simp [e1]),if_pos e]))
theorem ev_brackets (h:tk L p=sgn6 40) (h1:Ev (fun n=>rankP L n 1 (p+1)) (.ok x q)) (h2:isT L q [41]=true):Ev (fun n=>rankP L n 8 p) (.ok x (q+1)):=
 ev_one (Ev.step ((h1.bind (g:=fun _ x q=>if isT L q [41]=true then .ok x (q+1) else .err 16 q) ((Ev.pure (.ok x (q+1))).congr fun n=>by rw [if_pos h2])).congr fun n=>by
   have e0:isT L p kCOAL=false:=by unfold isT;rw [h];decide
   have e1:isT L p kLEN=false:=by unfold isT;rw [h];decide
   have e2:isT L p kABS=false:=by unfold isT;rw [h];decide
   have e:isT L p [40]=true:=by unfold isT;rw [h];decide
   rw [oneP,h,if_neg (by decide),if_neg (by decide),if_neg (by decide),if_neg (by simp [e0]),if_neg (by simp [e1]),if_neg (by simp [e2]),if_pos e]))
end
end Go.Proofs.YtiaomhdmllhmmaaGreatDoor.Ep
