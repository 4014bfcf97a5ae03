/- Which statements may be, piece by piece, as a checker asks it: what each kind asks for, an Are two trees one: the document's answer (registrarref10.Same, SameList). Are two trees one: the program's answer (expr.Same, by slices.EqualFunc). -/
import Derived.Test.YtiaomhdmllhmmaaGreatDoorK01
import Derived.Test.YtiaomhdmllhmmaaGreatDoorK02
import Derived.Test.YtiaomhdmllhmmaaGreatDoorK11
import Derived.Deep.CutRange
import Derived.Test.YtiaomhdmllhmmaaGreatDoorK03
import Derived.Test.YtiaomhdmllhmmaaGreatDoorK05
import Derived.Test.YtiaomhdmllhmmaaGreatDoorK10
namespace Go.Proofs.YtiaomhdmllhmmaaGreatDoor.Sm
open Go.RowKit Mem Right Lx Ep
set_option linter.unusedVariables false
theorem hgt_ht:∀e:Ex,hgt e=ht e:=by
 refine Ex.byKids fun k o vk vn vs nm kids ih=>?_
 rw [hgt_mk,ht]
 have:∀l:List Ex,(∀x∈l,hgt x=ht x)→hgtL l=htL l:=by
   intro l
   induction l with
   |nil=>intro _;rfl
   |cons a l ih=>intro h;rw [hgtL,htL,h a (by simp),ih fun x hx=>h x (by simp [hx])]
 rw [this kids ih]
theorem lo_iff {e:Ex} (hf:Fine e):checkE false e=0↔Lo e:=by
 constructor
 · intro h
   obtain ⟨h1,h2⟩:=back_rt hf h
   refine ⟨h1,?_⟩
   rw [←hgt_ht]
   unfold high at h2
   have:=of_decide_eq_false h2
   omega
 · rintro ⟨h1,h2⟩
   rw [←hgt_ht] at h2
   unfold checkE
   rw [if_neg (by omega),if_pos (rightB_of h1.rs)]
structure Mk where
 t:Bool
 n:Bool
 r:Bool
 co:Bool
 cn:Bool
 ns:Bool
 rw_:Bool
 wh:Bool
 se:Bool
 od:Bool
 li:Bool
 pr:Bool
 op:Bool
 kd:Bool
def m0:Mk:=⟨false,false,false,false,false,false,false,false,false,false,false,false,false,false⟩
def keep (m:Mk):St→St
  | .mk k t n r cols cons names rows wh sets order limit priv opt kids=>
    .mk k (if m.t=true then t else []) (if m.n=true then n else []) (if m.r=true then r else []) (if m.co=true then cols else []) (if m.cn=true then cons else []) (if m.ns=true then names else []) (if m.rw_=true then rows else [])
      (if m.wh=true then wh else noEx) (if m.se=true then sets else []) (if m.od=true then order else []) (if m.li=true then limit else 0) (if m.pr=true then priv else 0) (if m.op=true then opt else false) (if m.kd=true then kids else [])
def okLn {α:Type} (l:List α) (least most:Nat) (p:α→Prop):Prop:=least≤l.length∧l.length≤most∧∀x∈l,p x
def kindS:St→Int
 | .mk k _ _ _ _ _ _ _ _ _ _ _ _ _ _=>k
def okKid (x:St):Prop:=16≤kindS x∧kindS x≤19∧OkS x
def okSe (x:Bs × Ex):Prop:=isN x.1∧Lo x.2
def okOd (x:Ex × Bool):Prop:=Lo x.1
def okRw (l:List Ex):Prop:=okLn l 1 6 Lo
def okLim (n:Int):Prop:= -1≤n∧n≤9999
def okPr (p:Int):Prop:=1≤p∧p≤4
def mT:Mk:={m0 with t:=true}
def m1:Mk:={m0 with t:=true,co:=true,cn:=true}
def m3:Mk:={m0 with t:=true,co:=true}
def m4:Mk:={m0 with t:=true,n:=true}
def m6:Mk:={m0 with t:=true,cn:=true}
def m8:Mk:={m0 with t:=true,n:=true,ns:=true}
def mN:Mk:={m0 with n:=true}
def m12:Mk:={m0 with n:=true,r:=true}
def m14:Mk:={m0 with t:=true,r:=true,pr:=true,op:=true}
def m15:Mk:={m0 with t:=true,r:=true,pr:=true}
def m16:Mk:={m0 with t:=true,ns:=true,rw_:=true}
def m17:Mk:={m0 with t:=true,se:=true,wh:=true}
def m18:Mk:={m0 with t:=true,wh:=true}
def m19:Mk:={m0 with t:=true,rw_:=true,wh:=true,od:=true,li:=true}
def m20:Mk:={m0 with n:=true,kd:=true}
def m21:Mk:={m0 with n:=true,rw_:=true}
def mOf (k:Int):Mk:=
 if k=1 then m1 else if k=2 then mT else if k=3 then m3 else if k=4 then m4 else if k=5 then m4 else if k=6 then m6 else if k=7 then m4 else if k=8 then m8 else if k=9 then m4
 else if k=10 then mN else if k=11 then mN else if k=12 then m12 else if k=13 then m12 else if k=14 then m14 else if k=15 then m15
 else if k=16 then m16 else if k=17 then m17 else if k=18 then m18 else if k=19 then m19 else if k=20 then m20 else if k=21 then m21 else if k=22 then mN else if k≤0 then mT else mN
def pOf (k:Int):St→Prop
  | .mk _ t n r cols cons names rows wh sets order limit priv opt kids=>
    if k=1 then isN t∧okLn cols 1 6 okCo∧okLn cons 0 6 OkCn
    else if k=2 then isN t
    else if k=3 then isN t∧okLn cols 1 1 okCo
    else if k=4 then isN t∧isN n
    else if k=5 then isN t∧isN n
    else if k=6 then isN t∧okLn cons 1 1 OkCn
    else if k=7 then isN t∧isN n
    else if k=8 then isN t∧isN n∧okLn names 1 3 isN
    else if k=9 then isN t∧isN n
    else if k=10 then isN n
    else if k=11 then isN n
    else if k=12 then isN n∧isN r
    else if k=13 then isN n∧isN r
    else if k=14 then okPr priv∧isN t∧isN r
    else if k=15 then okPr priv∧isN t∧isN r
    else if k=16 then isN t∧okLn names 0 6 isN∧okLn rows 1 8 okRw
    else if k=17 then isN t∧okLn sets 1 6 okSe∧okWh wh
    else if k=18 then isN t∧okWh wh
    else if k=19 then isN t∧okLn rows 0 1 okRw∧okWh wh∧okLn order 0 3 okOd∧okLim limit
    else if k=20 then isN n∧okLn kids 1 1 okKid
    else if k=21 then isN n∧okLn rows 0 1 okRw
    else if k=22 then isN n
    else False
theorem okKid_of {x:St} (h:OkR x):okKid x:=⟨by cases h<;>simp [kindS],by cases h<;>simp [kindS], .rows h⟩
theorem okR_of {x:St} (h:okKid x):OkR x:=by
 obtain ⟨h1,h2,h3⟩:=h
 cases h3 with
 |rows h=>exact h
 |_=>simp [kindS] at h1 h2
theorem one_of {α:Type} {l:List α} {p:α→Prop} (h:okLn l 1 1 p):∃x,l= [x]∧p x:=by
 obtain ⟨h1,h2,h3⟩:=h
 match l,h1,h2 with
 | [x],_,_=>exact ⟨x,rfl,h3 x (by simp)⟩
theorem okLn_one {α:Type} {x:α} {p:α→Prop} (h:p x):okLn [x] 1 1 p:=⟨by simp,by simp,fun y hy=>by rw [List.mem_singleton] at hy;exact hy▸h⟩
theorem ok_to {x:St} (h:OkS x):pOf (kindS x) x∧x=keep (mOf (kindS x)) x:=by
 cases h with
 |table h1 h2 h3 h4 h5 h6=>exact ⟨⟨h1,⟨h2,h3,h4⟩,Nat.zero_le _,h5,h6⟩,rfl⟩
 |dropTable h1=>exact ⟨h1,rfl⟩
 |addCol h1 h2=>exact ⟨⟨h1,okLn_one h2⟩,rfl⟩
 |dropCol h1 h2=>exact ⟨⟨h1,h2⟩,rfl⟩
 |rename h1 h2=>exact ⟨⟨h1,h2⟩,rfl⟩
 |addCons h1 h2=>exact ⟨⟨h1,okLn_one h2⟩,rfl⟩
 |dropCons h1 h2=>exact ⟨⟨h1,h2⟩,rfl⟩
 |index h1 h2 h3=>exact ⟨⟨h1,h2,h3⟩,rfl⟩
 |dropIndex h1 h2=>exact ⟨⟨h1,h2⟩,rfl⟩
 |role h1=>exact ⟨h1,rfl⟩
 |dropRole h1=>exact ⟨h1,rfl⟩
 |grantRole h1 h2=>exact ⟨⟨h1,h2⟩,rfl⟩
 |revokeRole h1 h2=>exact ⟨⟨h1,h2⟩,rfl⟩
 |grant h1 h2 h3 h4=>exact ⟨⟨⟨h3,h4⟩,h1,h2⟩,rfl⟩
 |revoke h1 h2 h3 h4=>exact ⟨⟨⟨h3,h4⟩,h1,h2⟩,rfl⟩
 | rows h=>
   cases h with
   |insert h1 h2 h3 h4 h5=>exact ⟨⟨h1,h2,h3,h4,h5⟩,rfl⟩
   |update h1 h2 h3 h4 h5=>exact ⟨⟨h1,⟨h2,h3,h4⟩,h5⟩,rfl⟩
   |delete h1 h2=>exact ⟨⟨h1,h2⟩,rfl⟩
   |select h1 h2 h3 h4 h5 h6 h7 h8=>exact ⟨⟨h1,⟨Nat.zero_le _,h2,h3⟩,h4,⟨Nat.zero_le _,h5,h6⟩,h7,h8⟩,rfl⟩
 |prepare h1 h2=>exact ⟨⟨h1,okLn_one (okKid_of h2)⟩,rfl⟩
 |execute h1 h2 h3=>exact ⟨⟨h1,Nat.zero_le _,h2,h3⟩,rfl⟩
 |deallocate h1=>exact ⟨h1,rfl⟩
theorem ok_back {k:Int} {t n r:Bs} {cols:List Co} {cons:List Cn} {names:List Bs} {rows:List (List Ex)} {wh:Ex} {sets:List (Bs × Ex)} {order:List (Ex × Bool)} {limit priv:Int} {opt:Bool} {kids:List St}
   (h:pOf k (.mk k t n r cols cons names rows wh sets order limit priv opt kids)) (he:St.mk k t n r cols cons names rows wh sets order limit priv opt kids=keep (mOf k) (.mk k t n r cols cons names rows wh sets order limit priv opt kids)):
   OkS (.mk k t n r cols cons names rows wh sets order limit priv opt kids):=by
 by_cases k1:k=1
 · subst k1;rw [he];exact .table h.1 h.2.1.1 h.2.1.2.1 h.2.1.2.2 h.2.2.2.1 h.2.2.2.2
 by_cases k2:k=2
 · subst k2;rw [he];exact .dropTable h
 by_cases k3:k=3
 · subst k3;rw [he];obtain ⟨h1,h2⟩:=h;obtain ⟨x,rfl,hx⟩:=one_of h2;exact .addCol h1 hx
 by_cases k4:k=4
 · subst k4;rw [he];exact .dropCol h.1 h.2
 by_cases k5:k=5
 · subst k5;rw [he];exact .rename h.1 h.2
 by_cases k6:k=6
 · subst k6;rw [he];obtain ⟨h1,h2⟩:=h;obtain ⟨x,rfl,hx⟩:=one_of h2;exact .addCons h1 hx
 by_cases k7:k=7
 · subst k7;rw [he];exact .dropCons h.1 h.2
 by_cases k8:k=8
 · subst k8;rw [he];exact .index h.1 h.2.1 h.2.2
 by_cases k9:k=9
 · subst k9;rw [he];exact .dropIndex h.1 h.2
 by_cases k10:k=10
 · subst k10;rw [he];exact .role h
 by_cases k11:k=11
 · subst k11;rw [he];exact .dropRole h
 by_cases k12:k=12
 · subst k12;rw [he];exact .grantRole h.1 h.2
 by_cases k13:k=13
 · subst k13;rw [he];exact .revokeRole h.1 h.2
 by_cases k14:k=14
 · subst k14;rw [he];exact .grant h.2.1 h.2.2 h.1.1 h.1.2
 by_cases k15:k=15
 · subst k15;rw [he];exact .revoke h.2.1 h.2.2 h.1.1 h.1.2
 by_cases k16:k=16
 · subst k16;rw [he];exact .rows (.insert h.1 h.2.1 h.2.2.1 h.2.2.2.1 h.2.2.2.2)
 by_cases k17:k=17
 · subst k17;rw [he];exact .rows (.update h.1 h.2.1.1 h.2.1.2.1 h.2.1.2.2 h.2.2)
 by_cases k18:k=18
 · subst k18;rw [he];exact .rows (.delete h.1 h.2)
 by_cases k19:k=19
 · subst k19;rw [he];exact .rows (.select h.1 h.2.1.2.1 h.2.1.2.2 h.2.2.1 h.2.2.2.1.2.1 h.2.2.2.1.2.2 h.2.2.2.2.1 h.2.2.2.2.2)
 by_cases k20:k=20
 · subst k20;rw [he];obtain ⟨h1,h2⟩:=h;obtain ⟨x,rfl,hx⟩:=one_of h2;exact .prepare h1 (okR_of hx)
 by_cases k21:k=21
 · subst k21;rw [he];exact .execute h.1 h.2.2.1 h.2.2.2
 by_cases k22:k=22
 · subst k22;rw [he];exact .deallocate h
 · exfalso
   simp only [pOf] at h
   rw [if_neg k1,if_neg k2,if_neg k3,if_neg k4,if_neg k5,if_neg k6,if_neg k7,if_neg k8,if_neg k9,if_neg k10,if_neg k11,if_neg k12,if_neg k13,if_neg k14,if_neg k15,if_neg k16,if_neg k17,if_neg k18,if_neg k19,if_neg k20,if_neg k21,if_neg k22] at h
   exact h
theorem ok_iff {x:St}:OkS x↔pOf (kindS x) x∧x=keep (mOf (kindS x)) x:=by
 constructor
 · exact ok_to
 · rintro ⟨h1,h2⟩
   obtain ⟨k,t,n,r,cols,cons,names,rows,wh,sets,order,limit,priv,opt,kids⟩:=x
   exact ok_back h1 h2
def keepCn (x:Cn):Cn:=
 if x.kind=1 then ⟨x.nm,x.kind,x.cols,noEx, [], []⟩ else if x.kind=2 then ⟨x.nm,x.kind, [],x.chk, [], []⟩ else if x.kind=3 then ⟨x.nm,x.kind,x.cols,noEx,x.tbl,x.refs⟩ else ⟨x.nm,x.kind, [],noEx, [], []⟩
def pCn (x:Cn):Prop:=
 if x.kind=1 then okLn x.cols 1 3 isN else if x.kind=2 then Lo x.chk else if x.kind=3 then okLn x.cols 1 3 isN∧isN x.tbl∧okLn x.refs 1 3 isN∧x.cols.length=x.refs.length else False
theorem okCn_iff {x:Cn}:OkCn x↔isN x.nm∧pCn x∧x=keepCn x:=by
 constructor
 · intro h
   cases h with
   |unique h1 h2=>exact ⟨h1,h2,rfl⟩
   |check h1 h2=>exact ⟨h1,h2,rfl⟩
   |foreign h1 h2 h3 h4=>exact ⟨h1,⟨h2,h3,⟨Nat.le_trans h2.1 h4.1,Nat.le_trans h4.2.1 h2.2.1,h4.2.2⟩,Nat.le_antisymm h4.1 h4.2.1⟩,rfl⟩
 · rintro ⟨h1,h2,h3⟩
   obtain ⟨nm,k,cols,chk,tbl,refs⟩:=x
   simp only at h1
   by_cases k1:k=1
   · subst k1;rw [h3];exact .unique h1 h2
   by_cases k2:k=2
   · subst k2;rw [h3];exact .check h1 h2
   by_cases k3:k=3
   · subst k3;rw [h3];obtain ⟨g1,g2,g3,g4⟩:=h2
     exact .foreign h1 g1 g2 ⟨Nat.le_of_eq g4,Nat.le_of_eq g4.symm,g3.2.2⟩
   · exfalso
     unfold pCn at h2
     simp only at h2
     rw [if_neg k1,if_neg k2,if_neg k3] at h2
     exact h2
def tLim (l:Bs):Prop:=l.length≤1000000
def cnLim (x:Cn):Prop:=tLim x.nm∧tLim x.tbl∧(∀y∈x.cols,tLim y)∧(∀y∈x.refs,tLim y)∧Lim x.chk
def sLim0 (t n r:Bs) (cols:List Co) (cons:List Cn) (names:List Bs) (rows:List (List Ex)) (wh:Ex) (sets:List (Bs × Ex)) (order:List (Ex × Bool)):Prop:=
 (tLim t∧tLim n∧tLim r)∧(∀x∈cols,tLim x.nm)∧(∀x∈cons,cnLim x)∧(∀x∈names,tLim x)∧(∀x∈rows,∀e∈x,Lim e)∧Lim wh∧(∀x∈sets,tLim x.1∧Lim x.2)∧(∀x∈order,Lim x.1)
mutual
def SLim:St→Prop
 | .mk k t n r cols cons names rows wh sets order limit priv opt kids=>sLim0 t n r cols cons names rows wh sets order∧SLimL kids
def SLimL:List St→Prop
 | []=>True
 |x::l=>SLim x∧SLimL l
end
theorem sLimL_iff:∀{l:List St},SLimL l↔∀x∈l,SLim x
 | []=>by rw [SLimL];simp
 |x::l=>by rw [SLimL,sLimL_iff];simp
theorem sLim_mk (k:Int) (t n r:Bs) (cols:List Co) (cons:List Cn) (names:List Bs) (rows:List (List Ex)) (wh:Ex) (sets:List (Bs × Ex)) (order:List (Ex × Bool)) (limit priv:Int) (opt:Bool) (kids:List St):
   SLim (.mk k t n r cols cons names rows wh sets order limit priv opt kids)↔sLim0 t n r cols cons names rows wh sets order∧∀x∈kids,SLim x:=by rw [SLim,sLimL_iff]
end Go.Proofs.YtiaomhdmllhmmaaGreatDoor.Sm
namespace Go.Proofs.YtiaomhdmllhmmaaGreatDoor.Ep
open Go.RowKit Mem Right
set_option linter.unusedVariables false
theorem same_mk (k o vk vn:Int) (vs nm:List UInt8) (kids:List Ex) (k' o' vk' vn' :Int) (vs' nm' :List UInt8) (kids' :List Ex):
   sameB (.mk k o vk vn vs nm kids) (.mk k' o' vk' vn' vs' nm' kids')=(decide (k=k' ∧o=o' ∧(vk=vk' ∧vn=vn' ∧vs=vs')∧nm=nm') && sameL kids kids'):=by rw [sameB]
theorem sameL_take {l m:List Ex} {j:Nat} {x y:Ex} (hl:l.length=m.length) (hx:l[j]?=some x) (hy:m[j]?=some y):sameL (l.drop j) (m.drop j)=(sameB x y && sameL (l.drop (j+1)) (m.drop (j+1))):=by
 rw [drop_kid hx,drop_kid hy,sameL]
theorem sameL_len:∀{l m:List Ex},l.length≠m.length→sameL l m=false
 | [], [],h=>absurd rfl h
 |x::l, [],_=>by rw [sameL]<;>simp
 | [],y::m,_=>by rw [sameL]<;>simp
 | x::l,y::m,h=>by
   rw [sameL,sameL_len (l:=l) (m:=m) (by simpa using h),Bool.and_false]
def SameC (f:FuncId) (x:Ex):Prop:=∀(y:Ex) (cs ds:List Value) (w:World),ExAt w w.heap.size x cs→ExAt w w.heap.size y ds→
 Calls Tryz.prog f #[.agg cs.toArray, .agg ds.toArray] w fun e w' =>e= .returned (.bool (sameB x y))∧Below w.heap.size w w'
set_option maxHeartbeats 4000000 in
theorem refList_of (l:List Ex) (ih:∀x∈l,SameC 24 x) (m:List Ex) (A C:Option Addr) (ca cc:Nat) (w:World) (hmx:l.length≤maxLen) (h1:KidsIn w (fun b=>b<w.heap.size) A 0 l) (h2:KidsIn w (fun b=>b<w.heap.size) C 0 m):
    Calls Tryz.prog 26 #[.slice A l.length ca, .slice C m.length cc] w fun e w' =>e= .returned (.bool (sameL l m))∧Below w.heap.size w w' :=by
  unfold maxLen at hmx
  obtain ⟨n,hn⟩:∃n,l.length=n:=⟨_,rfl⟩
  obtain ⟨n',hn'⟩:∃n,m.length=n:=⟨_,rfl⟩
  rw [hn] at hmx
  rw [hn,hn']
  by_cases hnn:n=n'
  case neg=>
    have t:((n:Int) !=(n' :Int))=true:=bne_yes (by omega)
    have HL:=Lib.hid (show sameL l m=false from sameL_len (by omega))
    clear ih h1 h2 hn hn' hnn
    go_enter Tryz.func26,Tryz.ntmps26
    go_wp2
    go_ret
    exact ⟨rb HL.out.symm,Below.refl _ _⟩
  subst hnn
  have t:((n:Int) !=(n:Int))=false:=by simp
  have HK:=Lib.hid h1
  have HM:=Lib.hid h2
  have HN:=Lib.hid hn
  have HN2:=Lib.hid hn'
  have HI:=Lib.hid ih
  clear ih h1 h2 hn hn'
  go_enter Tryz.func26,Tryz.ntmps26
  go_wp2
  go_loopw [5] (fun i wr=>∃j:Nat,j≤n∧i= .int .i64 (j:Int)∧Hid (sameL l m=sameL (l.drop j) (m.drop j))∧Hid (Below w.heap.size w wr)) (fun i _=>n+1 - (intOf i).toNat)
  case atStart=>exact ⟨0,Nat.zero_le _,rfl,Lib.hid (by rw [List.drop_zero,List.drop_zero]),Lib.hid (Below.refl _ _)⟩
  case round=>
    obtain ⟨j,hj,rfl,HL,HB⟩:=hrel
    by_cases hlt:j<n
    · obtain ⟨x,hx⟩:=kid_some (l:=l) (j:=j) (by have:=HN.out;omega)
      obtain ⟨y,hy⟩:=kid_some (l:=m) (j:=j) (by have:=HN2.out;omega)
      have hst:=sameL_take (by rw [HN.out,HN2.out]) hx hy
      have hxm:=HI.out x (kid_mem hx)
      obtain ⟨k1,o1,vk1,vn1,vs1,nm1,ks1,A1,n1,c1,b1,z1,e1,rfl,hb1,hn1,c0,c1',c2,c3,c4,c5,c6,hin1⟩:=kid_at HK.out hx
      obtain ⟨k2,o2,vk2,vn2,vs2,nm2,ks2,A2,n2,c2',b2,z2,e2,rfl,hb2,hn2,d0,d1,d2,d3,d4,d5,d6,hin2⟩:=kid_at HM.out hy
      obtain ⟨q,hq⟩:∃q,sameB x y=q:=⟨_,rfl⟩
      have HI2:=Lib.hid (show ∀W,Below wr.heap.size wr W→Calls Tryz.prog 24 #[exV k1 o1 vk1 vn1 (txt vs1) (txt nm1) A1 n1 c1,exV k2 o2 vk2 vn2 (txt vs2) (txt nm2) A2 n2 c2'] W fun e w' =>e= .returned (.bool q)∧Below W.heap.size W w' from fun W hW=>by
        rw [←hq]
        exact hxm y _ _ W (ExAt.on hin1 (Mem.on HB.out hW)) (ExAt.on hin2 (Mem.on HB.out hW)))
      rw [hst,hq] at HL
      have HX:=Lib.hid (show ∀W,Below wr.heap.size wr W→(W.cell? ⟨b1,z1+j*7,none⟩=some (.int .i64 k1)∧W.cell? ⟨b1,z1+j*7+1,none⟩=some (.int .i64 o1)∧W.cell? ⟨b1,z1+j*7+2,none⟩=some (.int .i64 vk1)∧W.cell? ⟨b1,z1+j*7+3,none⟩=some (.int .i64 vn1)∧W.cell? ⟨b1,z1+j*7+4,none⟩=some (.string (txt vs1))∧W.cell? ⟨b1,z1+j*7+5,none⟩=some (.string (txt nm1))∧W.cell? ⟨b1,z1+j*7+6,none⟩=some (.slice A1 n1 c1))∧
          (W.cell? ⟨b2,z2+j*7,none⟩=some (.int .i64 k2)∧W.cell? ⟨b2,z2+j*7+1,none⟩=some (.int .i64 o2)∧W.cell? ⟨b2,z2+j*7+2,none⟩=some (.int .i64 vk2)∧W.cell? ⟨b2,z2+j*7+3,none⟩=some (.int .i64 vn2)∧W.cell? ⟨b2,z2+j*7+4,none⟩=some (.string (txt vs2))∧W.cell? ⟨b2,z2+j*7+5,none⟩=some (.string (txt nm2))∧W.cell? ⟨b2,z2+j*7+6,none⟩=some (.slice A2 n2 c2')) from fun W hW=>by
        have hw:=Mem.on HB.out hW
        exact ⟨⟨(hw.cell hb1).trans c0,(hw.cell hb1).trans c1',(hw.cell hb1).trans c2,(hw.cell hb1).trans c3,(hw.cell hb1).trans c4,(hw.cell hb1).trans c5,(hw.cell hb1).trans c6⟩,(hw.cell hb2).trans d0,(hw.cell hb2).trans d1,(hw.cell hb2).trans d2,(hw.cell hb2).trans d3,(hw.cell hb2).trans d4,(hw.cell hb2).trans d5,(hw.cell hb2).trans d6⟩)
      have tl:decide ((j:Int)<(n:Int))=true:=decide_eq_true (by omega)
      have lt1:j<n:=hlt
      clear hin1 hin2 hx hy hst hxm hq c0 c1' c2 c3 c4 c5 c6 d0 d1 d2 d3 d4 d5 d6 hn1 hn2
      clear e1 e2
      go_upto_region 6 with fail
      refine wp_region_quiet (C:=fun w' =>Below wr.heap.size wr w') (by kernel_rfl) (by kernel_rfl) (Below.refl _ _).drew ?_
      repeat (first|go_big_quiet_skip|(refine BigFrame.wpQuiet_want rfl (fun K hK=>?_);refine quietC_val ?_;apply Exists.intro;refine ⟨fun W hW=>?_,hK _ ?_⟩;(focus (obtain ⟨⟨c0,c1',c2,c3,c4,c5,c6⟩,d0,d1,d2,d3,d4,d5,d6⟩:=HX.out W hW;go_simp;first|done|rfl));clear hK K;simp only [Act.put,List.setIfInBounds_toArray,List.set_cons_zero,List.set_cons_succ])|(quiet_step ((intro hW;first|(go_at_call 24;exact ((HI2.out _ hW).mono fun _ _ ⟨a,b⟩=>⟨a,Mem.on hW b⟩))))))
      refine wpQuiet_nil ?_
      intro W9 hw9
      have HW9:=Lib.hid hw9
      clear hw9
      cases q with
      | true=>
        go_wp2
        go_roundw
        case rel=>exact ⟨j+1,by omega,by go_num,Lib.hid (by rw [HL.out];rfl),Lib.hid (Mem.on HB.out HW9.out)⟩
        case measure=>simp [intOf];omega
      | false=>
        go_wp2
        go_ret
        exact ⟨rb (by rw [HL.out];rfl),Mem.on HB.out HW9.out⟩
    · have tl:decide ((j:Int)<(n:Int))=false:=decide_eq_false (by omega)
      have hd:sameL (l.drop j) (m.drop j)=true:=by
        rw [List.drop_eq_nil_of_le (by have:=HN.out;omega),List.drop_eq_nil_of_le (by have:=HN2.out;omega),sameL]
      go_wp2
      go_ret
      exact ⟨rb (by rw [HL.out,hd]),HB.out⟩
theorem txt_ne {l m:List UInt8} (h:l≠m):¬(txt l).toList=(txt m).toList∧¬txt l=txt m∧((txt l).toList==(txt m).toList)=false:=by
 have h1:¬(txt l).toList=(txt m).toList:=fun e=>h (by rw [Lib.toList_data,Lib.toList_data,txt_back,txt_back] at e;exact e)
 have h2:¬txt l=txt m:=fun e=>h1 (by rw [e])
 exact ⟨h1,h2,beq_eq_false_iff_ne.2 h1⟩
set_option maxHeartbeats 4000000 in
theorem refSame_any:∀(x:Ex),SameC 24 x:=by
 refine Ex.byKids fun k o vk vn vs nm kids ih y cs ds w h1 h2=>?_
 obtain ⟨A,n,c,rfl,hn,hnc,hcm, -,hk1⟩:=ex_open h1
 obtain ⟨k',o',vk',vn',vs',nm',kids'⟩:=y
 obtain ⟨A',n',c',rfl,hn', -, -, -,hk2⟩:=ex_open h2
 rw [same_mk]
 obtain ⟨r,hr⟩:∃r,(decide (k=k' ∧o=o' ∧(vk=vk' ∧vn=vn' ∧vs=vs')∧nm=nm') && sameL kids kids')=r:=⟨_,rfl⟩
 rw [hr]
 have HR:=Lib.hid hr
 clear hr
 obtain ⟨W,hW⟩:∃W,(w.alloc (.cells #[.int .i64 k, .int .i64 o, .int .i64 vk, .int .i64 vn, .string (txt vs), .string (txt nm), .slice A n c] 30)).alloc (.cells #[.int .i64 k', .int .i64 o', .int .i64 vk', .int .i64 vn', .string (txt vs'), .string (txt nm'), .slice A' n' c'] 30)=W:=⟨_,rfl⟩
 have hb:Below w.heap.size w W:=by rw [←hW];exact al (al (Below.refl _ _) _) _
 have x1:Cel W w.heap.size 30 #[.int .i64 k, .int .i64 o, .int .i64 vk, .int .i64 vn, .string (txt vs), .string (txt nm), .slice A n c]:=by rw [←hW];exact (Cel.new w _ _ rfl).alloc _
 have x2:Cel W (w.heap.size+1) 30 #[.int .i64 k', .int .i64 o', .int .i64 vk', .int .i64 vn', .string (txt vs'), .string (txt nm'), .slice A' n' c']:=by rw [←hW];exact Cel.new _ _ _ (by simp)
 have HB:=Lib.hid hb
 have HL:=Lib.hid (show Calls Tryz.prog 26 #[.slice A n c, .slice A' n' c'] W fun e w' =>e= .returned (.bool (sameL kids kids'))∧Below W.heap.size W w' from by
   rw [hn,hn']
   exact refList_of kids ih kids' A A' c c' W (by omega) (KidsIn.to (fun b h=>Nat.lt_of_lt_of_le h hb.size) (fun p hp=>hb.cell hp) hk1) (KidsIn.to (fun b h=>Nat.lt_of_lt_of_le h hb.size) (fun p hp=>hb.cell hp) hk2))
 have c0:=x1.at_ 0
 have c1:=x1.at_ 1
 have c2:=x1.at_ 2
 have c3:=x1.at_ 3
 have c4:=x1.at_ 4
 have c5:=x1.at_ 5
 have c6:=x1.at_ 6
 have d0:=x2.at_ 0
 have d1:=x2.at_ 1
 have d2:=x2.at_ 2
 have d3:=x2.at_ 3
 have d4:=x2.at_ 4
 have d5:=x2.at_ 5
 have d6:=x2.at_ 6
 clear h1 h2 hk1 hk2 x1 x2 ih hb hn hn' hnc hcm
 by_cases e0:k=k'
 case neg=>
   have t1:(k !=k')=true:=bne_yes e0
   have HF:=Lib.hid (show false=r from by have:=HR.out;rw [decide_eq_false (fun g=>e0 g.1),Bool.false_and] at this;exact this)
   go_enter Tryz.func24,Tryz.ntmps24
   go_wp2
   go_ret
   exact ⟨rb HF.out,HB.out⟩
 subst e0
 by_cases e0:o=o'
 case neg=>
   have t1:(o !=o')=true:=bne_yes e0
   have HF:=Lib.hid (show false=r from by have:=HR.out;rw [decide_eq_false (fun g=>e0 g.2.1),Bool.false_and] at this;exact this)
   go_enter Tryz.func24,Tryz.ntmps24
   go_wp2
   go_ret
   exact ⟨rb HF.out,HB.out⟩
 subst e0
 by_cases e0:vk=vk'
 case neg=>
   have HF:=Lib.hid (show false=r from by have:=HR.out;rw [decide_eq_false (fun g=>e0 g.2.2.1.1),Bool.false_and] at this;exact this)
   go_enter Tryz.func24,Tryz.ntmps24
   go_wp2
   go_ret
   exact ⟨rb HF.out,HB.out⟩
 subst e0
 by_cases e0:vn=vn'
 case neg=>
   have HF:=Lib.hid (show false=r from by have:=HR.out;rw [decide_eq_false (fun g=>e0 g.2.2.1.2.1),Bool.false_and] at this;exact this)
   go_enter Tryz.func24,Tryz.ntmps24
   go_wp2
   go_ret
   exact ⟨rb HF.out,HB.out⟩
 subst e0
 by_cases e0:vs=vs'
 case neg=>
   obtain ⟨t3,t4,t5⟩:=txt_ne e0
   have HF:=Lib.hid (show false=r from by have:=HR.out;rw [decide_eq_false (fun g=>e0 g.2.2.1.2.2),Bool.false_and] at this;exact this)
   go_enter Tryz.func24,Tryz.ntmps24
   go_wp2
   go_ret
   exact ⟨rb HF.out,HB.out⟩
 subst e0
 by_cases e0:nm=nm'
 case neg=>
   obtain ⟨t3,t4,t5⟩:=txt_ne e0
   have HF:=Lib.hid (show false=r from by have:=HR.out;rw [decide_eq_false (fun g=>e0 g.2.2.2),Bool.false_and] at this;exact this)
   go_enter Tryz.func24,Tryz.ntmps24
   go_wp2
   go_ret
   exact ⟨rb HF.out,HB.out⟩
 subst e0
 have HF:=Lib.hid (show sameL kids kids' =r from by have:=HR.out;rw [decide_eq_true ⟨rfl,rfl,⟨rfl,rfl,rfl⟩,rfl⟩,Bool.true_and] at this;exact this)
 go_enter Tryz.func24,Tryz.ntmps24
 go_wp2_with (go_at_call 26;(with_reducible refine HL.out.mono ?_);rintro e' w2 ⟨rfl,hb2⟩;have HB2:=Lib.hid (Mem.on HB.out hb2);clear hb2)
 go_ret
 exact ⟨rb HF.out,HB2.out⟩
end Go.Proofs.YtiaomhdmllhmmaaGreatDoor.Ep
namespace Go.Proofs.YtiaomhdmllhmmaaGreatDoor.Ep
open Go.RowKit Mem Right
set_option linter.unusedVariables false
abbrev sameV:Value:= .func (.func 40) #[] #[]
set_option maxHeartbeats 4000000 in
theorem eqList_of (l:List Ex) (ih:∀x∈l,SameC 40 x) (m:List Ex) (A C:Option Addr) (ca cc:Nat) (w:World) (hmx:l.length≤maxLen) (h1:KidsIn w (fun b=>b<w.heap.size) A 0 l) (h2:KidsIn w (fun b=>b<w.heap.size) C 0 m):
    Calls Tryz.prog 71 #[.slice A l.length ca, .slice C m.length cc,sameV] w fun e w' =>e= .returned (.bool (sameL l m))∧Below w.heap.size w w' :=by
  unfold maxLen at hmx
  obtain ⟨n,hn⟩:∃n,l.length=n:=⟨_,rfl⟩
  obtain ⟨n',hn'⟩:∃n,m.length=n:=⟨_,rfl⟩
  rw [hn] at hmx
  rw [hn,hn']
  by_cases hnn:n=n'
  case neg=>
    have t:((n:Int) !=(n' :Int))=true:=bne_yes (by omega)
    have HL:=Lib.hid (show sameL l m=false from sameL_len (by omega))
    clear ih h1 h2 hn hn' hnn
    go_enter Tryz.func71,Tryz.ntmps71
    go_wp2
    go_ret
    exact ⟨rb HL.out.symm,Below.refl _ _⟩
  subst hnn
  have t:((n:Int) !=(n:Int))=false:=by simp
  have HK:=Lib.hid h1
  have HM:=Lib.hid h2
  have HN:=Lib.hid hn
  have HN2:=Lib.hid hn'
  have HI:=Lib.hid ih
  clear ih h1 h2 hn hn'
  go_enter Tryz.func71,Tryz.ntmps71
  go_wp2
  go_loopw [17] (fun i wr=>∃j:Nat,j≤n∧i= .int .i64 (j:Int)∧Hid (sameL l m=sameL (l.drop j) (m.drop j))∧Hid (Below w.heap.size w wr)) (fun i _=>n+1 - (intOf i).toNat)
  case atStart=>exact ⟨0,Nat.zero_le _,rfl,Lib.hid (by rw [List.drop_zero,List.drop_zero]),Lib.hid (Below.refl _ _)⟩
  case round=>
    obtain ⟨j,hj,rfl,HL,HB⟩:=hrel
    by_cases hlt:j<n
    · obtain ⟨x,hx⟩:=kid_some (l:=l) (j:=j) (by have:=HN.out;omega)
      obtain ⟨y,hy⟩:=kid_some (l:=m) (j:=j) (by have:=HN2.out;omega)
      have hst:=sameL_take (by rw [HN.out,HN2.out]) hx hy
      have hxm:=HI.out x (kid_mem hx)
      obtain ⟨k1,o1,vk1,vn1,vs1,nm1,ks1,A1,n1,c1,b1,z1,e1,rfl,hb1,hn1,c0,c1',c2,c3,c4,c5,c6,hin1⟩:=kid_at HK.out hx
      obtain ⟨k2,o2,vk2,vn2,vs2,nm2,ks2,A2,n2,c2',b2,z2,e2,rfl,hb2,hn2,d0,d1,d2,d3,d4,d5,d6,hin2⟩:=kid_at HM.out hy
      obtain ⟨q,hq⟩:∃q,sameB x y=q:=⟨_,rfl⟩
      have HI2:=Lib.hid (show ∀W,Below wr.heap.size wr W→Calls Tryz.prog 40 #[exV k1 o1 vk1 vn1 (txt vs1) (txt nm1) A1 n1 c1,exV k2 o2 vk2 vn2 (txt vs2) (txt nm2) A2 n2 c2'] W fun e w' =>e= .returned (.bool q)∧Below W.heap.size W w' from fun W hW=>by
        rw [←hq]
        exact hxm y _ _ W (ExAt.on hin1 (Mem.on HB.out hW)) (ExAt.on hin2 (Mem.on HB.out hW)))
      rw [hst,hq] at HL
      obtain ⟨W1,hW1⟩:∃W1,wr.alloc (.cells #[.int .i64 k1, .int .i64 o1, .int .i64 vk1, .int .i64 vn1, .string (txt vs1), .string (txt nm1), .slice A1 n1 c1] 30)=W1:=⟨_,rfl⟩
      have c0:=(HB.out.cell hb1).trans c0
      have c1' :=(HB.out.cell hb1).trans c1'
      have c2:=(HB.out.cell hb1).trans c2
      have c3:=(HB.out.cell hb1).trans c3
      have c4:=(HB.out.cell hb1).trans c4
      have c5:=(HB.out.cell hb1).trans c5
      have c6:=(HB.out.cell hb1).trans c6
      obtain ⟨W2,hW2⟩:∃W2,W1.alloc (.cells #[.int .i64 k2, .int .i64 o2, .int .i64 vk2, .int .i64 vn2, .string (txt vs2), .string (txt nm2), .slice A2 n2 c2'] 30)=W2:=⟨_,rfl⟩
      have hb1w:Below wr.heap.size wr W1:=by rw [←hW1];exact al (Below.refl _ _) _
      have hb2w:Below wr.heap.size wr W2:=by rw [←hW2];exact al hb1w _
      have hsz:W1.heap.size=wr.heap.size+1:=by rw [←hW1];simp
      have HW2:=Lib.hid (Mem.on HB.out hb2w)
      have HY2:=Lib.hid hb2w
      have d0:=((Mem.on HB.out hb1w).cell hb2).trans d0
      have d1:=((Mem.on HB.out hb1w).cell hb2).trans d1
      have d2:=((Mem.on HB.out hb1w).cell hb2).trans d2
      have d3:=((Mem.on HB.out hb1w).cell hb2).trans d3
      have d4:=((Mem.on HB.out hb1w).cell hb2).trans d4
      have d5:=((Mem.on HB.out hb1w).cell hb2).trans d5
      have d6:=((Mem.on HB.out hb1w).cell hb2).trans d6
      have x1:Cel W2 wr.heap.size 30 #[.int .i64 k1, .int .i64 o1, .int .i64 vk1, .int .i64 vn1, .string (txt vs1), .string (txt nm1), .slice A1 n1 c1]:=by rw [←hW2,←hW1];exact (Cel.new wr _ _ rfl).alloc _
      have x2:Cel W2 W1.heap.size 30 #[.int .i64 k2, .int .i64 o2, .int .i64 vk2, .int .i64 vn2, .string (txt vs2), .string (txt nm2), .slice A2 n2 c2']:=by rw [←hW2];exact Cel.new W1 _ _ rfl
      have y0:=x1.at_ 0
      have z0:=x2.at_ 0
      have y1:=x1.at_ 1
      have z1:=x2.at_ 1
      have y2:=x1.at_ 2
      have z2:=x2.at_ 2
      have y3:=x1.at_ 3
      have z3:=x2.at_ 3
      have y4:=x1.at_ 4
      have z4:=x2.at_ 4
      have y5:=x1.at_ 5
      have z5:=x2.at_ 5
      have y6:=x1.at_ 6
      have z6:=x2.at_ 6
      have tl:decide ((j:Int)<(n:Int))=true:=decide_eq_true (by omega)
      clear hin1 hin2 hx hy hst hxm hq hn1 hn2 e1 e2 x1 x2 hb1w hb2w hsz
      cases q with
      | true=>
        go_wp2_with (go_at_call 40;(with_reducible refine (HI2.out _ HY2.out).mono ?_);rintro e' w2 ⟨rfl,hb2⟩;have HB2:=Lib.hid (Mem.on HW2.out hb2);clear hb2)
        go_roundw
        case rel=>exact ⟨j+1,by omega,by go_num,Lib.hid (by rw [HL.out];rfl),HB2⟩
        case measure=>simp [intOf];omega
      | false=>
        go_wp2_with (go_at_call 40;(with_reducible refine (HI2.out _ HY2.out).mono ?_);rintro e' w2 ⟨rfl,hb2⟩;have HB2:=Lib.hid (Mem.on HW2.out hb2);clear hb2)
        go_ret
        exact ⟨rb (by rw [HL.out];rfl),HB2.out⟩
    · have tl:decide ((j:Int)<(n:Int))=false:=decide_eq_false (by omega)
      have hd:sameL (l.drop j) (m.drop j)=true:=by
        rw [List.drop_eq_nil_of_le (by have:=HN.out;omega),List.drop_eq_nil_of_le (by have:=HN2.out;omega),sameL]
      go_wp2
      go_ret
      exact ⟨rb (by rw [HL.out,hd]),HB.out⟩
set_option maxHeartbeats 4000000 in
theorem same_any:∀(x:Ex),SameC 40 x:=by
 refine Ex.byKids fun k o vk vn vs nm kids ih y cs ds w h1 h2=>?_
 obtain ⟨A,n,c,rfl,hn,hnc,hcm, -,hk1⟩:=ex_open h1
 obtain ⟨k',o',vk',vn',vs',nm',kids'⟩:=y
 obtain ⟨A',n',c',rfl,hn', -, -, -,hk2⟩:=ex_open h2
 rw [same_mk]
 obtain ⟨r,hr⟩:∃r,(decide (k=k' ∧o=o' ∧(vk=vk' ∧vn=vn' ∧vs=vs')∧nm=nm') && sameL kids kids')=r:=⟨_,rfl⟩
 rw [hr]
 have HR:=Lib.hid hr
 clear hr
 obtain ⟨W,hW⟩:∃W,(w.alloc (.cells #[.int .i64 k, .int .i64 o, .int .i64 vk, .int .i64 vn, .string (txt vs), .string (txt nm), .slice A n c] 30)).alloc (.cells #[.int .i64 k', .int .i64 o', .int .i64 vk', .int .i64 vn', .string (txt vs'), .string (txt nm'), .slice A' n' c'] 30)=W:=⟨_,rfl⟩
 have hb:Below w.heap.size w W:=by rw [←hW];exact al (al (Below.refl _ _) _) _
 have x1:Cel W w.heap.size 30 #[.int .i64 k, .int .i64 o, .int .i64 vk, .int .i64 vn, .string (txt vs), .string (txt nm), .slice A n c]:=by rw [←hW];exact (Cel.new w _ _ rfl).alloc _
 have x2:Cel W (w.heap.size+1) 30 #[.int .i64 k', .int .i64 o', .int .i64 vk', .int .i64 vn', .string (txt vs'), .string (txt nm'), .slice A' n' c']:=by rw [←hW];exact Cel.new _ _ _ (by simp)
 have HB:=Lib.hid hb
 have HL:=Lib.hid (show Calls Tryz.prog 71 #[.slice A n c, .slice A' n' c',sameV] W fun e w' =>e= .returned (.bool (sameL kids kids'))∧Below W.heap.size W w' from by
   rw [hn,hn']
   exact eqList_of kids ih kids' A A' c c' W (by omega) (KidsIn.to (fun b h=>Nat.lt_of_lt_of_le h hb.size) (fun p hp=>hb.cell hp) hk1) (KidsIn.to (fun b h=>Nat.lt_of_lt_of_le h hb.size) (fun p hp=>hb.cell hp) hk2))
 have c0:=x1.at_ 0
 have c1:=x1.at_ 1
 have c2:=x1.at_ 2
 have c3:=x1.at_ 3
 have c4:=x1.at_ 4
 have c5:=x1.at_ 5
 have c6:=x1.at_ 6
 have d0:=x2.at_ 0
 have d1:=x2.at_ 1
 have d2:=x2.at_ 2
 have d3:=x2.at_ 3
 have d4:=x2.at_ 4
 have d5:=x2.at_ 5
 have d6:=x2.at_ 6
 clear h1 h2 hk1 hk2 x1 x2 ih hb hn hn' hnc hcm
 by_cases e0:k=k'
 case neg=>
   have t1:(k==k')=false:=beq_no e0
   have HF:=Lib.hid (show false=r from by have:=HR.out;rw [decide_eq_false (fun g=>e0 g.1),Bool.false_and] at this;exact this)
   go_enter Tryz.func40,Tryz.ntmps40
   go_wp2
   go_ret
   exact ⟨rb HF.out,HB.out⟩
 subst e0
 by_cases e0:o=o'
 case neg=>
   have t1:(o==o')=false:=beq_no e0
   have HF:=Lib.hid (show false=r from by have:=HR.out;rw [decide_eq_false (fun g=>e0 g.2.1),Bool.false_and] at this;exact this)
   go_enter Tryz.func40,Tryz.ntmps40
   go_wp2
   go_ret
   exact ⟨rb HF.out,HB.out⟩
 subst e0
 by_cases e0:vk=vk'
 case neg=>
   have HF:=Lib.hid (show false=r from by have:=HR.out;rw [decide_eq_false (fun g=>e0 g.2.2.1.1),Bool.false_and] at this;exact this)
   go_enter Tryz.func40,Tryz.ntmps40
   go_wp2
   go_ret
   exact ⟨rb HF.out,HB.out⟩
 subst e0
 by_cases e0:vn=vn'
 case neg=>
   have HF:=Lib.hid (show false=r from by have:=HR.out;rw [decide_eq_false (fun g=>e0 g.2.2.1.2.1),Bool.false_and] at this;exact this)
   go_enter Tryz.func40,Tryz.ntmps40
   go_wp2
   go_ret
   exact ⟨rb HF.out,HB.out⟩
 subst e0
 by_cases e0:vs=vs'
 case neg=>
   obtain ⟨t3,t4,t5⟩:=txt_ne e0
   have HF:=Lib.hid (show false=r from by have:=HR.out;rw [decide_eq_false (fun g=>e0 g.2.2.1.2.2),Bool.false_and] at this;exact this)
   go_enter Tryz.func40,Tryz.ntmps40
   go_wp2
   go_ret
   exact ⟨rb HF.out,HB.out⟩
 subst e0
 by_cases e0:nm=nm'
 case neg=>
   obtain ⟨t3,t4,t5⟩:=txt_ne e0
   have HF:=Lib.hid (show false=r from by have:=HR.out;rw [decide_eq_false (fun g=>e0 g.2.2.2),Bool.false_and] at this;exact this)
   go_enter Tryz.func40,Tryz.ntmps40
   go_wp2
   go_ret
   exact ⟨rb HF.out,HB.out⟩
 subst e0
 have HF:=Lib.hid (show sameL kids kids' =r from by have:=HR.out;rw [decide_eq_true ⟨rfl,rfl,⟨rfl,rfl,rfl⟩,rfl⟩,Bool.true_and] at this;exact this)
 go_enter Tryz.func40,Tryz.ntmps40
 go_wp2_with (go_at_call 71;(with_reducible refine HL.out.mono ?_);rintro e' w2 ⟨rfl,hb2⟩;have HB2:=Lib.hid (Mem.on HB.out hb2);clear hb2)
 go_ret
 exact ⟨rb HF.out,HB2.out⟩
end Go.Proofs.YtiaomhdmllhmmaaGreatDoor.Ep
