/- How high a tree is, whether it is right, whether two are one, whether it has few parts: by Right values, in plain words. Small words for walks over numbers and texts. For every layer. A kid of a tree, cell by cell, as the walk spells its places; texts' sizes. What the questions about one byte answer. A variable of a row's list, wherever it stands on it: an array of texts, cell by cell. The table of signs, as the row lays it, and how long the sign is with which a text begins. How long the sign is with which a text begins. -/
import Derived.Test.YtiaomhdmllhmmaaGreatDoorK01
import GoSem.Op.String
import Derived.WalkKit
import Derived.WalkSpells
import Derived.WalkLawsBesides
import Derived.Lib.Hide
import Derived.Lib.IndexBytes
import Derived.Test.YtiaomhdmllhmmaaGreatDoorRows
import Derived.Test.YtiaomhdmllhmmaaGreatDoorK02
import Derived.Lib.LaidTab
import Derived.MakeChecks
import Derived.OpenShut
import Derived.Lib.MinMax
import Derived.Deep.LoopGhost
import Derived.ChangeKeysEq
namespace Go.Proofs.YtiaomhdmllhmmaaGreatDoor.Ep
open Lx
set_option linter.unusedVariables false
mutual
def hgt:Ex→Nat
 | .mk _ _ _ _ _ _ kids=>hgtL kids+1
def hgtL:List Ex→Nat
 | []=>0
 |x::l=>max (hgt x) (hgtL l)
end
theorem hgt_mk (k o vk vn:Int) (vs nm:List UInt8) (kids:List Ex):hgt (.mk k o vk vn vs nm kids)=hgtL kids+1:=by rw [hgt]
theorem hgtL_cons (x:Ex) (l:List Ex):hgtL (x::l)=max (hgt x) (hgtL l):=by rw [hgtL]
theorem hgtL_app:∀(a b:List Ex),hgtL (a++b)=max (hgtL a) (hgtL b)
 | [],b=>by rw [List.nil_append,show hgtL []=0 by rw [hgtL]];omega
 |x::a,b=>by rw [List.cons_append,hgtL_cons,hgtL_cons,hgtL_app a b];omega
theorem hgtL_snoc (l:List Ex) (x:Ex):hgtL (l++ [x])=max (hgtL l) (hgt x):=by
 rw [hgtL_app,hgtL_cons,show hgtL []=0 by rw [hgtL]];omega
theorem hgtL_mem:∀{l:List Ex} {x:Ex},x∈l→hgt x≤hgtL l
 | y::l,x,h=>by
   rw [hgtL_cons]
   rcases List.mem_cons.1 h with rfl|h
   · omega
   · have:=hgtL_mem h;omega
def headB (slots:Bool) (k o vk vn:Int) (vs nm:List UInt8) (n:Nat):Bool:=
 if (k≠1∧¬(vk=0∧vn=0∧vs= [])) ∨ (k≠2∧k≠7∧nm≠ []) then false
 else if (k=1 ∨ k=2 ∨ k=6 ∨ k=7)∧o≠0 then false
 else if k=1 then decide (n=0) && Val.okV vk vn vs && decide (¬(vk=1∧vn<0))
 else if k=2 then decide (n=0) && decide (kindOf nm=1)
 else if k=3 then decide (n=0∧1≤o∧o≤6)
 else if k=4 then decide (n=1∧1≤o∧o≤4)
 else if k=5 then decide (n=2∧1≤o∧o≤14)
 else if k=6 then decide (2≤n∧n≤9)
 else if k=7 then decide ((nm=nCoal∧1≤n∧n≤4) ∨ ((nm=nLen ∨ nm=nAbs)∧n=1))
 else if k=8 then slots && decide (n=0∧0≤o∧o≤5)
 else false
mutual
def rightB (slots:Bool):Ex→Bool
 | .mk k o vk vn vs nm kids=>rightL slots kids && headB slots k o vk vn vs nm kids.length
def rightL (slots:Bool):List Ex→Bool
 | []=>true
 |x::l=>rightB slots x && rightL slots l
end
theorem rightB_mk (slots:Bool) (k o vk vn:Int) (vs nm:List UInt8) (kids:List Ex):rightB slots (.mk k o vk vn vs nm kids)=(rightL slots kids && headB slots k o vk vn vs nm kids.length):=by rw [rightB]
theorem rightL_iff {slots:Bool}:∀{l:List Ex},rightL slots l=true↔∀x∈l,rightB slots x=true
 | []=>by rw [rightL];simp
 |x::l=>by rw [rightL,Bool.and_eq_true,rightL_iff];simp
def checkE (slots:Bool) (e:Ex):Int:=if 8<hgt e then 17 else if rightB slots e=true then 0 else 2
inductive Rs (slots:Bool):Ex→Prop
 |lit {k n:Int} {s:List UInt8}:Val.okV k n s=true→(k=1→0≤n)→Rs slots (lit k n s)
 |col {nm:List UInt8}:kindOf nm=1→Rs slots (col nm)
 |par {o:Int}:1≤o→o≤6→Rs slots (par o)
 |un {o:Int} {a:Ex}:1≤o→o≤4→Rs slots a→Rs slots (un o a)
 |bin {o:Int} {a b:Ex}:1≤o→o≤14→Rs slots a→Rs slots b→Rs slots (bin o a b)
 |inn {a:Ex} {l:List Ex}:l≠ []→l.length≤8→Rs slots a→(∀x∈l,Rs slots x)→Rs slots (inn (a::l))
 |call {nm:List UInt8} {l:List Ex}:l≠ []→(nm=nCoal∧l.length≤4 ∨ (nm=nLen ∨ nm=nAbs)∧l.length≤1)→(∀x∈l,Rs slots x)→Rs slots (call nm l)
 |slot {o:Int}:slots=true→0≤o→o≤5→Rs slots (.mk 8 o 0 0 [] [] [])
theorem head_form {slots:Bool} {k o vk vn:Int} {vs nm:List UInt8} {kids:List Ex} (h:headB slots k o vk vn vs nm kids.length=true) (hk:∀x∈kids,Rs slots x):Rs slots (.mk k o vk vn vs nm kids):=by
 unfold headB at h
 by_cases c1:(k≠1∧¬(vk=0∧vn=0∧vs= [])) ∨ (k≠2∧k≠7∧nm≠ [])
 · rw [if_pos c1] at h;cases h
 rw [if_neg c1] at h
 by_cases c2:(k=1 ∨ k=2 ∨ k=6 ∨ k=7)∧o≠0
 · rw [if_pos c2] at h;cases h
 rw [if_neg c2] at h
 have hv:k≠1→vk=0∧vn=0∧vs= []:=fun g=>Classical.byContradiction fun g' =>c1 (.inl ⟨g,g'⟩)
 have hn:k≠2→k≠7→nm= []:=fun g g2=>Classical.byContradiction fun g' =>c1 (.inr ⟨g,g2,g'⟩)
 have ho:k=1 ∨ k=2 ∨ k=6 ∨ k=7→o=0:=fun g=>Classical.byContradiction fun g' =>c2 ⟨g,g'⟩
 by_cases k1:k=1
 · rw [if_pos k1] at h
   simp only [Bool.and_eq_true,decide_eq_true_eq] at h
   obtain ⟨⟨g1,g2⟩,g3⟩:=h
   obtain rfl:=List.length_eq_zero_iff.1 g1
   obtain rfl:=ho (.inl k1)
   obtain rfl:=hn (by omega) (by omega)
   subst k1
   exact .lit g2 (by omega)
 rw [if_neg k1] at h
 obtain ⟨rfl,rfl,rfl⟩:=hv k1
 by_cases k2:k=2
 · rw [if_pos k2] at h
   simp only [Bool.and_eq_true,decide_eq_true_eq] at h
   obtain rfl:=List.length_eq_zero_iff.1 h.1
   obtain rfl:=ho (.inr (.inl k2))
   subst k2
   exact .col h.2
 rw [if_neg k2] at h
 by_cases k3:k=3
 · rw [if_pos k3] at h
   simp only [decide_eq_true_eq] at h
   obtain rfl:=List.length_eq_zero_iff.1 h.1
   obtain rfl:=hn k2 (by omega)
   subst k3
   exact .par h.2.1 h.2.2
 rw [if_neg k3] at h
 by_cases k4:k=4
 · rw [if_pos k4] at h
   simp only [decide_eq_true_eq] at h
   obtain rfl:=hn k2 (by omega)
   obtain ⟨a,rfl⟩:=List.length_eq_one_iff.1 h.1
   subst k4
   exact .un h.2.1 h.2.2 (hk a (by simp))
 rw [if_neg k4] at h
 by_cases k5:k=5
 · rw [if_pos k5] at h
   simp only [decide_eq_true_eq] at h
   obtain rfl:=hn k2 (by omega)
   subst k5
   match kids,h with
   | [a,b],h=>exact .bin h.2.1 h.2.2 (hk a (by simp)) (hk b (by simp))
   | [],h=>simp at h
   | [a],h=>simp at h
   |a::b::c::l,h=>simp at h
 rw [if_neg k5] at h
 by_cases k6:k=6
 · rw [if_pos k6] at h
   simp only [decide_eq_true_eq] at h
   obtain rfl:=hn k2 (by omega)
   obtain rfl:=ho (.inr (.inr (.inl k6)))
   subst k6
   match kids,h with
   | a::b::l,h=>
     simp at h
     exact .inn (by simp) (by simp;omega) (hk a (by simp)) fun x hx=>hk x (List.mem_cons_of_mem _ hx)
   | [a],h=>simp at h
   | [],h=>simp at h
 rw [if_neg k6] at h
 by_cases k7:k=7
 · rw [if_pos k7] at h
   simp only [decide_eq_true_eq] at h
   obtain rfl:=ho (.inr (.inr (.inr k7)))
   subst k7
   refine .call ?_ ?_ hk
   · rintro rfl
     simp at h
   · rcases h with ⟨g1,g2,g3⟩|⟨g1,g2⟩
     · exact .inl ⟨g1,g3⟩
     · exact .inr ⟨g1,by omega⟩
 rw [if_neg k7] at h
 by_cases k8:k=8
 · rw [if_pos k8] at h
   simp only [Bool.and_eq_true,decide_eq_true_eq] at h
   obtain rfl:=List.length_eq_zero_iff.1 h.2.1
   obtain rfl:=hn k2 k7
   subst k8
   exact .slot h.1 h.2.2.1 h.2.2.2
 · rw [if_neg k8] at h;cases h
theorem rs_of {slots:Bool}:∀e:Ex,rightB slots e=true→Rs slots e:=by
 refine Ex.byKids fun k o vk vn vs nm kids ih h=>?_
 rw [rightB_mk,Bool.and_eq_true,rightL_iff] at h
 exact head_form h.2 fun x hx=>ih x hx (h.1 x hx)
theorem rightB_of {slots:Bool} {e:Ex} (h:Rs slots e):rightB slots e=true:=by
 induction h with
 | @lit k n s h1 h2=>
   unfold lit
   rw [rightB_mk,rightL,Bool.true_and]
   unfold headB
   rw [if_neg (by simp),if_neg (by simp),if_pos rfl,h1]
   simp
   omega
 | @col nm h=>
   unfold col
   rw [rightB_mk,rightL,Bool.true_and]
   unfold headB
   rw [if_neg (by simp),if_neg (by simp),if_neg (by decide),if_pos rfl]
   simp [h]
 | @par o h1 h2=>
   unfold par
   rw [rightB_mk,rightL,Bool.true_and]
   unfold headB
   rw [if_neg (by simp),if_neg (by omega),if_neg (by decide),if_neg (by decide),if_pos rfl]
   simp [h1,h2]
 | @un o a h1 h2 h ih=>
   unfold un
   rw [rightB_mk,rightL,rightL,ih,Bool.true_and,Bool.true_and]
   unfold headB
   rw [if_neg (by simp),if_neg (by omega),if_neg (by decide),if_neg (by decide),if_neg (by decide),if_pos rfl]
   simp [h1,h2]
 | @bin o a b h1 h2 h h' ih ih' =>
   unfold bin
   rw [rightB_mk,rightL,rightL,rightL,ih,ih',Bool.true_and,Bool.true_and,Bool.true_and]
   unfold headB
   rw [if_neg (by simp),if_neg (by omega),if_neg (by decide),if_neg (by decide),if_neg (by decide),if_neg (by decide),if_pos rfl]
   simp [h1,h2]
 | @inn a l h1 h2 h h' ih ih' =>
   unfold inn
   rw [rightB_mk,rightL,ih,rightL_iff.2 ih',Bool.true_and,Bool.true_and]
   unfold headB
   rw [if_neg (by simp),if_neg (by simp),if_neg (by decide),if_neg (by decide),if_neg (by decide),if_neg (by decide),if_neg (by decide),if_pos rfl]
   have:l.length≠0:=fun g=>h1 (List.length_eq_zero_iff.1 g)
   simp
   omega
 | @call nm l h1 h2 h ih=>
   unfold call
   rw [rightB_mk,rightL_iff.2 ih,Bool.true_and]
   unfold headB
   rw [if_neg (by simp),if_neg (by simp),if_neg (by decide),if_neg (by decide),if_neg (by decide),if_neg (by decide),if_neg (by decide),if_neg (by decide),if_pos rfl]
   have:l.length≠0:=fun g=>h1 (List.length_eq_zero_iff.1 g)
   rw [decide_eq_true_eq]
   rcases h2 with ⟨g1,g2⟩|⟨g1,g2⟩
   · exact .inl ⟨g1,by omega,g2⟩
   · exact .inr ⟨g1,by omega⟩
 | @slot o hs h1 h2=>
   rw [rightB_mk,rightL,Bool.true_and]
   unfold headB
   rw [if_neg (by simp),if_neg (by omega),if_neg (by decide),if_neg (by decide),if_neg (by decide),if_neg (by decide),if_neg (by decide),if_neg (by decide),if_neg (by decide),if_pos rfl]
   simp [h1,h2,hs]
theorem Rt.rs {slots:Bool} {e:Ex} (h:Rt e):Rs slots e:=by
 induction h with
 |lit h1 h2 _ _=>exact .lit h1 h2
 |col h=>exact .col h
 |par h1 h2=>exact .par h1 h2
 |un h1 h2 _ ih=>exact .un h1 h2 ih
 |bin h1 h2 _ _ ih ih' =>exact .bin h1 h2 ih ih'
 |inn h1 h2 _ _ ih ih' =>exact .inn h1 h2 ih ih'
 |call h1 h2 _ ih=>exact .call h1 h2 ih
def i64n (n:Int):Prop:= -9223372036854775808≤n∧n≤9223372036854775807
mutual
def Wide:Ex→Prop
 | .mk k o vk vn vs nm kids=>i64n vn∧WideL kids
def WideL:List Ex→Prop
 | []=>True
 |x::l=>Wide x∧WideL l
end
theorem wideL_iff:∀{l:List Ex},WideL l↔∀x∈l,Wide x
 | []=>by rw [WideL];simp
 |x::l=>by rw [WideL,wideL_iff];simp
theorem wide_mk (k o vk vn:Int) (vs nm:List UInt8) (kids:List Ex):Wide (.mk k o vk vn vs nm kids)↔i64n vn∧∀x∈kids,Wide x:=by rw [Wide,wideL_iff]
theorem Rs.rt {e:Ex} (h:Rs false e):Wide e→Rt e:=by
 induction h with
 |lit h1 h2=>intro w;exact .lit h1 h2 ((wide_mk _ _ _ _ _ _ _).1 w).1.2 ((wide_mk _ _ _ _ _ _ _).1 w).1.1
 |col h=>exact fun _=> .col h
 |par h1 h2=>exact fun _=> .par h1 h2
 |un h1 h2 _ ih=>intro w;exact .un h1 h2 (ih (((wide_mk _ _ _ _ _ _ _).1 w).2 _ (by simp)))
 |bin h1 h2 _ _ ih ih' =>intro w;exact .bin h1 h2 (ih (((wide_mk _ _ _ _ _ _ _).1 w).2 _ (by simp))) (ih' (((wide_mk _ _ _ _ _ _ _).1 w).2 _ (by simp)))
 |inn h1 h2 _ _ ih ih' =>intro w;exact .inn h1 h2 (ih (((wide_mk _ _ _ _ _ _ _).1 w).2 _ (by simp))) fun x hx=>ih' x hx (((wide_mk _ _ _ _ _ _ _).1 w).2 _ (List.mem_cons_of_mem _ hx))
 |call h1 h2 _ ih=>intro w;exact .call h1 h2 fun x hx=>ih x hx (((wide_mk _ _ _ _ _ _ _).1 w).2 _ hx)
 |slot h _ _=>cases h
mutual
def sameB:Ex→Ex→Bool
 | .mk k o vk vn vs nm kids, .mk k' o' vk' vn' vs' nm' kids' =>decide (k=k' ∧o=o' ∧(vk=vk' ∧vn=vn' ∧vs=vs')∧nm=nm') && sameL kids kids'
def sameL:List Ex→List Ex→Bool
 | [], []=>true
 |x::l,y::m=>sameB x y && sameL l m
 | [],_::_=>false
 |_::_, []=>false
end
mutual
theorem sameB_iff:∀{a b:Ex},sameB a b=true↔a=b
 | .mk k o vk vn vs nm kids, .mk k' o' vk' vn' vs' nm' kids' =>by
   rw [sameB,Bool.and_eq_true,decide_eq_true_eq,sameL_iff,Ex.mk.injEq]
   constructor
   · rintro ⟨⟨h1,h2,⟨h3,h4,h5⟩,h6⟩,h7⟩
     exact ⟨h1,h2,h3,h4,h5,h6,h7⟩
   · rintro ⟨h1,h2,h3,h4,h5,h6,h7⟩
     exact ⟨⟨h1,h2,⟨h3,h4,h5⟩,h6⟩,h7⟩
theorem sameL_iff:∀{l m:List Ex},sameL l m=true↔l=m
 | [], []=>by rw [sameL];simp
 | x::l,y::m=>by
   rw [sameL,Bool.and_eq_true,sameB_iff,sameL_iff]
   simp
 | [],_::_=>by rw [sameL];simp
 |_::_, []=>by rw [sameL];simp
end
mutual
def cnt:Ex→Nat→Option Nat
  | .mk k o vk vn vs nm kids,n=>if n=0 ∨ 12<kids.length ∨ 100<nm.length ∨ 100<vs.length then none else cntL kids (n - 1)
def cntL:List Ex→Nat→Option Nat
  | [],n=>some n
  | x::l,n=>match cnt x n with
    |none=>none
    |some m=>cntL l m
end
mutual
def size:Ex→Nat
 | .mk _ _ _ _ _ _ kids=>sizeL kids+1
def sizeL:List Ex→Nat
 | []=>0
 |x::l=>size x+sizeL l
end
mutual
theorem cnt_size:∀{e:Ex} {n m:Nat},cnt e n=some m→size e+m=n
 | .mk k o vk vn vs nm kids,n,m,h=>by
   rw [cnt] at h
   split at h
   · cases h
   · have:=cntL_size h
     rw [size];omega
theorem cntL_size:∀{l:List Ex} {n m:Nat},cntL l n=some m→sizeL l+m=n
 | [],n,m,h=>by
   rw [cntL] at h
   injection h with h
   rw [sizeL];omega
 | x ::l,n,m,h=>by
   rw [cntL] at h
   split at h
   · cases h
   · rename_i m' e
     have h1:=cnt_size e
     have h2:=cntL_size h
     rw [sizeL];omega
end
end Go.Proofs.YtiaomhdmllhmmaaGreatDoor.Ep
namespace Go.Proofs.YtiaomhdmllhmmaaGreatDoor.Right
def okB (c:UInt8):Bool:= !(decide ((c.toNat:Int)<32)||decide (126<(c.toNat:Int)))
def pl (l:List UInt8):Bool:=l.all okB
def okV (k n:Int) (l:List UInt8):Bool:=
 if k=0 then decide (n=0) && decide (l= []) else if k=1 then decide (l= []) else if k=2 then (decide (n=0)||decide (n=1)) && decide (l= [])
 else if k=3 then decide (n=0) && decide (l.length≤32) && pl l else false
theorem ok_0 {n:Int} {l:List UInt8}:okV 0 n l=(decide (n=0) && decide (l= [])):=rfl
theorem ok_1 {n:Int} {l:List UInt8}:okV 1 n l=decide (l= []):=rfl
theorem ok_2 {n:Int} {l:List UInt8}:okV 2 n l=((decide (n=0)||decide (n=1)) && decide (l= [])):=rfl
theorem ok_3 {n:Int} {l:List UInt8}:okV 3 n l=(decide (n=0) && decide (l.length≤32) && pl l):=rfl
theorem ok_no {k n:Int} {l:List UInt8} (h0:¬k=0) (h1:¬k=1) (h2:¬k=2) (h3:¬k=3):okV k n l=false:=by unfold okV;rw [if_neg h0,if_neg h1,if_neg h2,if_neg h3]
theorem l_inj {a b:ByteArray} (h:a.data.toList=b.data.toList):a=b:=by
 obtain ⟨⟨x⟩⟩:=a
 obtain ⟨⟨y⟩⟩:=b
 have h:x=y:=h
 subst h
 rfl
end Go.Proofs.YtiaomhdmllhmmaaGreatDoor.Right
namespace Go.Proofs.YtiaomhdmllhmmaaGreatDoor.Right
open Go.RowKit Mem
set_option linter.unusedVariables false
theorem beq_no {a b:Int} (h:¬a=b):(a==b)=false:=beq_eq_false_iff_ne.2 h
theorem beq_yes {a b:Int} (h:a=b):(a==b)=true:=by simp [h]
theorem bne_no {a b:Int} (h:a=b):(a !=b)=false:=by simp [h]
theorem bne_yes {a b:Int} (h:¬a=b):(a !=b)=true:=by simp [h]
theorem ri {a b:Int} (h:a=b):Ending.returned (.int .i64 a)= .returned (.int .i64 b):=by rw [h]
theorem rb {a b:Bool} (h:a=b):Ending.returned (.bool a)= .returned (.bool b):=by rw [h]
theorem take_snoc (s:ByteArray) (k:Nat) (h:k<s.size):s.data.toList.take (k+1)=s.data.toList.take k++ [s[k]]:=by
 rw [List.take_succ_eq_append_getElem (by simpa using h)];rfl
theorem take_all (s:ByteArray):s.data.toList.take s.size=s.data.toList:=List.take_of_length_le (by rw [Array.length_toList];exact Nat.le_refl _)
theorem drop_byte (s:ByteArray) (k:Nat) (h:k<s.size):s.data.toList.drop k=s[k]::s.data.toList.drop (k+1):=by
 have hk:k<s.data.toList.length:=by rw [Array.length_toList];exact h
 rw [List.drop_eq_getElem_cons hk];rfl
theorem empty_or (s:ByteArray):s=⟨#[]⟩ ∨ (¬s.data.toList= []∧(s.toList== [])=false):=by
 by_cases h:s.data.toList= []
 · left;exact l_inj h
 · right;refine ⟨h,?_⟩
   rw [Lib.toList_data];simpa using h
end Go.Proofs.YtiaomhdmllhmmaaGreatDoor.Right
namespace Go.Proofs.YtiaomhdmllhmmaaGreatDoor.Ep
open Go.RowKit Mem Right
set_option linter.unusedVariables false
theorem txt_size (l:List UInt8):(txt l).size=l.length:=rfl
theorem txt_back (l:List UInt8):(txt l).data.toList=l:=rfl
abbrev exV (k o vk vn:Int) (vs nm:ByteArray) (A:Option Addr) (n c:Nat):Value:= .agg #[.int .i64 k, .int .i64 o, .int .i64 vk, .int .i64 vn, .string vs, .string nm, .slice A n c]
theorem ex_open {w:World} {S:Nat→Prop} {k o vk vn:Int} {vs nm:List UInt8} {kids:List Ex} {cs:List Value} (h:ExIn w S (.mk k o vk vn vs nm kids) cs):
   ∃A n c,cs= [.int .i64 k, .int .i64 o, .int .i64 vk, .int .i64 vn, .string (txt vs), .string (txt nm), .slice A n c]∧n=kids.length∧kids.length≤c∧c≤maxLen∧(A=none→c=0)∧KidsIn w S A 0 kids:=by
 obtain ⟨A,c,h1,h2,h3,h4,h5⟩:=(exIn_mk _ _ _ _ _ _ _ _ _ _).1 h
 exact ⟨A,_,c,h1,rfl,h2,h3,h4,h5⟩
theorem kid_at {w:World} {S:Nat→Prop} {A:Option Addr} {kids:List Ex} {j:Nat} {x:Ex} (h:KidsIn w S A 0 kids) (hx:kids[j]?=some x):
   ∃ k o vk vn vs nm ks A' n' c' b p,x= .mk k o vk vn vs nm ks∧A=some ⟨b,p,none⟩∧S b∧n' =ks.length∧
     w.cell? ⟨b,p+j*7,none⟩=some (.int .i64 k)∧w.cell? ⟨b,p+j*7+1,none⟩=some (.int .i64 o)∧w.cell? ⟨b,p+j*7+2,none⟩=some (.int .i64 vk)∧w.cell? ⟨b,p+j*7+3,none⟩=some (.int .i64 vn)∧
     w.cell? ⟨b,p+j*7+4,none⟩=some (.string (txt vs))∧w.cell? ⟨b,p+j*7+5,none⟩=some (.string (txt nm))∧w.cell? ⟨b,p+j*7+6,none⟩=some (.slice A' n' c')∧
     ExIn w S x [.int .i64 k, .int .i64 o, .int .i64 vk, .int .i64 vn, .string (txt vs), .string (txt nm), .slice A' n' c']:=by
 obtain ⟨b,p,cs,h1,h2,_,h3,h4⟩:=h.get hx
 obtain ⟨k,o,vk,vn,vs,nm,ks⟩:=x
 obtain ⟨A',n',c',rfl,h5,_⟩:=ex_open h4
 rw [show p+(0+j)*7=p+j*7 by omega] at h3
 exact ⟨k,o,vk,vn,vs,nm,ks,A',n',c',b,p,rfl,h1,h2,h5,h3 0 _ rfl,h3 1 _ rfl,h3 2 _ rfl,h3 3 _ rfl,h3 4 _ rfl,h3 5 _ rfl,h3 6 _ rfl,h4⟩
theorem drop_kid {l:List Ex} {j:Nat} {x:Ex} (h:l[j]?=some x):l.drop j=x::l.drop (j+1):=by
 obtain ⟨hj,rfl⟩:=List.getElem?_eq_some_iff.1 h
 exact List.drop_eq_getElem_cons hj
theorem kid_mem {l:List Ex} {j:Nat} {x:Ex} (h:l[j]?=some x):x∈l:=List.mem_of_getElem? h
theorem kid_some {l:List Ex} {j:Nat} (h:j<l.length):∃x,l[j]?=some x:=⟨_,List.getElem?_eq_getElem h⟩
end Go.Proofs.YtiaomhdmllhmmaaGreatDoor.Ep
namespace Go.Proofs.YtiaomhdmllhmmaaGreatDoor.Lx
open Go.RowKit Mem Right
set_option linter.unusedVariables false
theorem small_any (c:UInt8) (w:World):Calls Tryz.prog 85 #[.int .u8 (c.toNat:Int)] w fun e w' =>e= .returned (.bool (small c))∧w=w' :=by
 have H:=small_num c
 cases h:decide (97≤(c.toNat:Int)) with
 | true=>
   rw [h,Bool.true_and] at H
   have H:=Lib.hid H
   go_enter Tryz.func85,Tryz.ntmps85
   go_wp2
   go_ret
   exact ⟨rb H.out.symm,rfl⟩
 | false=>
   rw [h,Bool.false_and] at H
   have H:=Lib.hid H
   go_enter Tryz.func85,Tryz.ntmps85
   go_wp2
   go_ret
   exact ⟨rb H.out.symm,rfl⟩
theorem cap_any (c:UInt8) (w:World):Calls Tryz.prog 87 #[.int .u8 (c.toNat:Int)] w fun e w' =>e= .returned (.bool (cap c))∧w=w' :=by
 have H:=cap_num c
 cases h:decide (65≤(c.toNat:Int)) with
 | true=>
   rw [h,Bool.true_and] at H
   have H:=Lib.hid H
   go_enter Tryz.func87,Tryz.ntmps87
   go_wp2
   go_ret
   exact ⟨rb H.out.symm,rfl⟩
 | false=>
   rw [h,Bool.false_and] at H
   have H:=Lib.hid H
   go_enter Tryz.func87,Tryz.ntmps87
   go_wp2
   go_ret
   exact ⟨rb H.out.symm,rfl⟩
theorem dig_any (c:UInt8) (w:World):Calls Tryz.prog 89 #[.int .u8 (c.toNat:Int)] w fun e w' =>e= .returned (.bool (dig c))∧w=w' :=by
 have H:=dig_num c
 cases h:decide (48≤(c.toNat:Int)) with
 | true=>
   rw [h,Bool.true_and] at H
   have H:=Lib.hid H
   go_enter Tryz.func89,Tryz.ntmps89
   go_wp2
   go_ret
   exact ⟨rb H.out.symm,rfl⟩
 | false=>
   rw [h,Bool.false_and] at H
   have H:=Lib.hid H
   go_enter Tryz.func89,Tryz.ntmps89
   go_wp2
   go_ret
   exact ⟨rb H.out.symm,rfl⟩
theorem inKey_any (c:UInt8) (w:World):Calls Tryz.prog 88 #[.int .u8 (c.toNat:Int)] w fun e w' =>e= .returned (.bool (inKey c))∧w=w' :=by
 have H:inKey c=(cap c||((c.toNat:Int)==95)):=by unfold inKey;rw [eq_byte];rfl
 cases h:cap c with
 | true=>
   rw [h,Bool.true_or] at H
   have H:=Lib.hid H
   go_enter Tryz.func88,Tryz.ntmps88
   go_wp2_with (go_at_call 87;refine (cap_any c _).mono ?_;rintro e w' ⟨rfl,rfl⟩)
   go_ret
   exact ⟨rb H.out.symm,rfl⟩
 | false=>
   rw [h,Bool.false_or] at H
   have H:=Lib.hid H
   go_enter Tryz.func88,Tryz.ntmps88
   go_wp2_with (go_at_call 87;refine (cap_any c _).mono ?_;rintro e w' ⟨rfl,rfl⟩)
   go_ret
   exact ⟨rb H.out.symm,rfl⟩
theorem inName_any (c:UInt8) (w:World):Calls Tryz.prog 86 #[.int .u8 (c.toNat:Int)] w fun e w' =>e= .returned (.bool (inName c))∧w=w' :=by
 have H:inName c=(small c||dig c||((c.toNat:Int)==95)):=by unfold inName;rw [eq_byte];rfl
 cases h:small c with
 | true=>
   rw [h,Bool.true_or,Bool.true_or] at H
   have H:=Lib.hid H
   go_enter Tryz.func86,Tryz.ntmps86
   go_wp2_with (first|(go_at_call 85;refine (small_any c _).mono ?_;rintro e w' ⟨rfl,rfl⟩)|(go_at_call 89;refine (dig_any c _).mono ?_;rintro e w' ⟨rfl,rfl⟩))
   go_ret
   exact ⟨rb H.out.symm,rfl⟩
 | false=>
   rw [h,Bool.false_or] at H
   cases h2:dig c with
   | true=>
     rw [h2,Bool.true_or] at H
     have H:=Lib.hid H
     go_enter Tryz.func86,Tryz.ntmps86
     go_wp2_with (first|(go_at_call 85;refine (small_any c _).mono ?_;rintro e w' ⟨rfl,rfl⟩)|(go_at_call 89;refine (dig_any c _).mono ?_;rintro e w' ⟨rfl,rfl⟩))
     go_ret
     exact ⟨rb H.out.symm,rfl⟩
   | false=>
     rw [h2,Bool.false_or] at H
     have H:=Lib.hid H
     go_enter Tryz.func86,Tryz.ntmps86
     go_wp2_with (first|(go_at_call 85;refine (small_any c _).mono ?_;rintro e w' ⟨rfl,rfl⟩)|(go_at_call 89;refine (dig_any c _).mono ?_;rintro e w' ⟨rfl,rfl⟩))
     go_ret
     exact ⟨rb H.out.symm,rfl⟩
theorem orNone_any (k n:Nat) (w:World):Calls Tryz.prog 90 #[.int .i64 (k:Int), .int .i64 (n:Int)] w fun e w' =>e= .returned (.tuple #[.int .i64 ((orN k n).1:Int), .int .i64 ((orN k n).2:Int)])∧w=w' :=by
 by_cases h:n=0
 · subst h
   go_enter Tryz.func90,Tryz.ntmps90
   go_wp2
   go_ret2
   exact ⟨rfl,rfl⟩
 · have H:=Lib.hid (show orN k n=(k,n) from if_neg h)
   have t:((n:Int)==0)=false:=beq_no (by omega)
   clear h
   go_enter Tryz.func90,Tryz.ntmps90
   go_wp2
   go_ret2
   exact ⟨by rw [H.out];rfl,rfl⟩
end Go.Proofs.YtiaomhdmllhmmaaGreatDoor.Lx
namespace Go.Proofs.YtiaomhdmllhmmaaGreatDoor.Mem
open Go.RowKit
set_option linter.unusedVariables false
theorem laid_var {P:Program} {w:World} {n:String} {d:DataW Unit}:∀{l:List (String × DataW Unit)} {ps:List MemPlace},DataW.LaidVars P w l ps→(n,d)∈l→
   ∃g t cs fuel p,P.globalNamed n=some g∧(P.globals[g]?).map (·.type)=some t∧w.var? P n=some cs∧DataW.trod (fun _=>()) P w 0 (fun _=>true) false fuel t cs.toList=some (d,p)
 | [],_,_,h=>by simp at h
 | (n',d')::r,ps,h,hm=>by
   obtain ⟨g,t,cs,fuel,p,q,h1,h2,h3,h4,h5,_⟩:=h
   rcases List.mem_cons.1 hm with e|hm
   · injection e with e1 e2
     subst e1 e2
     exact ⟨g,t,cs,fuel,p,h1,h2,h3,h4⟩
   · exact laid_var h5 hm
theorem laid_texts {P:Program} {W:World} {l:List (String × DataW Unit)} {name:String} {L:List (List UInt8)} {g:Nat} {tA tS:TypeId} {N:Nat} (h:laidMetH P l W) (hp:(l.all fun x=>x.2.handleName?.isNone)=true)
   (hm:(name,(DataW.agg (L.map fun l=> .lit (.string l)):DataW Unit))∈l) (hg:P.globalNamed name=some g) (ht:(P.globals[g]?).map (·.type)=some tA) (hu:P.underlying tA=some (.array N tS)) (hs:P.underlying tS=some .string) (c1:P.cellsOf tS=1) (hN:L.length=N):
   ∀(k:Nat) (v:Value),(L.map fun l=>Value.string ⟨l.toArray⟩)[k]?=some v→W.cell? ⟨g,k,none⟩=some v:=by
 rw [MakeChecks.laidMetH_plain _ _ _ hp] at h
 obtain ⟨ps,hv,_,_⟩:=h
 obtain ⟨g0,t0,cs0,f0,p0,hg0,ht0,hv0,hd0⟩:=laid_var hv hm
 obtain rfl:=Option.some.inj (hg.symm.trans hg0)
 obtain rfl:=Option.some.inj (ht.symm.trans ht0)
 obtain ⟨xs,m1,rfl,hx1,hlen,hn,hel⟩:=DataW.trod_array hu hd0
 have hxs:xs.map (·.1)=L.map fun l=>(DataW.lit (.string l):DataW Unit):=by
   have h1:(DataW.agg (L.map fun l=>(DataW.lit (.string l):DataW Unit)))=DataW.agg (xs.map (·.1)):=congrArg Prod.fst hx1
   injection h1 with h1
   exact h1.symm
 intro k v hv
 rw [List.getElem?_map] at hv
 obtain ⟨l,hl,rfl⟩:=Option.map_eq_some_iff.1 hv
 obtain ⟨hk,_⟩:=List.getElem?_eq_some_iff.1 hl
 have h1:=hel k (by omega)
 rw [c1,Nat.mul_one] at h1
 have hxk:k<xs.length:=by rw [hn];omega
 rw [List.getElem?_eq_getElem hxk] at h1
 obtain ⟨z,hz,hx,_⟩:=DataW.trod_string hs h1
 have h2:(xs.map (·.1))[k]?=some (DataW.lit (.string z.data.toList):DataW Unit):=by
   rw [List.getElem?_map,List.getElem?_eq_getElem hxk,hx];rfl
 rw [hxs,List.getElem?_map,hl] at h2
 injection h2 with h2
 injection h2 with h2
 injection h2 with h2
 have e:z=⟨l.toArray⟩:=by
   obtain ⟨⟨z⟩⟩:=z
   simp at h2
   rw [h2]
 have h3:cs0.toList[k]?=some (.string z):=by
   have:=congrArg (·[0]?) hz
   simpa [List.getElem?_take,List.getElem?_drop] using this
 have:=World.var?_cell hg0 hv0 k
 rw [this,←e]
 simpa using h3
end Go.Proofs.YtiaomhdmllhmmaaGreatDoor.Mem
namespace Go.Proofs.YtiaomhdmllhmmaaGreatDoor.Lx
open Go.RowKit Mem Right
set_option linter.unusedVariables false
def sgs:List (List UInt8):= [[40], [41], [44], [61], [60,62], [60], [60,61], [62], [62,61], [43], [45], [42], [47], [37], [124,124]]
def SG:List Value:=sgs.map fun l=> .string ⟨l.toArray⟩
def Signs (w:World):Prop:=∀(k:Nat) (v:Value),SG[k]?=some v→w.cell? ⟨0,k,none⟩=some v
theorem Signs.below {w w' :World} {B:Nat} (h:Signs w) (hb:Below B w w') (hB:0<B):Signs w' :=fun k v hv=>(hb.cell hB).trans (h k v hv)
theorem Signs.lt {w:World} (h:Signs w):0<w.heap.size:=cell_lt (h 0 _ rfl)
theorem signs_of_laid {l:List (String × DataW Unit)} {W:World} (h:laidMetH Tryz.prog l W) (hp:(l.all fun x=>x.2.handleName?.isNone)=true) (hm:("registrar/lex.signs",(Rows.laid_registrar_lex_signs:DataW Unit))∈l):Signs W:=
 laid_texts (L:=sgs) h hp hm (by kernel_rfl) (by kernel_rfl) Tryz.underlying137 Tryz.underlying9 (by kernel_rfl) rfl
end Go.Proofs.YtiaomhdmllhmmaaGreatDoor.Lx
namespace Go.Proofs.YtiaomhdmllhmmaaGreatDoor.Lx
open Go.RowKit Mem Right
set_option linter.unusedVariables false
theorem idx_at {cs:Array Value} {i:Int} {k:Nat} {v:Value} (hi:i=(k:Int)) (h0:0≤i) (hn:i<15) (h:cs[k]?=some v) (w:World):
   (Instr.index 137 (.agg cs) (.int .i64 i)).run Tryz.prog w= .ok v w:=by
 subst hi
 have hk:k<15:=by omega
 simp [Instr.index,run_underlying Tryz.underlying137,asIntOf]
 rw [if_pos hk]
 exact run_part_plain (P:=Tryz.prog) (e:=9) (he:=by kernel_rfl) (hx:=h) (w:=w)
set_option maxRecDepth 100000 in
theorem sg_at:∀(j:Nat) (l:List UInt8),j<15→sgs[j]?=some l→∀(w:World),(Instr.index 137 (.agg #[Value.string ⟨#[40]⟩,Value.string ⟨#[41]⟩,Value.string ⟨#[44]⟩,Value.string ⟨#[61]⟩,Value.string ⟨#[60,62]⟩,Value.string ⟨#[60]⟩,Value.string ⟨#[60,61]⟩,Value.string ⟨#[62]⟩,Value.string ⟨#[62,61]⟩,Value.string ⟨#[43]⟩,Value.string ⟨#[45]⟩,Value.string ⟨#[42]⟩,Value.string ⟨#[47]⟩,Value.string ⟨#[37]⟩,Value.string ⟨#[124,124]⟩]) (.int .i64 (j:Int))).run Tryz.prog w= .ok (.string ⟨l.toArray⟩) w:=fun j l hj h w=>match j,hj,h with
 |0,_,h=>by injection h with h;subst h;exact idx_at rfl (by decide) (by decide) rfl w
 |1,_,h=>by injection h with h;subst h;exact idx_at rfl (by decide) (by decide) rfl w
 |2,_,h=>by injection h with h;subst h;exact idx_at rfl (by decide) (by decide) rfl w
 |3,_,h=>by injection h with h;subst h;exact idx_at rfl (by decide) (by decide) rfl w
 |4,_,h=>by injection h with h;subst h;exact idx_at rfl (by decide) (by decide) rfl w
 |5,_,h=>by injection h with h;subst h;exact idx_at rfl (by decide) (by decide) rfl w
 |6,_,h=>by injection h with h;subst h;exact idx_at rfl (by decide) (by decide) rfl w
 |7,_,h=>by injection h with h;subst h;exact idx_at rfl (by decide) (by decide) rfl w
 |8,_,h=>by injection h with h;subst h;exact idx_at rfl (by decide) (by decide) rfl w
 |9,_,h=>by injection h with h;subst h;exact idx_at rfl (by decide) (by decide) rfl w
 |10,_,h=>by injection h with h;subst h;exact idx_at rfl (by decide) (by decide) rfl w
 |11,_,h=>by injection h with h;subst h;exact idx_at rfl (by decide) (by decide) rfl w
 |12,_,h=>by injection h with h;subst h;exact idx_at rfl (by decide) (by decide) rfl w
 |13,_,h=>by injection h with h;subst h;exact idx_at rfl (by decide) (by decide) rfl w
 |14,_,h=>by injection h with h;subst h;exact idx_at rfl (by decide) (by decide) rfl w
 |j+15,hj,_=>absurd hj (by omega)
theorem single_sg (c:UInt8):single c=true↔ [c]∈sgs:=by
 unfold single sgs
 simp [or_assoc]
theorem two_sg (c d:UInt8):two c d=true↔ [c,d]∈sgs:=by
 unfold two sgs
 simp [and_or_left,or_assoc]
def sz:List UInt8→Nat
 | []=>0
 |c::t=>sgn c t
def NoSg (l:List UInt8) (z:Nat):Prop:=∀y,z<y→y≤2→y≤l.length→l.take y ∉ sgs
theorem NoSg.start {l:List UInt8} {z:Nat} (h:l.length≤z ∨ 2≤z):NoSg l z:=fun y h1 h2 h3=>by omega
theorem NoSg.less {l:List UInt8} {z:Nat} (h:NoSg l (z+1)) (h1:l.take (z+1) ∉ sgs):NoSg l z:=fun y h2 h3 h4=>by
 by_cases e:y=z+1
 · subst e;exact h1
 · exact h y (by omega) h3 h4
theorem sz_is {l:List UInt8} {z:Nat} (hl:l≠ []) (hz:z≤l.length) (h2:z≤2) (h:z=0 ∨ l.take z∈sgs) (hn:NoSg l z):sz l=z:=by
  match l,hl with
  | [c],_=>
    show (if single c=true then 1 else 0)=z
    by_cases hc:single c=true
    · rw [if_pos hc]
      have h1:=hn 1
      simp at hz
      by_cases e:z=0
      · exact absurd ((single_sg c).1 hc) (h1 (by omega) (by omega) (by simp))
      · omega
    · rw [if_neg hc]
      rcases h with h|h
      · omega
      · simp at hz
        by_cases e:z=0
        · omega
        · obtain rfl:z=1:=by omega
          exact absurd ((single_sg c).2 h) hc
  | c ::d::r,_=>
    show (if two c d=true then 2 else if single c=true then 1 else 0)=z
    by_cases h3:two c d=true
    · rw [if_pos h3]
      by_cases e:z=2
      · exact e.symm
      · exact absurd ((two_sg c d).1 h3) (hn 2 (by omega) (by omega) (by simp))
    · rw [if_neg h3]
      have hz2:z≠2:=fun e=>by
        subst e
        rcases h with h|h
        · omega
        · exact h3 ((two_sg c d).2 h)
      by_cases hc:single c=true
      · rw [if_pos hc]
        by_cases e:z=1
        · exact e.symm
        · exact absurd ((single_sg c).1 hc) (hn 1 (by omega) (by omega) (by simp))
      · rw [if_neg hc]
        rcases h with h|h
        · exact h.symm
        · by_cases e:z=0
          · exact e.symm
          · obtain rfl:z=1:=by omega
            exact absurd ((single_sg c).2 h) hc
theorem text_beq (s:ByteArray) (z:Nat) (l:List UInt8):((s.extract 0 z).toList==l)=decide (s.data.toList.take z=l):=by
 rw [Lib.toList_data,Lib.extract_data]
 rw [Bool.eq_iff_iff]
 simp
set_option maxHeartbeats 1000000 in
theorem sign_any (s:ByteArray) (hs:s.size≤1000000) (h0:0<s.size) (w:World) (h:Signs w):
    Calls Tryz.prog 93 #[.string s] w fun e w' =>e= .returned (.int .i64 (sz s.data.toList:Int))∧w=w' :=by
  obtain ⟨m,hmd⟩:∃m:Nat,min s.size 2=m:=⟨_,rfl⟩
  have hm:min (s.size:Int) 2=(m:Int):=by omega
  have hll:s.data.toList.length=s.size:=by rw [Array.length_toList];rfl
  have hmn:NoSg s.data.toList m:=NoSg.start (by omega)
  have HM:=Lib.hid (show m≤2∧m≤s.size by omega)
  have HL:=Lib.hid hll
  have HE:=Lib.hid (show s.data.toList≠ [] by intro e;rw [e] at hll;simp at hll;omega)
  clear hmd hll
  have c0:=h 0 _ rfl
  have c1:=h 1 _ rfl
  have c2:=h 2 _ rfl
  have c3:=h 3 _ rfl
  have c4:=h 4 _ rfl
  have c5:=h 5 _ rfl
  have c6:=h 6 _ rfl
  have c7:=h 7 _ rfl
  have c8:=h 8 _ rfl
  have c9:=h 9 _ rfl
  have c10:=h 10 _ rfl
  have c11:=h 11 _ rfl
  have c12:=h 12 _ rfl
  have c13:=h 13 _ rfl
  have c14:=h 14 _ rfl
  have HH:=Lib.hid h
  clear h
  go_enter Tryz.func93,Tryz.ntmps93
  go_wp2
  go_step3
  go_wp2
  go_step3
  go_wp2
  go_loopg [3] m (fun g i wx=>i= .int .i64 (g:Int)∧Hid (g≤m)∧Hid (NoSg s.data.toList g)∧w=wx)
  case atStart=>exact ⟨rfl,Lib.hid (Nat.le_refl _),Lib.hid hmn,rfl⟩
  case round=>
    obtain ⟨rfl,HZ,HN,rfl⟩:=hrel
    cases gk with
    | zero=>
      have H:=Lib.hid (sz_is HE.out (Nat.zero_le _) (by omega) (.inl rfl) HN.out)
      clear hmn
      go_wp2
      (try rw [Exit.noGoto_ret])
      go_ret
      exact ⟨ri (by rw [H.out]),rfl⟩
    | succ g=>
      have hg2:=Nat.le_trans HZ.out HM.out.1
      have hgs:=Nat.le_trans HZ.out HM.out.2
      have hz1:decide (0<((g:Int)+1))=true:=decide_eq_true (by omega)
      clear hmn
      go_wp2
      go_loopg [5,14] 15 (fun g2 a i wx=>∃j:Nat,j+g2=15∧i= .int .i64 (j:Int)∧Hid (∀y l,y<j→sgs[y]?=some l→¬s.data.toList.take (g+1)=l)∧w=wx)
      case atStart=>exact ⟨0,rfl,rfl,Lib.hid (fun y l hy=>absurd hy (Nat.not_lt_zero _)),rfl⟩
      case round=>
        obtain ⟨j,hj,rfl,HJ,rfl⟩:=hrel
        cases gk with
        | zero=>
          obtain rfl:j=15:=by omega
          have HN2:=Lib.hid (NoSg.less HN.out (fun hm=>by
            obtain ⟨y,hy⟩:=List.mem_iff_getElem?.1 hm
            obtain ⟨hy2,_⟩:=List.getElem?_eq_some_iff.1 hy
            exact HJ.out y _ hy2 hy rfl))
          have HZ2:=Lib.hid (Nat.le_of_succ_le HZ.out)
          clear HJ
          go_wp2
          go_roundg g
          case measure=>omega
          case rel=>exact ⟨by go_num,HZ2,HN2,rfl⟩
        | succ g2=>
          have hj15:j<15:=by omega
          have hlt:decide ((j:Int)<15)=true:=decide_eq_true (by omega)
          obtain ⟨l,hl⟩:∃l,sgs[j]?=some l:=⟨sgs[j]'hj15,List.getElem?_eq_getElem _⟩
          have hidx:=sg_at j l hj15 hl w
          have HL2:=Lib.hid hl
          have HT:=Lib.hid (text_beq s (g+1) l)
          clear hl
          by_cases he:s.data.toList.take (g+1)=l
          · have ht:=HT.out
            rw [decide_eq_true he] at ht
            have H:=Lib.hid (sz_is HE.out (by rw [HL.out];exact hgs) hg2 (.inr (by rw [he];exact List.mem_of_getElem? HL2.out)) HN.out)
            clear he
            go_wp2
            (try rw [Exit.noGoto_ret])
            go_ret
            exact ⟨ri (by rw [H.out]),rfl⟩
          · have ht:=HT.out
            rw [decide_eq_false he] at ht
            have HJ2:=Lib.hid (show ∀y l,y<j+1→sgs[y]?=some l→¬s.data.toList.take (g+1)=l from fun y l2 hy h2=>by
              by_cases e:y=j
              · subst e
                rw [HL2.out] at h2
                injection h2 with h2
                exact h2▸he
              · exact HJ.out y l2 (by omega) h2)
            clear he
            go_wp2
            go_roundg g2
            case measure=>omega
            case rel=>exact ⟨j+1,by omega,by go_num,HJ2,rfl⟩
end Go.Proofs.YtiaomhdmllhmmaaGreatDoor.Lx
