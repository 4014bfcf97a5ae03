/- A row that lists package-level variables: the wrap hands on what the list says, and the wo Tokens, for themselves: what a text begins with, how it is cut; blanks between, ahead and  A text cut into tokens, for itself: where each stands; the texts of tokens with blanks bet The longest token with which a text begins, and what may stand behind it: together they ar The digits of a number as a list of bytes: plain facts. Values: how texts are quoted and read again, in plain words. Values as texts and texts as values, in plain words; a right value comes back, and a text  Expressions as trees, in the document's words: their rank, which are right, and of which t Pieces put together are a text. Statements, in the document's words: which may be, and of which tokens and blanks their te Slices as lists: a slice that came in, or that the call made, whose cells read as a given  -/
import Derived.HandedShaped
import Derived.ProofKit
import Derived.Shelf.Vars
import Derived.Stop.Joined
import Derived.Test.YtiaomhdmllhmmaaGreatDoorProg
import Derived.Below
import Derived.WalkKit
import Derived.Lib.Replace
import Derived.Lib.IndexLaws
import Derived.Lib.IndexMore
import Derived.Lib.CountLaws
import Derived.Laws.OwnMore
namespace Go.Proofs.YtiaomhdmllhmmaaGreatDoor.Mem
open Go.RowKit
variable {H:Type} {enc:TypeId × Value→H}
theorem handed_listed {a:Assume} {C:Checked} {os:Os} {f:FuncId} {fn:Func} {s:ChangeSpec} {conds:List PathCond} {apart fresh handsOn again:Bool} {l:List (String × DataW Unit)}
   (own:ownKnob C.prog.godebug=none) (started:os.Started) (noInit:C.prog.inits.idxOf? f=none) (hfn:C.prog.funcs[f]?=some fn)
   (witness:∃(w:World) (tape:Tape) (i:Input),w.os=os∧(w.forCall tape i).Shaped C.prog∧i.vars= []∧Input.okWide C.prog (w.forCall tape i) .any w.heap.size f i∧
     ((s.pre enc C.prog fn conds apart (w.forCall tape i).memory i.args∧laidMetH C.prog l (w.forCall tape i).memory)∧sizedMet enc C.prog fn (OpenSpec.ofChange s) apart (w.forCall tape i).memory i.args)∧a.holds C.prog (lone (Frame.enter C.prog f i.args .normal) [] (w.forCall tape i)))
   (contract:∀(W:World) (base:Nat) (args:Array Value) (ds gs:List (DataW H)) (before:List MemPlace),
     (∀(j:Nat) t v,fn.params[j]?=some t→args[j]?=some v→Value.okWide C.prog W .any base t v)→
     DataW.Whole enc C.prog fn.params.toList s.vars apart W args.toList ds gs before→
     conds.all (PathCond.test C.prog ⟨fn.params.toList,ds,s.plain.varTypes C.prog,gs⟩)=true→
     laidMetH C.prog l W→W.ShapedOpen C.prog→
     Calls C.prog f args W fun e W' =>∃v,e= .returned v∧s.post enc C.prog fn apart fresh handsOn again W args v W'):
   ReturnsInHanded a C os f .any (fun w args=>(s.pre enc C.prog fn conds apart w args∧laidMetH C.prog l w)∧sizedMet enc C.prog fn (OpenSpec.ofChange s) apart w args) (s.post enc C.prog fn apart fresh handsOn again):=by
 refine returnsInHanded_of_calls own started noInit witness ?_
 intro w tape i _ hsh _ hok hpre _
 obtain ⟨_,_,_,fn',hfn',_,_,_,_,hval⟩:=hok
 obtain rfl:fn' =fn:=Option.some.inj (hfn'.symm.trans hfn)
 obtain ⟨⟨⟨ds,gs,before,hw,hc⟩,hl⟩,_⟩:=hpre
 have hl2:laidMetH C.prog l (w.forCall tape i):=laidMetH.of_heap (by rfl) hl
 exact (contract (w.forCall tape i) w.heap.size i.args ds gs before hval (DataW.Whole.of_heap (by rfl) hw) hc (hl2) hsh).mono fun e W' ⟨v,he,hp⟩=>by subst he;exact ChangeSpec.post_blind hp
end Go.Proofs.YtiaomhdmllhmmaaGreatDoor.Mem
namespace Go.Proofs.YtiaomhdmllhmmaaGreatDoor.Lx
set_option linter.unusedVariables false
def small (c:UInt8):Bool:=decide (97≤c) && decide (c≤122)
def cap (c:UInt8):Bool:=decide (65≤c) && decide (c≤90)
def dig (c:UInt8):Bool:=decide (48≤c) && decide (c≤57)
def inName (c:UInt8):Bool:=small c||dig c||c==95
def inKey (c:UInt8):Bool:=cap c||c==95
def glue (c:UInt8):Bool:=small c||cap c||dig c||c==95||c==36
def plainB (c:UInt8):Bool:=decide (32≤c) && decide (c≤126)
theorem name_glue {c:UInt8} (h:inName c=true):glue c=true:=by
 simp only [inName,glue,Bool.or_eq_true] at h ⊢
 rcases h with (h|h)|h<;>simp [h]
theorem key_glue {c:UInt8} (h:inKey c=true):glue c=true:=by
 simp only [inKey,glue,Bool.or_eq_true] at h ⊢
 rcases h with h|h<;>simp [h]
theorem dig_glue {c:UInt8} (h:dig c=true):glue c=true:=by simp [glue,h]
def run (p:UInt8→Bool) (s:List UInt8):Nat:=(s.takeWhile p).length
theorem run_nil (p:UInt8→Bool):run p []=0:=rfl
theorem run_cons (p:UInt8→Bool) (c:UInt8) (s:List UInt8):run p (c::s)=if p c=true then run p s+1 else 0:=by
 unfold run
 rw [List.takeWhile_cons]
 split<;>simp
theorem run_le (p:UInt8→Bool):∀s,run p s≤s.length
 | []=>Nat.le_refl _
 | c::s=>by
   rw [run_cons,List.length_cons]
   have:=run_le p s
   split<;>omega
def free:List UInt8→Bool
 | []=>true
 |c::_=> !glue c
def word (k:Nat) (p:UInt8→Bool) (most:Nat) (c:UInt8) (t:List UInt8):Option (Nat × Nat):=
 if 1+run p t≤most∧free (t.drop (run p t))=true then some (k,1+run p t) else none
def quo:List UInt8→Option Nat
 | []=>none
 | [c]=>if c=39 then some 1 else none
 |c::d::t=>if c=39 then (if d=39 then (quo t).map (· +2) else some 1) else if plainB c=true then (quo (d::t)).map (· +1) else none
def two (c d:UInt8):Bool:=(c==60 && (d==62||d==61))||(c==62 && d==61)||(c==124 && d==124)
def single (c:UInt8):Bool:=c==40||c==41||c==44||c==61||c==60||c==62||c==43||c==45||c==42||c==47||c==37
def sign (c:UInt8):List UInt8→Option (Nat × Nat)
 | []=>if single c=true then some (6,1) else none
 |d::_=>if two c d=true then some (6,2) else if single c=true then some (6,1) else none
def param:List UInt8→Option (Nat × Nat)
 | []=>none
 |d::t=>if (decide (49≤d) && decide (d≤54))=true∧free t=true then some (5,2) else none
def next:List UInt8→Option (Nat × Nat)
  | []=>none
  | c::t=>
    if small c=true then word 1 inName 12 c t
    else if cap c=true then word 2 inKey 16 c t
    else if c=48 then (if free t=true then some (3,1) else none)
    else if dig c=true then word 3 dig 19 c t
    else if c=39 then (quo t).map fun n=>(4,n+1)
    else if c=36 then param t
    else sign c t
end Go.Proofs.YtiaomhdmllhmmaaGreatDoor.Lx
namespace Go.Proofs.YtiaomhdmllhmmaaGreatDoor.Lx
set_option linter.unusedVariables false
def kindOf (s:List UInt8):Nat:=if s= [] then 7 else match next s with
 |some (k,n)=>if n=s.length then k else 0
 |none=>0
end Go.Proofs.YtiaomhdmllhmmaaGreatDoor.Lx
namespace Go.Proofs.YtiaomhdmllhmmaaGreatDoor.Lx
set_option linter.unusedVariables false
theorem run_at {p:UInt8→Bool}:∀{l:List UInt8} {k:Nat},k≤run p l→run p l=k+run p (l.drop k)
 |l,0,_=>by simp
 | [],k+1,h=>by simp [run_nil] at h
 | c ::t,k+1,h=>by
   rw [run_cons] at h ⊢
   by_cases hc:p c=true
   · rw [if_pos hc] at h ⊢
     rw [List.drop_succ_cons,run_at (l:=t) (k:=k) (by omega)]
     rw [run_at (l:=t) (k:=k) (by omega)] at h
     omega
   · rw [if_neg hc] at h;omega
theorem run_mid {p:UInt8→Bool} {l:List UInt8} {k:Nat} (h:k<run p l):∃c r,l.drop k=c::r∧p c=true:=by
 have e:=run_at (p:=p) (l:=l) (k:=k) (by omega)
 cases hd:l.drop k with
 |nil=>rw [hd,run_nil] at e;omega
 | cons c r=>
   refine ⟨c,r,rfl,?_⟩
   rw [hd,run_cons] at e
   by_cases hc:p c=true
   · exact hc
   · rw [if_neg hc] at e;omega
def orN (k n:Nat):Nat × Nat:=if n=0 then (0,0) else (k,n)
def qs (t:List UInt8):Nat:=match quo t with
 |some n=>n+1
 |none=>0
def par (d:UInt8):Bool:=decide (49≤d) && decide (d≤54)
def ps:List UInt8→Nat
 | []=>0
 |d::_=>if par d=true then 2 else 0
def sgn (c:UInt8):List UInt8→Nat
 | []=>if single c=true then 1 else 0
 |d::_=>if two c d=true then 2 else if single c=true then 1 else 0
def lng:List UInt8→Nat × Nat
  | []=>(7,0)
  | c::t=>
    if small c=true then (1,min (1+run inName t) 12)
    else if cap c=true then (2,min (1+run inKey t) 16)
    else if c=48 then (3,1)
    else if dig c=true then (3,min (1+run dig t) 19)
    else if c=39 then orN 4 (qs t)
    else if c=36 then orN 5 (ps t)
    else orN 6 (sgn c t)
def onK (k:Nat):Bool:=k==1||k==2||k==3||k==5
def on (k:Nat) (z:List UInt8):Bool:=onK k && !free z
def bad (s:List UInt8):Bool:=decide ((lng s).1=0)||on (lng s).1 (s.drop (lng s).2)
theorem word_bad {k:Nat} (hk:onK k=true) (hk0:k≠0) {p:UInt8→Bool} {most:Nat} (hm:0<most) (hp:∀c,p c=true→glue c=true) (c:UInt8) (t:List UInt8):
   word k p most c t=if (decide (k=0)||on k ((c::t).drop (min (1+run p t) most)))=true then none else some (k,min (1+run p t) most):=by
 unfold word on
 rw [hk,Bool.true_and,decide_eq_false hk0,Bool.false_or]
 by_cases h:1+run p t≤most
 · rw [Nat.min_eq_left h,Nat.add_comm 1,List.drop_succ_cons]
   cases hf:free (t.drop (run p t))
   · rw [if_neg (by simp)];rfl
   · rw [if_pos ⟨by omega,rfl⟩,if_neg (by simp)]
 · rw [if_neg (fun e=>h e.1),Nat.min_eq_right (by omega),if_pos]
   obtain ⟨m,rfl⟩:∃m,most=m+1:=⟨most - 1,by omega⟩
   rw [List.drop_succ_cons]
   obtain ⟨d,r,e,hd⟩:=run_mid (p:=p) (l:=t) (k:=m) (by omega)
   rw [e]
   simp [free,hp d hd]
theorem next_bad {s:List UInt8} (hs:s≠ []):next s=if bad s=true then none else some (lng s):=by
  cases s with
  |nil=>exact absurd rfl hs
  | cons c t=>
    unfold bad
    simp only [next,lng]
    split
    · exact word_bad rfl (by decide) (by decide) (fun _=>name_glue) c t
    split
    · exact word_bad rfl (by decide) (by decide) (fun _=>key_glue) c t
    split
    · show _=if (decide (3=0)||on 3 t)=true then none else some (3,1)
      cases hf:free t<;>simp [on,onK,hf]
    split
    · exact word_bad rfl (by decide) (by decide) (fun _=>dig_glue) c t
    split
    · unfold qs
      cases hq:quo t with
      |none=>rfl
      |some n=>rfl
    split
    · cases t with
      |nil=>rfl
      | cons d r=>
        show (if par d=true∧free r=true then some (5,2) else none)=_
        by_cases hd:par d=true
        · simp only [ps,if_pos hd]
          cases hf:free r<;>simp [orN,on,onK,hf,hd]
        · simp only [ps,if_neg hd]
          simp [orN,hd]
    · cases t with
      | nil=>
        simp only [sign,sgn]
        by_cases h1:single c=true
        · simp only [if_pos h1];rfl
        · simp only [if_neg h1];rfl
      | cons d r=>
        simp only [sign,sgn]
        by_cases h2:two c d=true
        · simp only [if_pos h2];rfl
        · simp only [if_neg h2]
          by_cases h1:single c=true
          · simp only [if_pos h1];rfl
          · simp only [if_neg h1];rfl
theorem kind_lng {s:List UInt8} {k:Nat} (h:kindOf s=k) (hk:1≤k):lng s=(k,s.length):=by
  unfold kindOf at h
  by_cases hs:s= []
  · subst hs;rw [if_pos rfl] at h;subst h;rfl
  · rw [if_neg hs,next_bad hs] at h
    cases hb:bad s
    · rw [hb] at h
      simp only [Bool.false_eq_true,if_false] at h
      split at h
      · rename_i e
        rw [←h,←e]
      · omega
    · rw [hb] at h;simp at h;omega
theorem run_snoc {p:UInt8→Bool} {l:List UInt8} {k:Nat} {c:UInt8} {r:List UInt8} (h:k≤run p l) (hd:l.drop k=c::r):(p c=true→k+1≤run p l)∧(p c=false→run p l=k):=by
 have e:=run_at h
 rw [hd,run_cons] at e
 refine ⟨fun hc=>?_,fun hc=>?_⟩
 · rw [if_pos hc] at e;omega
 · rw [if_neg (by simp [hc])] at e;omega
theorem ge_byte (k c:UInt8):decide (k≤c)=decide ((k.toNat:Int)≤(c.toNat:Int)):=by
 rw [decide_eq_decide,UInt8.le_iff_toNat_le];omega
theorem eq_byte (k c:UInt8):(c==k)=((c.toNat:Int)==(k.toNat:Int)):=by
 rw [Bool.eq_iff_iff,beq_iff_eq,beq_iff_eq]
 exact ⟨fun h=>by rw [h],fun h=>UInt8.toNat_inj.1 (by omega)⟩
theorem small_num (c:UInt8):small c=(decide (97≤(c.toNat:Int)) && decide ((c.toNat:Int)≤122)):=by unfold small;rw [ge_byte,ge_byte];rfl
theorem cap_num (c:UInt8):cap c=(decide (65≤(c.toNat:Int)) && decide ((c.toNat:Int)≤90)):=by unfold cap;rw [ge_byte,ge_byte];rfl
theorem dig_num (c:UInt8):dig c=(decide (48≤(c.toNat:Int)) && decide ((c.toNat:Int)≤57)):=by unfold dig;rw [ge_byte,ge_byte];rfl
theorem par_num (c:UInt8):par c=(decide (49≤(c.toNat:Int)) && decide ((c.toNat:Int)≤54)):=by unfold par;rw [ge_byte,ge_byte];rfl
theorem plain_num (c:UInt8):plainB c=(decide (32≤(c.toNat:Int)) && decide ((c.toNat:Int)≤126)):=by unfold plainB;rw [ge_byte,ge_byte];rfl
end Go.Proofs.YtiaomhdmllhmmaaGreatDoor.Lx
namespace Go.Proofs.YtiaomhdmllhmmaaGreatDoor.Num
open Go.RowKit
def dc (n:Nat):UInt8:=UInt8.ofNat (48+n % 10)
theorem dc_nat (n:Nat):(dc n).toNat=48+n % 10:=by unfold dc;rw [UInt8.toNat_ofNat'];omega
theorem dc_int (n:Nat):((dc n).toNat:Int)=48+(n:Int) % 10:=by rw [dc_nat];omega
def dg (n:Nat):List UInt8:=if n<10 then [dc n] else dg (n / 10)++ [dc n]
termination_by n
decreasing_by omega
theorem dg_small {n:Nat} (h:n<10):dg n= [dc n]:=by rw [dg,if_pos h]
theorem dg_step {n:Nat} (h:¬n<10):dg n=dg (n / 10)++ [dc n]:=by rw [dg,if_neg h]
theorem ret_str {l l' :List UInt8} (h:l=l'):Ending.returned (.string ⟨l.toArray⟩)= .returned (.string ⟨l'.toArray⟩):=by rw [h]
theorem dg_pos (n:Nat):1≤(dg n).length:=by
 by_cases h:n<10
 · rw [dg_small h];simp
 · rw [dg_step h];simp
theorem dg_len:∀(k n:Nat),1≤k→n<10 ^ k→(dg n).length≤k
 |0,_,h,_=>by omega
 |1,n,_,h=>by rw [dg_small (by simpa using h)];simp
 | k +2,n,_,h=>by
   by_cases h0:n<10
   · rw [dg_small h0];simp
   · rw [dg_step h0]
     have:=dg_len (k+1) (n / 10) (by omega) (by rw [Nat.pow_succ] at h;omega)
     simp;omega
theorem dg_len19 {n:Nat} (h:n≤9223372036854775808):(dg n).length≤19:=dg_len 19 n (by omega) (by omega)
theorem wrap_neg2 {n:Nat} (hn:n≤9223372036854775808):IntKind.u64.wrap (-IntKind.u64.wrap (-(n:Int)))=n:=by
 simp only [IntKind.wrap,IntKind.signed,IntKind.bits];simp;omega
theorem val_u64 {a b:Int} (h:a=b):Value.int .u64 a= .int .u64 b:=by rw [h]
def dgz (a:Int):List UInt8:=if a<0 then 45::dg a.natAbs else dg a.natAbs
end Go.Proofs.YtiaomhdmllhmmaaGreatDoor.Num
namespace Go.Proofs.YtiaomhdmllhmmaaGreatDoor.Val
open Num
def q:List UInt8→List UInt8
 | []=> []
 |c::r=>if c=39 then 39::39::q r else c::q r
def quo (l:List UInt8):List UInt8:=39::(q l++ [39])
theorem q_app:∀(a b:List UInt8),q (a++b)=q a++q b
 | [],b=>rfl
 | c::r,b=>by
   by_cases h:c=39
   · simp [q,h,q_app r b]
   · simp [q,h,q_app r b]
theorem q_len:∀(l:List UInt8),(q l).length=l.length+l.count 39
 | []=>rfl
 | c::r=>by
   by_cases h:c=39
   · subst h;simp [q,q_len r];omega
   · simp [q,h,q_len r];omega
theorem quo_len (l:List UInt8):(quo l).length=l.length+l.count 39+2:=by
 unfold quo;simp [q_len]
theorem q_free:∀{l:List UInt8},39 ∉ l→q l=l
 | [],_=>rfl
 | c::r,h=>by
   simp only [List.mem_cons,not_or] at h
   have hc:¬c=39:=fun e=>h.1 e.symm
   rw [q,if_neg hc,q_free h.2]
theorem parted:∀(l:List UInt8),39 ∉ l ∨ ∃a r,39 ∉ a∧l=a++39::r
  | []=> .inl (by simp)
  | c ::r=>by
    by_cases hc:c=39
    · subst hc;exact .inr ⟨[],r,by simp,rfl⟩
    · rcases parted r with h|⟨a,b,ha,rfl⟩
      · left;simp only [List.mem_cons,not_or];exact ⟨fun e=>hc e.symm,h⟩
      · right;refine ⟨c::a,b,?_,rfl⟩
        simp only [List.mem_cons,not_or];exact ⟨fun e=>hc e.symm,ha⟩
theorem q_part (a r:List UInt8) (h:39 ∉ a):q (a++39::r)=a++39::39::q r:=by
 rw [q_app,q_free h];simp [q]
theorem ne_of_notin {c:UInt8} {r:List UInt8} (h:39 ∉ c::r):¬(39:UInt8)=c∧39 ∉ r:=by
 simp only [List.mem_cons,not_or] at h;exact h
theorem idx1_no:∀{l:List UInt8},39 ∉ l→Lib.index l [39]= -1
 | [],_=>rfl
 | c::r,h=>by
   obtain ⟨hc,hr⟩:=ne_of_notin h
   have e:((39:UInt8)==c)=false:=by simpa using hc
   rw [Lib.index];simp [List.isPrefixOf,e,idx1_no hr]
theorem idx1_yes:∀{a:List UInt8} (r:List UInt8),39 ∉ a→Lib.index (a++39::r) [39]=a.length
 | [],r,_=>by simp [Lib.index,List.isPrefixOf]
 | c::a,r,h=>by
   obtain ⟨hc,hr⟩:=ne_of_notin h
   have e:((39:UInt8)==c)=false:=by simpa using hc
   have ih:=idx1_yes r hr
   rw [List.cons_append,Lib.index]
   have e1:(([39]:List UInt8).isPrefixOf (c::(a++39::r)))=false:=by simp [List.isPrefixOf,e]
   rw [e1,ih]
   have e2:((a.length:Int)== -1)=false:=by simp
   simp [e2]
theorem cut_no {l:List UInt8} (h:39 ∉ l):Lib.cut l [39]=(l, [],false):=by
 unfold Lib.cut;rw [idx1_no h];simp
theorem cut_yes {a:List UInt8} (r:List UInt8) (h:39 ∉ a):Lib.cut (a++39::r) [39]=(a,r,true):=by
 unfold Lib.cut;rw [idx1_yes r h]
 simp
def pl (l:List UInt8):Bool:=l.all fun c=> !(decide ((c.toNat:Int)<32)||decide (126<(c.toNat:Int)))
end Go.Proofs.YtiaomhdmllhmmaaGreatDoor.Val
namespace Go.Proofs.YtiaomhdmllhmmaaGreatDoor.Val
open Num
def wNull:List UInt8:= [78,85,76,76]
def wTrue:List UInt8:= [84,82,85,69]
def wFalse:List UInt8:= [70,65,76,83,69]
def okV (k n:Int) (l:List UInt8):Bool:=
 if k=0 then decide (n=0) && decide (l= []) else if k=1 then decide (l= []) else if k=2 then (decide (n=0)||decide (n=1)) && decide (l= [])
 else if k=3 then decide (n=0) && decide (l.length≤32) && pl l else false
def showV (k n:Int) (l:List UInt8):List UInt8:=
 if k=0 then wNull else if k=1 then dgz n else if k=2 then (if n=1 then wTrue else wFalse) else if k=3 then quo l else []
end Go.Proofs.YtiaomhdmllhmmaaGreatDoor.Val
namespace Go.Proofs.YtiaomhdmllhmmaaGreatDoor.Ep
open Lx
set_option linter.unusedVariables false
inductive Ex where
 |mk (k o vk vn:Int) (vs nm:List UInt8) (kids:List Ex)
theorem Ex.byKids {C:Ex→Prop} (h:∀k o vk vn vs nm kids,(∀x∈kids,C x)→C (.mk k o vk vn vs nm kids)):∀e,C e:=by
 intro e
 refine Ex.rec (motive_1:=C) (motive_2:=fun l=>∀x∈l,C x) ?_ ?_ ?_ e
 · intro k o vk vn vs nm kids ih
   exact h k o vk vn vs nm kids ih
 · intro x hx;simp at hx
 · intro a l ha hl x hx
   rcases List.mem_cons.1 hx with rfl|hx
   · exact ha
   · exact hl x hx
def rk (k o:Int):Nat:=
 if k=6 then 4 else if k=4 then (if o=1 then 7 else if o=2 then 3 else 4) else if k≠5 then 8
 else if o=1 then 1 else if o=2 then 2 else if o=9 ∨ o=10 ∨ o=14 then 5 else if o=11 ∨ o=12 ∨ o=13 then 6 else 4
def Ex.rank:Ex→Nat
 | .mk k o _ _ _ _ _=>rk k o
def un (o:Int) (a:Ex):Ex:= .mk 4 o 0 0 [] [] [a]
def bin (o:Int) (a b:Ex):Ex:= .mk 5 o 0 0 [] [] [a,b]
def inn (l:List Ex):Ex:= .mk 6 0 0 0 [] [] l
def call (nm:List UInt8) (l:List Ex):Ex:= .mk 7 0 0 0 [] nm l
def lit (k n:Int) (s:List UInt8):Ex:= .mk 1 0 k n s [] []
def col (nm:List UInt8):Ex:= .mk 2 0 0 0 [] nm []
def par (o:Int):Ex:= .mk 3 o 0 0 [] [] []
def kOR:List UInt8:= [79,82]
def kAND:List UInt8:= [65,78,68]
def kNOT:List UInt8:= [78,79,84]
def kIS:List UInt8:= [73,83]
def kIN:List UInt8:= [73,78]
def kCOAL:List UInt8:= [67,79,65,76,69,83,67,69]
def kLEN:List UInt8:= [76,69,78,71,84,72]
def kABS:List UInt8:= [65,66,83]
def nCoal:List UInt8:= [99,111,97,108,101,115,99,101]
def nLen:List UInt8:= [108,101,110,103,116,104]
def nAbs:List UInt8:= [97,98,115]
def sg (o:Int):List UInt8:=
 if o=1 then kOR else if o=2 then kAND else if o=3 then [61] else if o=4 then [60,62] else if o=5 then [60] else if o=6 then [60,61] else if o=7 then [62] else if o=8 then [62,61]
 else if o=9 then [43] else if o=10 then [45] else if o=11 then [42] else if o=12 then [47] else if o=13 then [37] else [124,124]
abbrev Tt:=Nat × List UInt8
def key (l:List UInt8):Tt:=(2,l)
def sgn6 (c:UInt8):Tt:=(6, [c])
def sgT (o:Int):Tt:=if o=1 ∨ o=2 then (2,sg o) else (6,sg o)
def valT (k n:Int) (s:List UInt8):Tt:=(if k=1 then 3 else if k=3 then 4 else 2,Val.showV k n s)
def parT (o:Int):Tt:=(5, [36,UInt8.ofNat (48+o.toNat)])
def callT (nm:List UInt8):Tt:=key (if nm=nCoal then kCOAL else if nm=nLen then kLEN else kABS)
abbrev Pc:=Option Tt
def br (b:Bool) (l:List Pc):List Pc:=if b=true then some (sgn6 40)::(l++ [some (sgn6 41)]) else l
def asked (e:Ex) (r:Nat):Bool:=decide (e.rank<r)
def ask1 (o:Int):Nat:=if rk 5 o=4 then 5 else rk 5 o
def ask2 (o:Int):Nat:=if rk 5 o=4 then 5 else rk 5 o+1
mutual
def pcs :Ex→List Pc
  | .mk k o vk vn vs nm kids=>
    if k=1 then [some (valT vk vn vs)]
    else if k=2 then [some (1,nm)]
    else if k=3 then [some (parT o)]
    else if k=4 then match kids with
      | a::_=>
        if o=1 then some (sgn6 45)::br (asked a 7) (pcs a)
        else if o=2 then some (key kNOT)::none::br (asked a 3) (pcs a)
        else if o=3 then br (asked a 5) (pcs a)++ [none,some (key kIS),none,some (key Val.wNull)]
        else br (asked a 5) (pcs a)++ [none,some (key kIS),none,some (key kNOT),none,some (key Val.wNull)]
      | []=> []
    else if k=5 then match kids with
      |a::b::_=>br (asked a (ask1 o)) (pcs a)++(none::some (sgT o)::none::br (asked b (ask2 o)) (pcs b))
      |_=> []
    else if k=6 then match kids with
      |a::l=>br (asked a 5) (pcs a)++(none::some (key kIN)::none::some (sgn6 40)::(pcsL l++ [some (sgn6 41)]))
      | []=> []
    else some (callT nm)::some (sgn6 40)::(pcsL kids++ [some (sgn6 41)])
def pcsL:List Ex→List Pc
  | []=> []
  | [a]=>pcs a
  |a::b::l=>pcs a++(some (sgn6 44)::pcsL (b::l))
end
def kidP (e:Ex) (r:Nat):List Pc:=br (asked e r) (pcs e)
inductive Rt:Ex→Prop
 |lit {k n:Int} {s:List UInt8}:Val.okV k n s=true→(k=1→0≤n)→n≤9223372036854775807→ -9223372036854775808≤n→Rt (lit k n s)
 |col {nm:List UInt8}:kindOf nm=1→Rt (col nm)
 |par {o:Int}:1≤o→o≤6→Rt (par o)
 |un {o:Int} {a:Ex}:1≤o→o≤4→Rt a→Rt (un o a)
 |bin {o:Int} {a b:Ex}:1≤o→o≤14→Rt a→Rt b→Rt (bin o a b)
 |inn {a:Ex} {l:List Ex}:l≠ []→l.length≤8→Rt a→(∀x∈l,Rt x)→Rt (inn (a::l))
 |call {nm:List UInt8} {l:List Ex}:l≠ []→(nm=nCoal∧l.length≤4 ∨ (nm=nLen ∨ nm=nAbs)∧l.length≤1)→(∀x∈l,Rt x)→Rt (call nm l)
theorem pcs_lit (k n:Int) (s:List UInt8):pcs (lit k n s)= [some (valT k n s)]:=by unfold lit pcs;rfl
theorem pcs_col (nm:List UInt8):pcs (col nm)= [some (1,nm)]:=by unfold col pcs;rfl
theorem pcs_par (o:Int):pcs (par o)= [some (parT o)]:=by unfold par pcs;rfl
theorem pcs_un (o:Int) (a:Ex):pcs (un o a)=if o=1 then some (sgn6 45)::kidP a 7 else if o=2 then some (key kNOT)::none::kidP a 3
   else if o=3 then kidP a 5++ [none,some (key kIS),none,some (key Val.wNull)] else kidP a 5++ [none,some (key kIS),none,some (key kNOT),none,some (key Val.wNull)]:=by unfold un pcs;rfl
theorem pcs_bin (o:Int) (a b:Ex):pcs (bin o a b)=kidP a (ask1 o)++(none::some (sgT o)::none::kidP b (ask2 o)):=by unfold bin pcs;rfl
theorem pcs_inn (a:Ex) (l:List Ex):pcs (inn (a::l))=kidP a 5++(none::some (key kIN)::none::some (sgn6 40)::(pcsL l++ [some (sgn6 41)])):=by unfold inn pcs;rfl
theorem pcs_call (nm:List UInt8) (l:List Ex):pcs (call nm l)=some (callT nm)::some (sgn6 40)::(pcsL l++ [some (sgn6 41)]):=by unfold call pcs;rfl
theorem pcsL_one (a:Ex):pcsL [a]=pcs a:=by rw [pcsL]
theorem pcsL_more (a b:Ex) (l:List Ex):pcsL (a::b::l)=pcs a++(some (sgn6 44)::pcsL (b::l)):=by rw [pcsL]
end Go.Proofs.YtiaomhdmllhmmaaGreatDoor.Ep
namespace Go.Proofs.YtiaomhdmllhmmaaGreatDoor.Ep
open Lx
set_option linter.unusedVariables false
def pb:Pc→List UInt8
 |none=> [32]
 |some t=>t.2
def tx (l:List Pc):List UInt8:=l.flatMap pb
theorem tx_app (a b:List Pc):tx (a++b)=tx a++tx b:=List.flatMap_append
theorem tx_some (t:Tt) (l:List Pc):tx (some t::l)=t.2++tx l:=rfl
theorem tx_none (l:List Pc):tx (none::l)=32::tx l:=rfl
end Go.Proofs.YtiaomhdmllhmmaaGreatDoor.Ep
namespace Go.Proofs.YtiaomhdmllhmmaaGreatDoor.Sm
open Lx Ep
set_option linter.unusedVariables false
abbrev Bs:=List UInt8
structure Co where
 nm:Bs
 ty:Int
 nn:Bool
structure Cn where
 nm:Bs
 kind:Int
 cols:List Bs
 chk:Ex
 tbl:Bs
 refs:List Bs
def noEx:Ex:= .mk 0 0 0 0 [] [] []
inductive St where
 |mk (kind:Int) (table name role:Bs) (cols:List Co) (cons:List Cn) (names:List Bs) (rows:List (List Ex)) (wh:Ex) (sets:List (Bs × Ex)) (order:List (Ex × Bool)) (limit priv:Int) (opt:Bool) (kids:List St)
def kCREATE:Bs:= [67,82,69,65,84,69]
def kDROP:Bs:= [68,82,79,80]
def kALTER:Bs:= [65,76,84,69,82]
def kTABLE:Bs:= [84,65,66,76,69]
def kADD:Bs:= [65,68,68]
def kCOLUMN:Bs:= [67,79,76,85,77,78]
def kRENAME:Bs:= [82,69,78,65,77,69]
def kTO:Bs:= [84,79]
def kCONSTRAINT:Bs:= [67,79,78,83,84,82,65,73,78,84]
def kINDEX:Bs:= [73,78,68,69,88]
def kON:Bs:= [79,78]
def kROLE:Bs:= [82,79,76,69]
def kGRANT:Bs:= [71,82,65,78,84]
def kREVOKE:Bs:= [82,69,86,79,75,69]
def kFROM:Bs:= [70,82,79,77]
def kWITH:Bs:= [87,73,84,72]
def kOPTION:Bs:= [79,80,84,73,79,78]
def kINSERT:Bs:= [73,78,83,69,82,84]
def kINTO:Bs:= [73,78,84,79]
def kVALUES:Bs:= [86,65,76,85,69,83]
def kUPDATE:Bs:= [85,80,68,65,84,69]
def kSET:Bs:= [83,69,84]
def kWHERE:Bs:= [87,72,69,82,69]
def kDELETE:Bs:= [68,69,76,69,84,69]
def kSELECT:Bs:= [83,69,76,69,67,84]
def kORDER:Bs:= [79,82,68,69,82]
def kBY:Bs:= [66,89]
def kDESC:Bs:= [68,69,83,67]
def kLIMIT:Bs:= [76,73,77,73,84]
def kPREPARE:Bs:= [80,82,69,80,65,82,69]
def kAS:Bs:= [65,83]
def kEXECUTE:Bs:= [69,88,69,67,85,84,69]
def kDEALLOCATE:Bs:= [68,69,65,76,76,79,67,65,84,69]
def kUNIQUE:Bs:= [85,78,73,81,85,69]
def kCHECK:Bs:= [67,72,69,67,75]
def kFOREIGN:Bs:= [70,79,82,69,73,71,78]
def kKEY:Bs:= [75,69,89]
def kREFERENCES:Bs:= [82,69,70,69,82,69,78,67,69,83]
def kINT:Bs:= [73,78,84]
def kBOOL:Bs:= [66,79,79,76]
def kTEXT:Bs:= [84,69,88,84]
def tyW (t:Int):Bs:=if t=1 then kINT else if t=2 then kBOOL else if t=3 then kTEXT else []
def prW (p:Int):Bs:=if p=1 then kSELECT else if p=2 then kINSERT else if p=3 then kUPDATE else if p=4 then kDELETE else []
def K (l:Bs):Pc:=some (key l)
def N (l:Bs):Pc:=some (1,l)
def C (c:UInt8):Pc:=some (sgn6 c)
def sep:List (List Pc)→List Pc
 | []=> []
 | [a]=>a
 |a::b::l=>a++(C 44::none::sep (b::l))
def brk (l:List Pc):List Pc:=C 40::(l++ [C 41])
def nmsP (l:List Bs):List Pc:=sep (l.map fun x=> [N x])
def exsP (l:List Ex):List Pc:=sep (l.map pcs)
def coP (x:Co):List Pc:=N x.nm::none::K (tyW x.ty)::(if x.nn=true then [none,K kNOT,none,K Val.wNull] else [])
def cnP (x:Cn):List Pc:=K kCONSTRAINT::none::N x.nm::none::
 (if x.kind=1 then K kUNIQUE::none::brk (nmsP x.cols)
 else if x.kind=2 then K kCHECK::none::brk (pcs x.chk)
 else K kFOREIGN::none::K kKEY::none::(brk (nmsP x.cols)++(none::K kREFERENCES::none::N x.tbl::none::brk (nmsP x.refs))))
def isNo:Ex→Bool
 | .mk k o vk vn vs nm kids=>k==0 && o==0 && vk==0 && vn==0 && vs.isEmpty && nm.isEmpty && kids.isEmpty
def whP (e:Ex):List Pc:=if isNo e=true then [] else none::K kWHERE::none::pcs e
def ordP (x:Ex × Bool):List Pc:=pcs x.1++(if x.2=true then [none,K kDESC] else [])
def setP (x:Bs × Ex):List Pc:=N x.1::none::C 61::none::pcs x.2
def limP (n:Int):List Pc:=if 0≤n then [none,K kLIMIT,none,some (3,Num.dgz n)] else []
def selX:List (List Ex)→List Pc
 | []=> [C 42]
 |x::_=>exsP x
def exeX:List (List Ex)→List Pc
 | []=> []
 |x::_=>none::brk (exsP x)
def stP:St→List Pc
  | .mk k t n r cols cons names rows wh sets order limit priv opt kids=>
    if k=1 then K kCREATE::none::K kTABLE::none::N t::none::brk (sep (cols.map coP++cons.map cnP))
    else if k=2 then [K kDROP,none,K kTABLE,none,N t]
    else if k=3 then K kALTER::none::K kTABLE::none::N t::none::K kADD::none::K kCOLUMN::none::sep (cols.map coP)
    else if k=4 then [K kALTER,none,K kTABLE,none,N t,none,K kDROP,none,K kCOLUMN,none,N n]
    else if k=5 then [K kALTER,none,K kTABLE,none,N t,none,K kRENAME,none,K kTO,none,N n]
    else if k=6 then K kALTER::none::K kTABLE::none::N t::none::K kADD::none::sep (cons.map cnP)
    else if k=7 then [K kALTER,none,K kTABLE,none,N t,none,K kDROP,none,K kCONSTRAINT,none,N n]
    else if k=8 then K kCREATE::none::K kINDEX::none::N n::none::K kON::none::N t::none::brk (nmsP names)
    else if k=9 then [K kDROP,none,K kINDEX,none,N n,none,K kON,none,N t]
    else if k=10 then [K kCREATE,none,K kROLE,none,N n]
    else if k=11 then [K kDROP,none,K kROLE,none,N n]
    else if k=12 then [K kGRANT,none,K kROLE,none,N n,none,K kTO,none,N r]
    else if k=13 then [K kREVOKE,none,K kROLE,none,N n,none,K kFROM,none,N r]
    else if k=14 then K kGRANT::none::K (prW priv)::none::K kON::none::N t::none::K kTO::none::N r::(if opt=true then [none,K kWITH,none,K kGRANT,none,K kOPTION] else [])
    else if k=15 then [K kREVOKE,none,K (prW priv),none,K kON,none,N t,none,K kFROM,none,N r]
    else if k=16 then K kINSERT::none::K kINTO::none::N t::none::((if names.isEmpty=true then [] else brk (nmsP names)++ [none])++(K kVALUES::none::sep (rows.map fun x=>brk (exsP x))))
    else if k=17 then K kUPDATE::none::N t::none::K kSET::none::(sep (sets.map setP)++whP wh)
    else if k=18 then K kDELETE::none::K kFROM::none::N t::whP wh
    else if k=19 then K kSELECT::none::(selX rows++(none::K kFROM::none::N t::(whP wh++((if order.isEmpty=true then [] else none::K kORDER::none::K kBY::none::sep (order.map ordP))++limP limit))))
    else if k=20 then K kPREPARE::none::N n::none::K kAS::none::(match kids with| []=> []|s::_=>stP s)
    else if k=21 then K kEXECUTE::none::N n::exeX rows
    else [K kDEALLOCATE,none,N n]
mutual
def ht:Ex→Nat
 | .mk _ _ _ _ _ _ kids=>htL kids+1
def htL:List Ex→Nat
 | []=>0
 |x::l=>max (ht x) (htL l)
end
def Lo (e:Ex):Prop:=Rt e∧ht e≤8
def isN (l:Bs):Prop:=kindOf l=1
def okNs (l:List Bs) (least most:Nat):Prop:=least≤l.length∧l.length≤most∧∀x∈l,isN x
def okEs (l:List Ex) (most:Nat):Prop:=1≤l.length∧l.length≤most∧∀x∈l,Lo x
def okCo (x:Co):Prop:=isN x.nm∧1≤x.ty∧x.ty≤3
inductive OkCn:Cn→Prop
 |unique {nm:Bs} {cols:List Bs}:isN nm→okNs cols 1 3→OkCn ⟨nm,1,cols,noEx, [], []⟩
 |check {nm:Bs} {e:Ex}:isN nm→Lo e→OkCn ⟨nm,2, [],e, [], []⟩
 |foreign {nm t:Bs} {cols refs:List Bs}:isN nm→okNs cols 1 3→isN t→okNs refs cols.length cols.length→OkCn ⟨nm,3,cols,noEx,t,refs⟩
def okWh (e:Ex):Prop:=e=noEx ∨ Lo e
inductive OkR:St→Prop
 |insert {t:Bs} {ns:List Bs} {rows:List (List Ex)}:isN t→okNs ns 0 6→1≤rows.length→rows.length≤8→(∀x∈rows,okEs x 6)→OkR (.mk 16 t [] [] [] [] ns rows noEx [] [] 0 0 false [])
 |update {t:Bs} {sets:List (Bs × Ex)} {wh:Ex}:isN t→1≤sets.length→sets.length≤6→(∀x∈sets,isN x.1∧Lo x.2)→okWh wh→OkR (.mk 17 t [] [] [] [] [] [] wh sets [] 0 0 false [])
 |delete {t:Bs} {wh:Ex}:isN t→okWh wh→OkR (.mk 18 t [] [] [] [] [] [] wh [] [] 0 0 false [])
 |select {t:Bs} {rows:List (List Ex)} {wh:Ex} {order:List (Ex × Bool)} {limit:Int}:isN t→rows.length≤1→(∀x∈rows,okEs x 6)→okWh wh→order.length≤3→(∀x∈order,Lo x.1)→ -1≤limit→limit≤9999→
     OkR (.mk 19 t [] [] [] [] [] rows wh [] order limit 0 false [])
inductive OkS:St→Prop
 |table {t:Bs} {cols:List Co} {cons:List Cn}:isN t→1≤cols.length→cols.length≤6→(∀x∈cols,okCo x)→cons.length≤6→(∀x∈cons,OkCn x)→OkS (.mk 1 t [] [] cols cons [] [] noEx [] [] 0 0 false [])
 |dropTable {t:Bs}:isN t→OkS (.mk 2 t [] [] [] [] [] [] noEx [] [] 0 0 false [])
 |addCol {t:Bs} {x:Co}:isN t→okCo x→OkS (.mk 3 t [] [] [x] [] [] [] noEx [] [] 0 0 false [])
 |dropCol {t n:Bs}:isN t→isN n→OkS (.mk 4 t n [] [] [] [] [] noEx [] [] 0 0 false [])
 |rename {t n:Bs}:isN t→isN n→OkS (.mk 5 t n [] [] [] [] [] noEx [] [] 0 0 false [])
 |addCons {t:Bs} {x:Cn}:isN t→OkCn x→OkS (.mk 6 t [] [] [] [x] [] [] noEx [] [] 0 0 false [])
 |dropCons {t n:Bs}:isN t→isN n→OkS (.mk 7 t n [] [] [] [] [] noEx [] [] 0 0 false [])
 |index {t n:Bs} {ns:List Bs}:isN t→isN n→okNs ns 1 3→OkS (.mk 8 t n [] [] [] ns [] noEx [] [] 0 0 false [])
 |dropIndex {t n:Bs}:isN t→isN n→OkS (.mk 9 t n [] [] [] [] [] noEx [] [] 0 0 false [])
 |role {n:Bs}:isN n→OkS (.mk 10 [] n [] [] [] [] [] noEx [] [] 0 0 false [])
 |dropRole {n:Bs}:isN n→OkS (.mk 11 [] n [] [] [] [] [] noEx [] [] 0 0 false [])
 |grantRole {n r:Bs}:isN n→isN r→OkS (.mk 12 [] n r [] [] [] [] noEx [] [] 0 0 false [])
 |revokeRole {n r:Bs}:isN n→isN r→OkS (.mk 13 [] n r [] [] [] [] noEx [] [] 0 0 false [])
 |grant {t r:Bs} {p:Int} {o:Bool}:isN t→isN r→1≤p→p≤4→OkS (.mk 14 t [] r [] [] [] [] noEx [] [] 0 p o [])
 |revoke {t r:Bs} {p:Int}:isN t→isN r→1≤p→p≤4→OkS (.mk 15 t [] r [] [] [] [] noEx [] [] 0 p false [])
 |rows {s:St}:OkR s→OkS s
 |prepare {n:Bs} {s:St}:isN n→OkR s→OkS (.mk 20 [] n [] [] [] [] [] noEx [] [] 0 0 false [s])
 |execute {n:Bs} {rows:List (List Ex)}:isN n→rows.length≤1→(∀x∈rows,okEs x 6)→OkS (.mk 21 [] n [] [] [] [] rows noEx [] [] 0 0 false [])
 |deallocate {n:Bs}:isN n→OkS (.mk 22 [] n [] [] [] [] [] noEx [] [] 0 0 false [])
end Go.Proofs.YtiaomhdmllhmmaaGreatDoor.Sm
namespace Go.Proofs.YtiaomhdmllhmmaaGreatDoor.Mem
open Go.RowKit
def Row (w:World) (B:Nat) (A:Option Addr) (us:List Value):Prop:=
 ∀k u,us[k]?=some u→∃b o,A=some ⟨b,o,none⟩∧b<B∧w.cell? ⟨b,o+k,none⟩=some u
theorem Row.own {w:World} {base:Nat} {e:TypeId} {A:Option Addr} {n c:Nat} {us:List Value} (h:w.ownsRow base e 1 (.slice A n c) n us):Row w w.heap.size A us:=by
 intro k u hu
 obtain ⟨hk,_⟩:=List.getElem?_eq_some_iff.1 hu
 have hn:us.length=n*1:=h.1
 rcases h.2 with ⟨_,h0⟩|⟨g,cap,cur,hv,_,hh,_⟩
 · omega
 · injection hv with hA hn' hc
   subst hA hc
   refine ⟨g,0,rfl,?_,?_⟩
   · rcases Nat.lt_or_ge g w.heap.size with h1|h1
     · exact h1
     · rw [Array.getElem?_eq_none h1] at hh;cases hh
   · rw [Nat.zero_add,h.cellAt k (by omega)];exact hu
theorem on {w a b:World} (h:Below w.heap.size w a) (k:Below a.heap.size a b):Below w.heap.size w b:=h.trans (k.mono h.size)
theorem al {w a:World} (h:Below w.heap.size w a) (o:Obj):Below w.heap.size w (a.alloc o):=h.alloc h.size o
theorem cell_lt {w:World} {b o:Nat} {v:Value} (h:w.cell? ⟨b,o,none⟩=some v):b<w.heap.size:=by
 rcases Nat.lt_or_ge b w.heap.size with h1|h1
 · exact h1
 · exfalso
   unfold World.cell? at h
   simp [Array.getElem?_eq_none h1] at h
end Go.Proofs.YtiaomhdmllhmmaaGreatDoor.Mem
