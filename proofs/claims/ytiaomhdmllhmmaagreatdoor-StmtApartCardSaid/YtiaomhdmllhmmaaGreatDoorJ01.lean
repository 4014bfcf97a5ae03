/- A row that lists package-level variables: the wrap hands on what the list says, and the wo Tokens, for themselves: what a text begins with, how it is cut; blanks between, ahead and  A text cut into tokens, for itself: where each stands; the texts of tokens with blanks bet The longest token with which a text begins, and what may stand behind it: together they ar Plain facts on 64-bit numbers: what a sum, a difference or a product answers (the number a The digits of a number as a list of bytes: plain facts. Which texts are numbers, and which number a text is: plain facts on lists of bytes. A number comes back from its digits, and a text that is read is its number's: plain facts. Values: how texts are quoted and read again, in plain words. Values as texts and texts as values, in plain words; a right value comes back, and a text  -/
import Derived.HandedShaped
import Derived.ProofKit
import Derived.Shelf.Vars
import Derived.Stop.Joined
import Derived.Test.YtiaomhdmllhmmaaGreatDoorProg
import Derived.Below
import Derived.WalkKit
import Derived.Lib.Replace
import Derived.Lib.IndexLaws
import Derived.Lib.IndexMore
import Derived.Lib.CountLaws
namespace Go.Proofs.YtiaomhdmllhmmaaGreatDoor.Mem
open Go.RowKit
variable {H:Type} {enc:TypeId × Value→H}
theorem handed_listed {a:Assume} {C:Checked} {os:Os} {f:FuncId} {fn:Func} {s:ChangeSpec} {conds:List PathCond} {apart fresh handsOn again:Bool} {l:List (String × DataW Unit)}
   (own:ownKnob C.prog.godebug=none) (started:os.Started) (noInit:C.prog.inits.idxOf? f=none) (hfn:C.prog.funcs[f]?=some fn)
   (witness:∃(w:World) (tape:Tape) (i:Input),w.os=os∧(w.forCall tape i).Shaped C.prog∧i.vars= []∧Input.okWide C.prog (w.forCall tape i) .any w.heap.size f i∧
     ((s.pre enc C.prog fn conds apart (w.forCall tape i).memory i.args∧laidMetH C.prog l (w.forCall tape i).memory)∧sizedMet enc C.prog fn (OpenSpec.ofChange s) apart (w.forCall tape i).memory i.args)∧a.holds C.prog (lone (Frame.enter C.prog f i.args .normal) [] (w.forCall tape i)))
   (contract:∀(W:World) (base:Nat) (args:Array Value) (ds gs:List (DataW H)) (before:List MemPlace),
     (∀(j:Nat) t v,fn.params[j]?=some t→args[j]?=some v→Value.okWide C.prog W .any base t v)→
     DataW.Whole enc C.prog fn.params.toList s.vars apart W args.toList ds gs before→
     conds.all (PathCond.test C.prog ⟨fn.params.toList,ds,s.plain.varTypes C.prog,gs⟩)=true→
     laidMetH C.prog l W→W.ShapedOpen C.prog→
     Calls C.prog f args W fun e W' =>∃v,e= .returned v∧s.post enc C.prog fn apart fresh handsOn again W args v W'):
   ReturnsInHanded a C os f .any (fun w args=>(s.pre enc C.prog fn conds apart w args∧laidMetH C.prog l w)∧sizedMet enc C.prog fn (OpenSpec.ofChange s) apart w args) (s.post enc C.prog fn apart fresh handsOn again):=by
 refine returnsInHanded_of_calls own started noInit witness ?_
 intro w tape i _ hsh _ hok hpre _
 obtain ⟨_,_,_,fn',hfn',_,_,_,_,hval⟩:=hok
 obtain rfl:fn' =fn:=Option.some.inj (hfn'.symm.trans hfn)
 obtain ⟨⟨⟨ds,gs,before,hw,hc⟩,hl⟩,_⟩:=hpre
 have hl2:laidMetH C.prog l (w.forCall tape i):=laidMetH.of_heap (by rfl) hl
 exact (contract (w.forCall tape i) w.heap.size i.args ds gs before hval (DataW.Whole.of_heap (by rfl) hw) hc (hl2) hsh).mono fun e W' ⟨v,he,hp⟩=>by subst he;exact ChangeSpec.post_blind hp
end Go.Proofs.YtiaomhdmllhmmaaGreatDoor.Mem
namespace Go.Proofs.YtiaomhdmllhmmaaGreatDoor.Lx
set_option linter.unusedVariables false
def small (c:UInt8):Bool:=decide (97≤c) && decide (c≤122)
def cap (c:UInt8):Bool:=decide (65≤c) && decide (c≤90)
def dig (c:UInt8):Bool:=decide (48≤c) && decide (c≤57)
def inName (c:UInt8):Bool:=small c||dig c||c==95
def inKey (c:UInt8):Bool:=cap c||c==95
def glue (c:UInt8):Bool:=small c||cap c||dig c||c==95||c==36
def blank (c:UInt8):Bool:=c==32||c==10
def plainB (c:UInt8):Bool:=decide (32≤c) && decide (c≤126)
theorem blank_cases {c:UInt8} (h:blank c=true):c=32 ∨ c=10:=by simpa [blank] using h
theorem name_glue {c:UInt8} (h:inName c=true):glue c=true:=by
 simp only [inName,glue,Bool.or_eq_true] at h ⊢
 rcases h with (h|h)|h<;>simp [h]
theorem key_glue {c:UInt8} (h:inKey c=true):glue c=true:=by
 simp only [inKey,glue,Bool.or_eq_true] at h ⊢
 rcases h with h|h<;>simp [h]
theorem dig_glue {c:UInt8} (h:dig c=true):glue c=true:=by simp [glue,h]
def run (p:UInt8→Bool) (s:List UInt8):Nat:=(s.takeWhile p).length
theorem run_nil (p:UInt8→Bool):run p []=0:=rfl
theorem run_cons (p:UInt8→Bool) (c:UInt8) (s:List UInt8):run p (c::s)=if p c=true then run p s+1 else 0:=by
 unfold run
 rw [List.takeWhile_cons]
 split<;>simp
theorem run_le (p:UInt8→Bool):∀s,run p s≤s.length
 | []=>Nat.le_refl _
 | c::s=>by
   rw [run_cons,List.length_cons]
   have:=run_le p s
   split<;>omega
theorem run_all {p:UInt8→Bool} {x:List UInt8} (y:List UInt8) (h:∀c∈x,p c=true):run p (x++y)=x.length+run p y:=by
 induction x with
 |nil=>simp
 | cons c t ih=>
   rw [List.cons_append,run_cons,if_pos (h c (by simp)),ih (fun d hd=>h d (by simp [hd])),List.length_cons]
   omega
theorem run_ge {p:UInt8→Bool}:∀{x y:List UInt8},x.length≤run p (x++y)→∀c∈x,p c=true
 | [],_,_=>by simp
 | d ::t,y,h=>by
   rw [List.cons_append,run_cons,List.length_cons] at h
   split at h
   · rename_i hd
     intro c hc
     rcases List.mem_cons.1 hc with rfl|hc
     · exact hd
     · exact run_ge (y:=y) (by omega) c hc
   · omega
def free:List UInt8→Bool
 | []=>true
 |c::_=> !glue c
theorem run_free {p:UInt8→Bool} (hp:∀c,p c=true→glue c=true) {z:List UInt8} (h:free z=true):run p z=0:=by
 cases z with
 |nil=>rfl
 | cons c t=>
   rw [run_cons,if_neg]
   intro hc
   have:=hp c hc
   simp [free,this] at h
def word (k:Nat) (p:UInt8→Bool) (most:Nat) (c:UInt8) (t:List UInt8):Option (Nat × Nat):=
 if 1+run p t≤most∧free (t.drop (run p t))=true then some (k,1+run p t) else none
def quo:List UInt8→Option Nat
 | []=>none
 | [c]=>if c=39 then some 1 else none
 |c::d::t=>if c=39 then (if d=39 then (quo t).map (· +2) else some 1) else if plainB c=true then (quo (d::t)).map (· +1) else none
def two (c d:UInt8):Bool:=(c==60 && (d==62||d==61))||(c==62 && d==61)||(c==124 && d==124)
def single (c:UInt8):Bool:=c==40||c==41||c==44||c==61||c==60||c==62||c==43||c==45||c==42||c==47||c==37
def sign (c:UInt8):List UInt8→Option (Nat × Nat)
 | []=>if single c=true then some (6,1) else none
 |d::_=>if two c d=true then some (6,2) else if single c=true then some (6,1) else none
def param:List UInt8→Option (Nat × Nat)
 | []=>none
 |d::t=>if (decide (49≤d) && decide (d≤54))=true∧free t=true then some (5,2) else none
def next:List UInt8→Option (Nat × Nat)
  | []=>none
  | c::t=>
    if small c=true then word 1 inName 12 c t
    else if cap c=true then word 2 inKey 16 c t
    else if c=48 then (if free t=true then some (3,1) else none)
    else if dig c=true then word 3 dig 19 c t
    else if c=39 then (quo t).map fun n=>(4,n+1)
    else if c=36 then param t
    else sign c t
theorem quo_le:∀(s:List UInt8) (n:Nat),quo s=some n→0<n∧n≤s.length
  | [],n,h=>by simp [quo] at h
  | [c],n,h=>by
    simp only [quo] at h
    split at h
    · injection h with h;subst h;simp
    · cases h
  | c ::d::t,n,h=>by
    simp only [quo] at h
    split at h
    · split at h
      · obtain ⟨m,hm,rfl⟩:=Option.map_eq_some_iff.1 h
        have:=quo_le t m hm
        simp;omega
      · injection h with h;subst h;simp
    · split at h
      · obtain ⟨m,hm,rfl⟩:=Option.map_eq_some_iff.1 h
        have:=quo_le (d::t) m hm
        simp at this ⊢;omega
      · cases h
theorem next_le {s:List UInt8} {k n:Nat} (h:next s=some (k,n)):0<n∧n≤s.length:=by
  cases s with
  |nil=>simp [next] at h
  | cons c t=>
    have hw:∀{k' :Nat} {p:UInt8→Bool} {most:Nat},word k' p most c t=some (k,n)→0<n∧n≤(c::t).length:=fun {k' p most} e=>by
      unfold word at e
      split at e
      · injection e with e
        injection e with _ e
        have:=run_le p t
        simp;omega
      · cases e
    simp only [next] at h
    split at h
    · exact hw h
    split at h
    · exact hw h
    split at h
    · split at h
      · injection h with h;injection h with _ h;subst h;simp
      · cases h
    split at h
    · exact hw h
    split at h
    · obtain ⟨m,hm,e⟩:=Option.map_eq_some_iff.1 h
      have:=quo_le t m hm
      injection e with _ e
      simp;omega
    split at h
    · cases t with
      |nil=>simp [param] at h
      | cons d t=>
        simp only [param] at h
        split at h
        · injection h with h;injection h with _ h;subst h;simp
        · cases h
    · cases t with
      | nil=>
        simp only [sign] at h
        split at h
        · injection h with h;injection h with _ h;subst h;simp
        · cases h
      | cons d t=>
        simp only [sign] at h
        split at h
        · injection h with h;injection h with _ h;subst h;simp
        · split at h
          · injection h with h;injection h with _ h;subst h;simp
          · cases h
theorem next_blank {c:UInt8} {t:List UInt8} (h:blank c=true):next (c::t)=none:=by
 rcases blank_cases h with rfl|rfl<;>cases t<;>rfl
end Go.Proofs.YtiaomhdmllhmmaaGreatDoor.Lx
namespace Go.Proofs.YtiaomhdmllhmmaaGreatDoor.Lx
set_option linter.unusedVariables false
structure Tk where
 kind:Nat
 text:List UInt8
 at_:Nat
deriving DecidableEq
def cutF:Nat→List UInt8→Nat→Nat→List Tk × Nat × Nat
  |0,_,a,_=>([],a,0)
  | f + 1,s,a,n=>
    match s.drop (run blank s) with
    | []=>if n=120 then ([],a+run blank s,5) else ([⟨7, [],a+run blank s⟩],0,0)
    | c ::t=>
      match next (c::t) with
      |none=>([],a+run blank s,15)
      | some (k,m)=>
        if n=120 then ([],a+run blank s,5)
        else
          let r:=cutF f ((c::t).drop m) (a+run blank s+m) (n+1)
          if r.2.2=0 then (⟨k,(c::t).take m,a+run blank s⟩::r.1,r.2) else r
def cut (s:List UInt8) (a n:Nat):List Tk × Nat × Nat:=cutF (s.length+1) s a n
theorem cutF_more:∀(f:Nat) (s:List UInt8) (a n:Nat),s.length<f→cutF f s a n=cut s a n:=by
  intro f
  induction f using Nat.strongRecOn with
  | _ f ih=>
    intro s a n hf
    obtain ⟨f,rfl⟩:∃g,f=g+1:=⟨f - 1,by omega⟩
    unfold cut
    rw [cutF,cutF]
    split
    · rfl
    · rename_i c t hd
      have hl:(c::t).length≤s.length:=by rw [←hd,List.length_drop];omega
      split
      · rfl
      · rename_i k m hm
        have hm2:=next_le hm
        have hd2:((c::t).drop m).length<s.length:=by rw [List.length_drop];omega
        rw [ih f (by omega) _ _ _ (by omega)]
        by_cases he:s.length=f
        · subst he
          rw [ih _ (by omega) _ _ _ (by omega)]
        · rw [ih s.length (by omega) _ _ _ (by omega)]
theorem cut_eq (s:List UInt8) (a n:Nat):cut s a n=
    match s.drop (run blank s) with
    | []=>if n=120 then ([],a+run blank s,5) else ([⟨7, [],a+run blank s⟩],0,0)
    | c ::t=>
      match next (c::t) with
      |none=>([],a+run blank s,15)
      | some (k,m)=>
        if n=120 then ([],a+run blank s,5)
        else
          let r:=cut ((c::t).drop m) (a+run blank s+m) (n+1)
          if r.2.2=0 then (⟨k,(c::t).take m,a+run blank s⟩::r.1,r.2) else r:=by
  conv=>lhs;unfold cut
  rw [cutF]
  split
  · rfl
  · rename_i c t hd
    have hl:(c::t).length≤s.length:=by rw [←hd,List.length_drop];omega
    split
    · rfl
    · rename_i k m hm
      have hm2:=next_le hm
      rw [cutF_more s.length _ _ _ (by rw [List.length_drop];omega)]
theorem cut_end {s:List UInt8} {a n:Nat} (h:s.drop (run blank s)= []):cut s a n=if n=120 then ([],a+run blank s,5) else ([⟨7, [],a+run blank s⟩],0,0):=by rw [cut_eq,h]
theorem cut_none {s u:List UInt8} {a n:Nat} (h:s.drop (run blank s)=u) (hu:u≠ []) (hn:next u=none):cut s a n=([],a+run blank s,15):=by
 rw [cut_eq,h]
 cases u with
 |nil=>exact absurd rfl hu
 |cons c t=>simp only [hn]
theorem cut_full {s u:List UInt8} {a k m:Nat} (h:s.drop (run blank s)=u) (hn:next u=some (k,m)):cut s a 120=([],a+run blank s,5):=by
 rw [cut_eq,h]
 cases u with
 |nil=>simp [next] at hn
 |cons c t=>simp only [hn];rfl
theorem cut_some {s u:List UInt8} {a n k m:Nat} (h:s.drop (run blank s)=u) (hn:next u=some (k,m)) (h1:n≠120):
   cut s a n=if (cut (u.drop m) (a+run blank s+m) (n+1)).2.2=0 then (⟨k,u.take m,a+run blank s⟩::(cut (u.drop m) (a+run blank s+m) (n+1)).1,(cut (u.drop m) (a+run blank s+m) (n+1)).2) else cut (u.drop m) (a+run blank s+m) (n+1):=by
 rw [cut_eq,h]
 cases u with
 |nil=>simp [next] at hn
 |cons c t=>simp only [hn,if_neg h1]
def kindOf (s:List UInt8):Nat:=if s= [] then 7 else match next s with
 |some (k,n)=>if n=s.length then k else 0
 |none=>0
theorem cut_ahead {f:List UInt8} (hf:∀c∈f,blank c=true) (s:List UInt8) (a n:Nat):cut (f++s) a n=cut s (a+f.length) n:=by
 rw [cut_eq (f++s),cut_eq s,run_all s hf,List.drop_append,List.drop_eq_nil_of_le (by omega),List.nil_append,Nat.add_sub_cancel_left,Nat.add_assoc]
theorem cut_shift (d:Nat) (s:List UInt8) (a n:Nat):cut s (a+d) n=((cut s a n).1.map (fun t=>⟨t.kind,t.text,t.at_+d⟩),if (cut s a n).2.2=0 then 0 else (cut s a n).2.1+d,(cut s a n).2.2):=by
  obtain ⟨u,hu⟩:∃u,s.drop (run blank s)=u:=⟨_,rfl⟩
  by_cases hne:u= []
  · subst hne
    rw [cut_end hu,cut_end hu]
    split
    · simp;omega
    · simp;omega
  · cases hk:next u with
    |none=>rw [cut_none hu hne hk,cut_none hu hne hk];simp;omega
    | some km=>
      obtain ⟨k,m⟩:=km
      by_cases hn:n=120
      · subst hn
        rw [cut_full hu hk,cut_full hu hk];simp;omega
      · have hlt:(u.drop m).length<s.length:=by
          have:=(next_le hk)
          rw [List.length_drop,←hu,List.length_drop]
          rw [←hu,List.length_drop] at this
          omega
        have ih:=cut_shift d (u.drop m) (a+run blank s+m) (n+1)
        rw [cut_some hu hk hn,cut_some hu hk hn,show a+d+run blank s+m=a+run blank s+m+d by omega,ih]
        by_cases h0:(cut (u.drop m) (a+run blank s+m) (n+1)).2.2=0
        · rw [if_pos h0,if_pos h0]
          simp [h0]
          omega
        · simp only [if_neg h0]
termination_by s.length
decreasing_by all_goals (have:=‹(List.drop _ _).length<_›;simpa using this)
end Go.Proofs.YtiaomhdmllhmmaaGreatDoor.Lx
namespace Go.Proofs.YtiaomhdmllhmmaaGreatDoor.Lx
set_option linter.unusedVariables false
theorem run_at {p:UInt8→Bool}:∀{l:List UInt8} {k:Nat},k≤run p l→run p l=k+run p (l.drop k)
 |l,0,_=>by simp
 | [],k+1,h=>by simp [run_nil] at h
 | c ::t,k+1,h=>by
   rw [run_cons] at h ⊢
   by_cases hc:p c=true
   · rw [if_pos hc] at h ⊢
     rw [List.drop_succ_cons,run_at (l:=t) (k:=k) (by omega)]
     rw [run_at (l:=t) (k:=k) (by omega)] at h
     omega
   · rw [if_neg hc] at h;omega
theorem run_mid {p:UInt8→Bool} {l:List UInt8} {k:Nat} (h:k<run p l):∃c r,l.drop k=c::r∧p c=true:=by
 have e:=run_at (p:=p) (l:=l) (k:=k) (by omega)
 cases hd:l.drop k with
 |nil=>rw [hd,run_nil] at e;omega
 | cons c r=>
   refine ⟨c,r,rfl,?_⟩
   rw [hd,run_cons] at e
   by_cases hc:p c=true
   · exact hc
   · rw [if_neg hc] at e;omega
def orN (k n:Nat):Nat × Nat:=if n=0 then (0,0) else (k,n)
def qs (t:List UInt8):Nat:=match quo t with
 |some n=>n+1
 |none=>0
def par (d:UInt8):Bool:=decide (49≤d) && decide (d≤54)
def ps:List UInt8→Nat
 | []=>0
 |d::_=>if par d=true then 2 else 0
def sgn (c:UInt8):List UInt8→Nat
 | []=>if single c=true then 1 else 0
 |d::_=>if two c d=true then 2 else if single c=true then 1 else 0
def lng:List UInt8→Nat × Nat
  | []=>(7,0)
  | c::t=>
    if small c=true then (1,min (1+run inName t) 12)
    else if cap c=true then (2,min (1+run inKey t) 16)
    else if c=48 then (3,1)
    else if dig c=true then (3,min (1+run dig t) 19)
    else if c=39 then orN 4 (qs t)
    else if c=36 then orN 5 (ps t)
    else orN 6 (sgn c t)
def onK (k:Nat):Bool:=k==1||k==2||k==3||k==5
def on (k:Nat) (z:List UInt8):Bool:=onK k && !free z
def bad (s:List UInt8):Bool:=decide ((lng s).1=0)||on (lng s).1 (s.drop (lng s).2)
theorem word_bad {k:Nat} (hk:onK k=true) (hk0:k≠0) {p:UInt8→Bool} {most:Nat} (hm:0<most) (hp:∀c,p c=true→glue c=true) (c:UInt8) (t:List UInt8):
   word k p most c t=if (decide (k=0)||on k ((c::t).drop (min (1+run p t) most)))=true then none else some (k,min (1+run p t) most):=by
 unfold word on
 rw [hk,Bool.true_and,decide_eq_false hk0,Bool.false_or]
 by_cases h:1+run p t≤most
 · rw [Nat.min_eq_left h,Nat.add_comm 1,List.drop_succ_cons]
   cases hf:free (t.drop (run p t))
   · rw [if_neg (by simp)];rfl
   · rw [if_pos ⟨by omega,rfl⟩,if_neg (by simp)]
 · rw [if_neg (fun e=>h e.1),Nat.min_eq_right (by omega),if_pos]
   obtain ⟨m,rfl⟩:∃m,most=m+1:=⟨most - 1,by omega⟩
   rw [List.drop_succ_cons]
   obtain ⟨d,r,e,hd⟩:=run_mid (p:=p) (l:=t) (k:=m) (by omega)
   rw [e]
   simp [free,hp d hd]
theorem next_bad {s:List UInt8} (hs:s≠ []):next s=if bad s=true then none else some (lng s):=by
  cases s with
  |nil=>exact absurd rfl hs
  | cons c t=>
    unfold bad
    simp only [next,lng]
    split
    · exact word_bad rfl (by decide) (by decide) (fun _=>name_glue) c t
    split
    · exact word_bad rfl (by decide) (by decide) (fun _=>key_glue) c t
    split
    · show _=if (decide (3=0)||on 3 t)=true then none else some (3,1)
      cases hf:free t<;>simp [on,onK,hf]
    split
    · exact word_bad rfl (by decide) (by decide) (fun _=>dig_glue) c t
    split
    · unfold qs
      cases hq:quo t with
      |none=>rfl
      |some n=>rfl
    split
    · cases t with
      |nil=>rfl
      | cons d r=>
        show (if par d=true∧free r=true then some (5,2) else none)=_
        by_cases hd:par d=true
        · simp only [ps,if_pos hd]
          cases hf:free r<;>simp [orN,on,onK,hf,hd]
        · simp only [ps,if_neg hd]
          simp [orN,hd]
    · cases t with
      | nil=>
        simp only [sign,sgn]
        by_cases h1:single c=true
        · simp only [if_pos h1];rfl
        · simp only [if_neg h1];rfl
      | cons d r=>
        simp only [sign,sgn]
        by_cases h2:two c d=true
        · simp only [if_pos h2];rfl
        · simp only [if_neg h2]
          by_cases h1:single c=true
          · simp only [if_pos h1];rfl
          · simp only [if_neg h1];rfl
theorem kind_lng {s:List UInt8} {k:Nat} (h:kindOf s=k) (hk:1≤k):lng s=(k,s.length):=by
  unfold kindOf at h
  by_cases hs:s= []
  · subst hs;rw [if_pos rfl] at h;subst h;rfl
  · rw [if_neg hs,next_bad hs] at h
    cases hb:bad s
    · rw [hb] at h
      simp only [Bool.false_eq_true,if_false] at h
      split at h
      · rename_i e
        rw [←h,←e]
      · omega
    · rw [hb] at h;simp at h;omega
theorem run_snoc {p:UInt8→Bool} {l:List UInt8} {k:Nat} {c:UInt8} {r:List UInt8} (h:k≤run p l) (hd:l.drop k=c::r):(p c=true→k+1≤run p l)∧(p c=false→run p l=k):=by
 have e:=run_at h
 rw [hd,run_cons] at e
 refine ⟨fun hc=>?_,fun hc=>?_⟩
 · rw [if_pos hc] at e;omega
 · rw [if_neg (by simp [hc])] at e;omega
theorem ge_byte (k c:UInt8):decide (k≤c)=decide ((k.toNat:Int)≤(c.toNat:Int)):=by
 rw [decide_eq_decide,UInt8.le_iff_toNat_le];omega
theorem eq_byte (k c:UInt8):(c==k)=((c.toNat:Int)==(k.toNat:Int)):=by
 rw [Bool.eq_iff_iff,beq_iff_eq,beq_iff_eq]
 exact ⟨fun h=>by rw [h],fun h=>UInt8.toNat_inj.1 (by omega)⟩
theorem small_num (c:UInt8):small c=(decide (97≤(c.toNat:Int)) && decide ((c.toNat:Int)≤122)):=by unfold small;rw [ge_byte,ge_byte];rfl
theorem cap_num (c:UInt8):cap c=(decide (65≤(c.toNat:Int)) && decide ((c.toNat:Int)≤90)):=by unfold cap;rw [ge_byte,ge_byte];rfl
theorem dig_num (c:UInt8):dig c=(decide (48≤(c.toNat:Int)) && decide ((c.toNat:Int)≤57)):=by unfold dig;rw [ge_byte,ge_byte];rfl
theorem par_num (c:UInt8):par c=(decide (49≤(c.toNat:Int)) && decide ((c.toNat:Int)≤54)):=by unfold par;rw [ge_byte,ge_byte];rfl
theorem plain_num (c:UInt8):plainB c=(decide (32≤(c.toNat:Int)) && decide ((c.toNat:Int)≤126)):=by unfold plainB;rw [ge_byte,ge_byte];rfl
end Go.Proofs.YtiaomhdmllhmmaaGreatDoor.Lx
namespace Go.Proofs.YtiaomhdmllhmmaaGreatDoor.Num
open Go.RowKit
set_option linter.unusedVariables false
def fits (n:Int):Bool:=decide (-9223372036854775808≤n∧n≤9223372036854775807)
def rv (n:Int):Int:=if fits n then n else 0
def re (n:Int):Int:=if fits n then 0 else 10
theorem fits_iff (n:Int):fits n=true↔ -9223372036854775808≤n∧n≤9223372036854775807:=by unfold fits;simp
theorem rv_yes {n:Int} (h:fits n=true):rv n=n:=by unfold rv;rw [if_pos h]
theorem re_yes {n:Int} (h:fits n=true):re n=0:=by unfold re;rw [if_pos h]
end Go.Proofs.YtiaomhdmllhmmaaGreatDoor.Num
namespace Go.Proofs.YtiaomhdmllhmmaaGreatDoor.Num
open Go.RowKit
def dc (n:Nat):UInt8:=UInt8.ofNat (48+n % 10)
theorem dc_nat (n:Nat):(dc n).toNat=48+n % 10:=by unfold dc;rw [UInt8.toNat_ofNat'];omega
theorem dc_int (n:Nat):((dc n).toNat:Int)=48+(n:Int) % 10:=by rw [dc_nat];omega
def dg (n:Nat):List UInt8:=if n<10 then [dc n] else dg (n / 10)++ [dc n]
termination_by n
decreasing_by omega
theorem dg_small {n:Nat} (h:n<10):dg n= [dc n]:=by rw [dg,if_pos h]
theorem dg_step {n:Nat} (h:¬n<10):dg n=dg (n / 10)++ [dc n]:=by rw [dg,if_neg h]
theorem ret_str {l l' :List UInt8} (h:l=l'):Ending.returned (.string ⟨l.toArray⟩)= .returned (.string ⟨l'.toArray⟩):=by rw [h]
theorem dg_pos (n:Nat):1≤(dg n).length:=by
 by_cases h:n<10
 · rw [dg_small h];simp
 · rw [dg_step h];simp
theorem dg_len:∀(k n:Nat),1≤k→n<10 ^ k→(dg n).length≤k
 |0,_,h,_=>by omega
 |1,n,_,h=>by rw [dg_small (by simpa using h)];simp
 | k +2,n,_,h=>by
   by_cases h0:n<10
   · rw [dg_small h0];simp
   · rw [dg_step h0]
     have:=dg_len (k+1) (n / 10) (by omega) (by rw [Nat.pow_succ] at h;omega)
     simp;omega
theorem dg_len19 {n:Nat} (h:n≤9223372036854775808):(dg n).length≤19:=dg_len 19 n (by omega) (by omega)
theorem wrap_neg2 {n:Nat} (hn:n≤9223372036854775808):IntKind.u64.wrap (-IntKind.u64.wrap (-(n:Int)))=n:=by
 simp only [IntKind.wrap,IntKind.signed,IntKind.bits];simp;omega
theorem val_u64 {a b:Int} (h:a=b):Value.int .u64 a= .int .u64 b:=by rw [h]
def dgz (a:Int):List UInt8:=if a<0 then 45::dg a.natAbs else dg a.natAbs
end Go.Proofs.YtiaomhdmllhmmaaGreatDoor.Num
namespace Go.Proofs.YtiaomhdmllhmmaaGreatDoor.Num
open Go.RowKit
def isd (c:UInt8):Bool:=decide (48≤(c.toNat:Int)) && decide ((c.toNat:Int)≤57)
theorem isd_iff (c:UInt8):isd c=true↔48≤(c.toNat:Int)∧(c.toNat:Int)≤57:=by unfold isd;simp
def alld:List UInt8→Bool
 | []=>true
 |c::r=>isd c && alld r
theorem alld_append (x y:List UInt8):alld (x++y)=(alld x && alld y):=by
 induction x with
 |nil=>simp [alld]
 |cons c r ih=>simp [alld,ih,Bool.and_assoc]
def plainB (l:List UInt8):Bool:=decide (1≤l.length) && decide (l.length≤19) && !(decide (l.head?=some 48) && decide (1<l.length)) && alld l
def numN (l:List UInt8):Nat:=l.foldl (fun n c=>n*10+(c.toNat - 48)) 0
theorem numN_snoc (l:List UInt8) (c:UInt8):numN (l++ [c])=numN l*10+(c.toNat - 48):=by unfold numN;rw [List.foldl_append];rfl
def neg (l:List UInt8):Bool:=decide (l.head?=some 45)
def body (l:List UInt8):List UInt8:=if neg l then l.tail else l
def okF (l:List UInt8):Bool:=plainB (body l) && !(neg l && decide (body l= [48]))
def rz (l:List UInt8):Int:=if neg l then -(numN (body l):Int) else numN (body l)
def readV (l:List UInt8):Int:=if okF l then rv (rz l) else 0
def readE (l:List UInt8):Int:=if okF l then re (rz l) else 12
theorem read_yes {l:List UInt8} (h:okF l=true):readV l=rv (rz l)∧readE l=re (rz l):=by unfold readV readE;rw [if_pos h,if_pos h];exact ⟨rfl,rfl⟩
end Go.Proofs.YtiaomhdmllhmmaaGreatDoor.Num
namespace Go.Proofs.YtiaomhdmllhmmaaGreatDoor.Num
open Go.RowKit
theorem head_app {x:List UInt8} (y:List UInt8) (h:x≠ []):(x++y).head?=x.head?:=by
 cases x with
 |nil=>exact absurd rfl h
 |cons c r=>rfl
theorem dc_isd (n:Nat):isd (dc n)=true:=by rw [isd_iff,dc_int];omega
theorem dg_alld:∀(k n:Nat),n≤k→alld (dg n)=true
 |0,n,h=>by rw [dg_small (by omega)];simp [alld,dc_isd]
 | k+1,n,h=>by
   by_cases h0:n<10
   · rw [dg_small h0];simp [alld,dc_isd]
   · rw [dg_step h0,alld_append,dg_alld k (n / 10) (by omega)];simp [alld,dc_isd]
theorem dg_num:∀(k n:Nat),n≤k→numN (dg n)=n
 | 0,n,h=>by
   have:n=0:=by omega
   subst this;rw [dg_small (by omega)];rfl
 | k+1,n,h=>by
   by_cases h0:n<10
   · rw [dg_small h0];unfold numN;simp only [List.foldl_cons,List.foldl_nil];rw [dc_nat];omega
   · rw [dg_step h0,numN_snoc,dg_num k (n / 10) (by omega),dc_nat];omega
theorem dc_ne48 {n:Nat} (h:1≤n % 10):dc n≠48:=by
 intro e
 have:=congrArg UInt8.toNat e
 rw [dc_nat] at this
 have h48:(48:UInt8).toNat=48:=rfl
 omega
theorem dg_head:∀(k n:Nat),n≤k→1≤n→(dg n).head?≠some 48
 |0,n,h,h1=>by omega
 | k +1,n,h,h1=>by
   by_cases h0:n<10
   · rw [dg_small h0];simp only [List.head?_cons,ne_eq,Option.some.injEq];exact dc_ne48 (by omega)
   · rw [dg_step h0]
     have:=dg_head k (n / 10) (by omega) (by omega)
     have hl:=dg_pos (n / 10)
     rw [head_app _ (by intro e;rw [e] at hl;simp at hl)]
     exact this
theorem alld_head {l:List UInt8} (h:alld l=true):l.head?≠some 45:=by
 cases l with
 |nil=>simp
 | cons c r=>
   simp only [alld,Bool.and_eq_true] at h
   have:=(isd_iff c).1 h.1
   simp only [List.head?_cons,ne_eq,Option.some.injEq]
   rintro rfl
   have h45:((45:UInt8).toNat:Int)=45:=rfl
   omega
theorem dg_plain {n:Nat} (h:n≤9223372036854775808):plainB (dg n)=true:=by
 unfold plainB
 have h1:=dg_pos n
 have h2:=dg_len19 h
 rw [dg_alld n n (Nat.le_refl _)]
 simp only [Bool.and_eq_true,decide_eq_true_eq,Bool.not_eq_true',Bool.and_eq_false_iff,decide_eq_false_iff_not,and_true]
 refine ⟨⟨h1,h2⟩,?_⟩
 by_cases h0:n<10
 · right;rw [dg_small h0];simp
 · left;exact dg_head n n (Nat.le_refl _) (by omega)
theorem neg_cons (r:List UInt8):neg (45::r)=true:=rfl
theorem body_cons (r:List UInt8):body (45::r)=r:=by unfold body;rw [if_pos (neg_cons r)];rfl
theorem neg_plain {l:List UInt8} (h:alld l=true):neg l=false:=by unfold neg;simpa using alld_head h
theorem body_plain {l:List UInt8} (h:alld l=true):body l=l:=by unfold body;rw [if_neg (by simp [neg_plain h])]
theorem back_num {a:Int} (ha: -9223372036854775808≤a) (ha' :a≤9223372036854775807):readV (dgz a)=a∧readE (dgz a)=0:=by
  have hfit:fits a=true:=by rw [fits_iff];exact ⟨ha,ha'⟩
  have hz:okF (dgz a)=true∧rz (dgz a)=a:=by
    have hal:=dg_alld a.natAbs a.natAbs (Nat.le_refl _)
    have hpl:=dg_plain (n:=a.natAbs) (by omega)
    have hnum:=dg_num a.natAbs a.natAbs (Nat.le_refl _)
    by_cases h:a<0
    · have k:dgz a=45::dg a.natAbs:=by unfold dgz;rw [if_pos h]
      have hne:dg a.natAbs≠ [48]:=by
        intro e
        have:=dg_head a.natAbs a.natAbs (Nat.le_refl _) (by omega)
        rw [e] at this;simp at this
      rw [k]
      unfold okF rz
      rw [body_cons,neg_cons,hpl,hnum,if_pos rfl]
      exact ⟨by simp [hne],by omega⟩
    · have k:dgz a=dg a.natAbs:=by unfold dgz;rw [if_neg h]
      rw [k]
      unfold okF rz
      rw [body_plain hal,neg_plain hal,hpl,hnum,if_neg (by simp)]
      exact ⟨by simp,by omega⟩
  rw [(read_yes hz.1).1,(read_yes hz.1).2,hz.2,rv_yes hfit,re_yes hfit]
  exact ⟨rfl,rfl⟩
end Go.Proofs.YtiaomhdmllhmmaaGreatDoor.Num
namespace Go.Proofs.YtiaomhdmllhmmaaGreatDoor.Val
open Num
def q:List UInt8→List UInt8
 | []=> []
 |c::r=>if c=39 then 39::39::q r else c::q r
def quo (l:List UInt8):List UInt8:=39::(q l++ [39])
theorem q_app:∀(a b:List UInt8),q (a++b)=q a++q b
 | [],b=>rfl
 | c::r,b=>by
   by_cases h:c=39
   · simp [q,h,q_app r b]
   · simp [q,h,q_app r b]
theorem q_len:∀(l:List UInt8),(q l).length=l.length+l.count 39
 | []=>rfl
 | c::r=>by
   by_cases h:c=39
   · subst h;simp [q,q_len r];omega
   · simp [q,h,q_len r];omega
theorem quo_len (l:List UInt8):(quo l).length=l.length+l.count 39+2:=by
 unfold quo;simp [q_len]
theorem q_free:∀{l:List UInt8},39 ∉ l→q l=l
 | [],_=>rfl
 | c::r,h=>by
   simp only [List.mem_cons,not_or] at h
   have hc:¬c=39:=fun e=>h.1 e.symm
   rw [q,if_neg hc,q_free h.2]
theorem parted:∀(l:List UInt8),39 ∉ l ∨ ∃a r,39 ∉ a∧l=a++39::r
  | []=> .inl (by simp)
  | c ::r=>by
    by_cases hc:c=39
    · subst hc;exact .inr ⟨[],r,by simp,rfl⟩
    · rcases parted r with h|⟨a,b,ha,rfl⟩
      · left;simp only [List.mem_cons,not_or];exact ⟨fun e=>hc e.symm,h⟩
      · right;refine ⟨c::a,b,?_,rfl⟩
        simp only [List.mem_cons,not_or];exact ⟨fun e=>hc e.symm,ha⟩
theorem q_part (a r:List UInt8) (h:39 ∉ a):q (a++39::r)=a++39::39::q r:=by
 rw [q_app,q_free h];simp [q]
theorem ne_of_notin {c:UInt8} {r:List UInt8} (h:39 ∉ c::r):¬(39:UInt8)=c∧39 ∉ r:=by
 simp only [List.mem_cons,not_or] at h;exact h
theorem idx1_no:∀{l:List UInt8},39 ∉ l→Lib.index l [39]= -1
 | [],_=>rfl
 | c::r,h=>by
   obtain ⟨hc,hr⟩:=ne_of_notin h
   have e:((39:UInt8)==c)=false:=by simpa using hc
   rw [Lib.index];simp [List.isPrefixOf,e,idx1_no hr]
theorem idx1_yes:∀{a:List UInt8} (r:List UInt8),39 ∉ a→Lib.index (a++39::r) [39]=a.length
 | [],r,_=>by simp [Lib.index,List.isPrefixOf]
 | c::a,r,h=>by
   obtain ⟨hc,hr⟩:=ne_of_notin h
   have e:((39:UInt8)==c)=false:=by simpa using hc
   have ih:=idx1_yes r hr
   rw [List.cons_append,Lib.index]
   have e1:(([39]:List UInt8).isPrefixOf (c::(a++39::r)))=false:=by simp [List.isPrefixOf,e]
   rw [e1,ih]
   have e2:((a.length:Int)== -1)=false:=by simp
   simp [e2]
theorem idx2_no:∀{l:List UInt8},39 ∉ l→Lib.index l [39,39]= -1
 | [],_=>rfl
 | c::r,h=>by
   obtain ⟨hc,hr⟩:=ne_of_notin h
   have e:((39:UInt8)==c)=false:=by simpa using hc
   rw [Lib.index];simp [List.isPrefixOf,e,idx2_no hr]
theorem idx2_yes:∀{a:List UInt8} (r:List UInt8),39 ∉ a→Lib.index (a++39::39::r) [39,39]=a.length
 | [],r,_=>by simp [Lib.index,List.isPrefixOf]
 | c::a,r,h=>by
   obtain ⟨hc,hr⟩:=ne_of_notin h
   have e:((39:UInt8)==c)=false:=by simpa using hc
   have ih:=idx2_yes r hr
   rw [List.cons_append,Lib.index]
   have e1:(([39,39]:List UInt8).isPrefixOf (c::(a++39::39::r)))=false:=by simp [List.isPrefixOf,e]
   rw [e1,ih]
   have e2:((a.length:Int)== -1)=false:=by simp
   simp [e2]
theorem cut_no {l:List UInt8} (h:39 ∉ l):Lib.cut l [39]=(l, [],false):=by
 unfold Lib.cut;rw [idx1_no h];simp
theorem cut_yes {a:List UInt8} (r:List UInt8) (h:39 ∉ a):Lib.cut (a++39::r) [39]=(a,r,true):=by
 unfold Lib.cut;rw [idx1_yes r h]
 simp
theorem un_k:∀(n:Nat) (l:List UInt8),l.length≤n→Lib.replaceK [39,39] [39] (Lib.count (q l) [39,39]) (q l)=l:=by
  intro n
  induction n with
  | zero=>
    intro l hl
    have:l= []:=List.eq_nil_of_length_eq_zero (by omega)
    subst this;rfl
  | succ n ih=>
    intro l hl
    rcases parted l with h|⟨a,r,ha,rfl⟩
    · rw [q_free h,Lib.count_miss (idx2_no h)];rfl
    · have hx:=idx2_yes (q r) ha
      rw [q_part a r ha,Lib.count_hit (by simp) hx,Nat.add_comm 1,Lib.replaceK_hit _ _ _ _ _ hx]
      have hd:(a++39::39::q r).drop (a.length+([39,39]:List UInt8).length)=q r:=by
        rw [List.drop_append];simp
      rw [hd,ih r (by simp at hl;omega)]
      simp
theorem un_q (l:List UInt8):Lib.replaceAll (q l) [39,39] [39]=l:=by
 unfold Lib.replaceAll Lib.replace Lib.replaceNum
 have e:(([39,39]:List UInt8)== [39])=false:=by decide
 rw [e,if_neg (by simp),if_pos (.inl (by omega))]
 exact un_k _ l (Nat.le_refl _)
def pl (l:List UInt8):Bool:=l.all fun c=> !(decide ((c.toNat:Int)<32)||decide (126<(c.toNat:Int)))
end Go.Proofs.YtiaomhdmllhmmaaGreatDoor.Val
namespace Go.Proofs.YtiaomhdmllhmmaaGreatDoor.Val
open Num
def wNull:List UInt8:= [78,85,76,76]
def wTrue:List UInt8:= [84,82,85,69]
def wFalse:List UInt8:= [70,65,76,83,69]
def okV (k n:Int) (l:List UInt8):Bool:=
 if k=0 then decide (n=0) && decide (l= []) else if k=1 then decide (l= []) else if k=2 then (decide (n=0)||decide (n=1)) && decide (l= [])
 else if k=3 then decide (n=0) && decide (l.length≤32) && pl l else false
def showV (k n:Int) (l:List UInt8):List UInt8:=
 if k=0 then wNull else if k=1 then dgz n else if k=2 then (if n=1 then wTrue else wFalse) else if k=3 then quo l else []
def inner (l:List UInt8):List UInt8:=(l.drop 1).take (l.length - 2)
def un (l:List UInt8):List UInt8:=Lib.replaceAll l [39,39] [39]
structure Got where
 k:Int
 n:Int
 s:List UInt8
 e:Int
def bad (e:Int):Got:=⟨0,0, [],e⟩
def rdT (l:List UInt8):Got:=
 if l.length<2 then bad 12 else if quo (un (inner l))=l∧pl (un (inner l))=true then (if 32<(un (inner l)).length then bad 3 else ⟨3,0,un (inner l),0⟩) else bad 12
def rdN (n e:Int):Got:=if e=0 then ⟨1,n, [],0⟩ else bad e
def rd (l:List UInt8):Got:=
 if l=wNull then ⟨0,0, [],0⟩ else if l=wTrue then ⟨2,1, [],0⟩ else if l=wFalse then ⟨2,0, [],0⟩ else if l.head?=some 39 then rdT l else rdN (readV l) (readE l)
theorem inner_quo (l:List UInt8):inner (quo l)=q l:=by
 unfold inner quo
 simp
theorem un_inner (l:List UInt8):un (inner (quo l))=l:=by rw [inner_quo];exact un_q l
theorem dgz_head {a:Int} {c:UInt8} (h:(dgz a).head?=some c):c=45 ∨ isd c=true:=by
 unfold dgz at h
 split at h
 · left;simpa using h.symm
 · right
   have ha:=dg_alld a.natAbs a.natAbs (Nat.le_refl _)
   match hd:dg a.natAbs,h,ha with
   | x::r,h,ha=>
     simp only [alld,Bool.and_eq_true] at ha
     simp at h;rw [←h];exact ha.1
theorem dgz_not {a:Int} {l:List UInt8} {c:UInt8} (hl:l.head?=some c) (h1:c≠45) (h2:isd c=false):dgz a≠l:=by
 intro e
 rw [←e] at hl
 rcases dgz_head hl with h|h
 · exact h1 h
 · rw [h2] at h;cases h
theorem back_value {k n:Int} {l:List UInt8} (hn: -9223372036854775808≤n) (hn' :n≤9223372036854775807) (h:okV k n l=true):rd (showV k n l)=⟨k,n,l,0⟩:=by
  unfold okV at h
  unfold showV
  by_cases k0:k=0
  · subst k0
    simp only [↓reduceIte,Bool.and_eq_true,decide_eq_true_eq] at h
    obtain ⟨rfl,rfl⟩:=h
    rfl
  · rw [if_neg k0] at h ⊢
    by_cases k1:k=1
    · subst k1
      simp only [↓reduceIte,decide_eq_true_eq] at h
      subst h
      rw [if_pos rfl]
      unfold rd
      rw [if_neg (dgz_not (c:=78) rfl (by decide) (by decide)),if_neg (dgz_not (c:=84) rfl (by decide) (by decide)),if_neg (dgz_not (c:=70) rfl (by decide) (by decide)),if_neg ?_]
      · obtain ⟨h1,h2⟩:=back_num hn hn'
        rw [h1,h2];rfl
      · intro e
        rcases dgz_head e with h|h
        · exact absurd h (by decide)
        · exact absurd h (by decide)
    · rw [if_neg k1] at h ⊢
      by_cases k2:k=2
      · subst k2
        simp only [↓reduceIte,Bool.and_eq_true,Bool.or_eq_true,decide_eq_true_eq] at h
        obtain ⟨h|h,rfl⟩:=h
        · subst h;rfl
        · subst h;rfl
      · rw [if_neg k2] at h ⊢
        by_cases k3:k=3
        · subst k3
          simp only [↓reduceIte,Bool.and_eq_true,decide_eq_true_eq] at h
          obtain ⟨⟨rfl,hl⟩,hp⟩:=h
          rw [if_pos rfl]
          unfold rd
          rw [if_neg (by unfold quo wNull;simp),if_neg (by unfold quo wTrue;simp),if_neg (by unfold quo wFalse;simp),if_pos (show (quo l).head?=some 39 from rfl)]
          unfold rdT
          rw [un_inner,if_neg (by rw [quo_len];omega),if_pos ⟨rfl,hp⟩,if_neg (by omega)]
        · rw [if_neg k3] at h;cases h
end Go.Proofs.YtiaomhdmllhmmaaGreatDoor.Val
