/- The document's own way to tell a token's kind (registrarref09.Kind), and the longest token What value.Right answers, and the document's: is a value right? Worlds that have grown but for one block: what stays. Dump-free. A block's cells; a block's type. For every layer (the same words as layer 6's, standing al Is one part of a tree right: the program's way. Is one part of a tree right: the document's words, kind by kind, as the program asks them. -/
import Derived.Test.YtiaomhdmllhmmaaGreatDoorK01
import Derived.WalkKit
import Derived.WalkSpells
import Derived.WalkLawsBesides
import Derived.Lib.Hide
import Derived.Lib.IndexBytes
import Derived.Test.YtiaomhdmllhmmaaGreatDoorRows
import Derived.Test.YtiaomhdmllhmmaaGreatDoorK03
import Derived.Laws.Rows
import Derived.Laws.NewBlocks
import Derived.BigQuiet
import Derived.Deep.QuietTactic
import Derived.Test.YtiaomhdmllhmmaaGreatDoorK04
namespace Go.Proofs.YtiaomhdmllhmmaaGreatDoor.Lx
set_option linter.unusedVariables false
theorem byAll {p q:UInt8→Bool} (h:((List.range 256).all fun n=>p (UInt8.ofNat n)==q (UInt8.ofNat n))=true) (c:UInt8):p c=q c:=by
 have h1:=List.all_eq_true.1 h c.toNat (List.mem_range.2 (UInt8.toNat_lt c))
 rw [UInt8.ofNat_toNat] at h1
 exact eq_of_beq h1
def okM:List UInt8→Nat→Bool
 | [],n=>n % 2==0
 |c::r,n=>if c=39 then okM r (n+1) else if n % 2=1 then false else okM r n
theorem okM_two:∀(m:List UInt8) (n:Nat),okM m (n+2)=okM m n
 | [],n=>by unfold okM;rw [show (n+2) % 2=n % 2 by omega]
 | c::r,n=>by
   unfold okM
   rw [show n+2+1=(n+1)+2 by omega,okM_two r (n+1),okM_two r n,show (n+2) % 2=n % 2 by omega]
def quotedR:List UInt8→Bool
 | []=>false
 |c::t=>decide (c=39) && decide (t.getLast?=some 39) && t.all plainB && okM t.dropLast 0
theorem quo_ends:∀(t:List UInt8),quo t=some t.length→t.getLast?=some 39:=by
  intro t
  induction h:t.length using Nat.strongRecOn generalizing t with
  | _ f ih=>
    intro hq
    match t,h with
    | [],_=>simp [quo] at hq
    | [c],_=>
      unfold quo at hq
      split at hq
      · rename_i e;rw [e];rfl
      · cases hq
    | c ::d::t,h=>
      simp only [List.length_cons] at h
      unfold quo at hq
      split at hq
      · split at hq
        · obtain ⟨n,h1,h2⟩:=Option.map_eq_some_iff.1 hq
          have:=ih t.length (by omega) t rfl (by rw [h1];congr 1;omega)
          rw [List.getLast?_cons_cons]
          cases t with
          |nil=>simp [quo] at h1
          |cons x t=>rw [List.getLast?_cons_cons];exact this
        · injection hq with hq
          omega
      · split at hq
        · obtain ⟨n,h1,h2⟩:=Option.map_eq_some_iff.1 hq
          have:=ih (d::t).length (by simp;omega) (d::t) rfl (by rw [h1];congr 1;simp;omega)
          rw [List.getLast?_cons_cons];exact this
        · cases hq
theorem okM_q (r:List UInt8) (n:Nat):okM (39::r) n=okM r (n+1):=by rw [okM,if_pos rfl]
theorem okM_c {c:UInt8} (hc:c≠39) (r:List UInt8) (n:Nat):okM (c::r) n=if n % 2=1 then false else okM r n:=by rw [okM,if_neg hc]
theorem quo_midF:∀(f:Nat) (m:List UInt8),m.length≤f→(quo (m++ [39])=some (m.length+1)↔m.all plainB=true∧okM m 0=true)
  |_, [],_=>by simp [quo,okM]
  | _, [c],_=>by
    rw [List.cons_append,List.nil_append]
    unfold quo
    by_cases hc:c=39
    · subst hc;rw [okM_q];simp [quo,okM]
    · rw [if_neg hc,okM_c hc]
      have e:quo [39]=some 1:=by simp [quo]
      rw [e]
      simp [okM]
  |0,c::d::r,h=>by simp at h
  | f + 1,c::d::r,h=>by
    simp only [List.length_cons] at h
    rw [List.cons_append,List.cons_append]
    unfold quo
    by_cases hc:c=39
    · subst hc
      rw [if_pos rfl]
      by_cases hd:d=39
      · subst hd
        rw [if_pos rfl,okM_q,okM_q,okM_two r 0]
        have:=quo_midF f r (by omega)
        rw [List.all_cons,List.all_cons]
        constructor
        · intro hq
          obtain ⟨n,h1,h2⟩:=Option.map_eq_some_iff.1 hq
          have h3:=this.1 (by rw [h1];congr 1;simp at h2;omega)
          exact ⟨by rw [h3.1];decide,h3.2⟩
        · rintro ⟨h1,h2⟩
          simp only [Bool.and_eq_true] at h1
          rw [this.2 ⟨h1.2.2,h2⟩]
          simp
      · rw [if_neg hd,okM_q,okM_c hd,if_pos (by decide)]
        simp
    · rw [if_neg hc,okM_c hc,if_neg (show ¬(0 % 2=1) by decide),List.all_cons]
      have:=quo_midF f (d::r) (by simp;omega)
      rw [List.cons_append] at this
      by_cases hp:plainB c=true
      · rw [if_pos hp,hp,Bool.true_and]
        constructor
        · intro hq
          obtain ⟨n,h1,h2⟩:=Option.map_eq_some_iff.1 hq
          exact this.1 (by rw [h1];congr 1;simp at h2 ⊢;omega)
        · intro hh
          rw [this.2 hh]
          simp
      · rw [if_neg hp]
        constructor
        · intro hq;cases hq
        · rintro ⟨h1,_⟩
          rw [Bool.and_eq_true] at h1
          exact absurd h1.1 hp
theorem quo_mid (m:List UInt8):quo (m++ [39])=some (m.length+1)↔m.all plainB=true∧okM m 0=true:=quo_midF m.length m (Nat.le_refl _)
theorem quo_whole (t:List UInt8):quo t=some t.length↔t.getLast?=some 39∧t.all plainB=true∧okM t.dropLast 0=true:=by
 have key:∀m,t=m++ [39]→(quo t=some t.length↔t.all plainB=true∧okM t.dropLast 0=true):=fun m e=>by
   have:=quo_mid m
   rw [←e] at this
   have hl:t.length=m.length+1:=by rw [e];simp
   rw [hl,this,e]
   simp [show plainB 39=true by decide]
 constructor
 · intro h
   have h1:=quo_ends t h
   obtain ⟨m,e⟩:=List.getLast?_eq_some_iff.1 h1
   exact ⟨h1,(key m e).1 h⟩
 · rintro ⟨h1,h2⟩
   obtain ⟨m,e⟩:=List.getLast?_eq_some_iff.1 h1
   exact (key m e).2 h2
theorem run_whole {p:UInt8→Bool} {t:List UInt8}:run p t=t.length↔t.all p=true:=by
 induction t with
 |nil=>simp [run_nil]
 | cons c t ih=>
   rw [run_cons,List.all_cons]
   by_cases hc:p c=true
   · rw [if_pos hc,hc,Bool.true_and,←ih];simp
   · rw [if_neg hc]
     simp [hc]
def isPar:List UInt8→Bool
 | [d]=>par d
 |_=>false
def signR:List UInt8→Bool
 | [c]=>single c
 | [c,d]=>two c d
 |_=>false
def kindR:List UInt8→Nat
  | []=>7
  | c::t=>
    if (c::t).length≤12∧small c=true∧t.all inName=true then 1
    else if (c::t).length≤16∧cap c=true∧t.all inKey=true then 2
    else if (c::t).length≤19∧(c::t).all dig=true∧(c::t= [48] ∨ c≠48) then 3
    else if quotedR (c::t)=true then 4
    else if c=36∧isPar t=true then 5
    else if signR (c::t)=true then 6
    else 0
def sgC (c:UInt8):Bool:=single c||c==60||c==62||c==124
theorem cls1 (c:UInt8) (h:small c=true):cap c=false∧dig c=false∧c≠39∧c≠36∧c≠48∧sgC c=false:=by
 have:=byAll (p:=fun c=> !(small c)||(!(cap c) && !(dig c) && (c !=39) && (c !=36) && (c !=48) && !(sgC c))) (q:=fun _=>true) (by decide+kernel) c
 simp [h] at this
 exact ⟨this.1.1.1.1.1,this.1.1.1.1.2,this.1.1.1.2,this.1.1.2,this.1.2,this.2⟩
theorem cls2 (c:UInt8) (h:cap c=true):small c=false∧dig c=false∧c≠39∧c≠36∧c≠48∧sgC c=false:=by
 have:=byAll (p:=fun c=> !(cap c)||(!(small c) && !(dig c) && (c !=39) && (c !=36) && (c !=48) && !(sgC c))) (q:=fun _=>true) (by decide+kernel) c
 simp [h] at this
 exact ⟨this.1.1.1.1.1,this.1.1.1.1.2,this.1.1.1.2,this.1.1.2,this.1.2,this.2⟩
theorem cls3 (c:UInt8) (h:dig c=true):small c=false∧cap c=false∧c≠39∧c≠36∧sgC c=false:=by
 have:=byAll (p:=fun c=> !(dig c)||(!(small c) && !(cap c) && (c !=39) && (c !=36) && !(sgC c))) (q:=fun _=>true) (by decide+kernel) c
 simp [h] at this
 exact ⟨this.1.1.1.1,this.1.1.1.2,this.1.1.2,this.1.2,this.2⟩
theorem two_sgC {c d:UInt8} (h:two c d=true):sgC c=true:=by
 unfold two at h
 unfold sgC
 simp at h ⊢
 rcases h with (h|h)|h
 · exact .inl (.inl (.inr h.1))
 · exact .inl (.inr h.1)
 · exact .inr h.1
theorem sign_sg {c:UInt8} {t:List UInt8} (h:sgC c=false):signR (c::t)=false:=by
 match t with
 | []=>
   unfold sgC at h
   simp only [Bool.or_eq_false_iff] at h
   exact h.1.1.1
 | [d]=>
   show two c d=false
   cases e:two c d
   · rfl
   · rw [two_sgC e] at h;cases h
 |_::_::_=>rfl
def ofF (n:Nat):Option (Nat × Nat)→Nat
 |some (k,m)=>if m=n then k else 0
 |none=>0
theorem ofF_some (n k m:Nat):ofF n (some (k,m))=if m=n then k else 0:=rfl
theorem kindR_cons (c:UInt8) (t:List UInt8):kindR (c::t)=
   if (c::t).length≤12∧small c=true∧t.all inName=true then 1
   else if (c::t).length≤16∧cap c=true∧t.all inKey=true then 2
   else if (c::t).length≤19∧(c::t).all dig=true∧(c::t= [48] ∨ c≠48) then 3
   else if quotedR (c::t)=true then 4
   else if c=36∧isPar t=true then 5
   else if signR (c::t)=true then 6
   else 0:=by rw [kindR]
theorem next_cons (c:UInt8) (t:List UInt8):next (c::t)=
   if small c=true then word 1 inName 12 c t
   else if cap c=true then word 2 inKey 16 c t
   else if c=48 then (if free t=true then some (3,1) else none)
   else if dig c=true then word 3 dig 19 c t
   else if c=39 then (quo t).map fun n=>(4,n+1)
   else if c=36 then param t
   else sign c t:=by rw [next]
theorem param_cons (d:UInt8) (t:List UInt8):param (d::t)=if par d=true∧free t=true then some (5,2) else none:=by unfold par;rw [param]
theorem sign_nil (c:UInt8):sign c []=if single c=true then some (6,1) else none:=by rw [sign]
theorem sign_cons (c d:UInt8) (t:List UInt8):sign c (d::t)=if two c d=true then some (6,2) else if single c=true then some (6,1) else none:=by rw [sign]
theorem kindOf_cons (c:UInt8) (t:List UInt8):kindOf (c::t)=ofF (c::t).length (next (c::t)):=by
 unfold kindOf ofF
 rw [if_neg (by simp)]
 cases next (c::t)<;>rfl
theorem of_word (k:Nat) (p:UInt8→Bool) (most:Nat) (c:UInt8) (t:List UInt8):ofF (c::t).length (word k p most c t)=if (c::t).length≤most∧t.all p=true then k else 0:=by
 unfold word
 have hl:(c::t).length=t.length+1:=rfl
 have hr:=run_le p t
 by_cases h:t.all p=true
 · have e:=run_whole.2 h
   have hd:t.drop (run p t)= []:=List.drop_eq_nil_of_le (by omega)
   rw [hd]
   by_cases hm:(c::t).length≤most
   · rw [if_pos ⟨by omega,rfl⟩,if_pos ⟨hm,h⟩]
     rw [ofF_some,if_pos (by omega)]
   · rw [if_neg (fun g=>hm (by omega)),if_neg (fun g=>hm g.1)]
     rfl
 · have e:run p t≠t.length:=fun e=>h (run_whole.1 e)
   rw [if_neg (show ¬((c::t).length≤most∧t.all p=true) from fun g=>h g.2)]
   split
   · rw [ofF_some,if_neg (by omega)]
   · rfl
theorem quoted_no {c:UInt8} {t:List UInt8} (h:c≠39):quotedR (c::t)=false:=by
 unfold quotedR;simp [h]
theorem kindR_is (s:List UInt8):kindR s=kindOf s:=by
  match s with
  | []=>rfl
  | c ::t=>
    rw [kindOf_cons,kindR_cons,next_cons]
    by_cases h1:small c=true
    · obtain ⟨g1,g2,g3,g4,g5,g6⟩:=cls1 c h1
      rw [if_pos h1,of_word]
      by_cases hh:(c::t).length≤12∧t.all inName=true
      · rw [if_pos ⟨hh.1,h1,hh.2⟩,if_pos hh]
      · rw [if_neg (fun g=>hh ⟨g.1,g.2.2⟩),if_neg hh,if_neg (by simp [g1]),if_neg (by simp [g2]),if_neg (by rw [quoted_no g3];decide),if_neg (fun g=>g4 g.1),if_neg (by rw [sign_sg g6];decide)]
    rw [if_neg (fun g=>h1 g.2.1),if_neg h1]
    by_cases h2:cap c=true
    · obtain ⟨g1,g2,g3,g4,g5,g6⟩:=cls2 c h2
      rw [if_pos h2,of_word]
      by_cases hh:(c::t).length≤16∧t.all inKey=true
      · rw [if_pos ⟨hh.1,h2,hh.2⟩,if_pos hh]
      · rw [if_neg (fun g=>hh ⟨g.1,g.2.2⟩),if_neg hh,if_neg (by simp [g2]),if_neg (by rw [quoted_no g3];decide),if_neg (fun g=>g4 g.1),if_neg (by rw [sign_sg g6];decide)]
    rw [if_neg (fun g=>h2 g.2.1),if_neg h2]
    by_cases h3:dig c=true
    · obtain ⟨g1,g2,g3,g4,g6⟩:=cls3 c h3
      by_cases h48:c=48
      · subst h48
        rw [if_pos rfl]
        by_cases ht:t= []
        · subst ht
          rw [if_pos ⟨by simp,by simp [h3], .inl rfl⟩]
          rfl
        · rw [if_neg (fun g=>by rcases g.2.2 with e|e<;>first|exact e rfl|(injection e with _ e;exact ht e)),if_neg (by rw [quoted_no g3];decide),if_neg (fun g=>g4 g.1),if_neg (by rw [sign_sg g6];decide)]
          have:t.length≠0:=fun e=>ht (List.length_eq_zero_iff.1 e)
          split
          · rw [ofF_some,if_neg (by simp;omega)]
          · rfl
      · rw [if_neg h48,if_pos h3,of_word]
        by_cases hh:(c::t).length≤19∧t.all dig=true
        · rw [if_pos ⟨hh.1,by rw [List.all_cons,h3,hh.2];rfl, .inr h48⟩,if_pos hh]
        · rw [if_neg (fun g=>hh ⟨g.1,by have:=g.2.1;rw [List.all_cons,h3,Bool.true_and] at this;exact this⟩),if_neg hh,if_neg (by rw [quoted_no g3];decide),if_neg (fun g=>g4 g.1),if_neg (by rw [sign_sg g6];decide)]
    have h48:c≠48:=fun e=>h3 (by rw [e];rfl)
    rw [if_neg (fun g=>h3 (by have:=g.2.1;rw [List.all_cons,Bool.and_eq_true] at this;exact this.1)),if_neg h48,if_neg h3]
    by_cases h4:c=39
    · subst h4
      rw [if_pos rfl]
      have hq:quotedR (39::t)=true↔quo t=some t.length:=by
        rw [quo_whole]
        unfold quotedR
        simp [and_assoc]
      by_cases hh:quo t=some t.length
      · rw [if_pos (hq.2 hh),hh]
        show 4=ofF _ (some (4,t.length+1))
        rw [ofF_some,if_pos (by simp)]
      · rw [if_neg (fun g=>hh (hq.1 g)),if_neg (fun g=>absurd g.1 (by decide)),if_neg (by rw [sign_sg (by decide)];decide)]
        cases e:quo t with
        |none=>rfl
        | some n=>
          show 0=ofF _ (some (4,n+1))
          rw [ofF_some,if_neg (fun g=>hh (by rw [e];congr 1;simpa using g))]
    rw [if_neg (by rw [quoted_no h4];decide),if_neg h4]
    by_cases h5:c=36
    · subst h5
      rw [if_pos rfl]
      match t with
      | []=>rfl
      | [d]=>
        rw [param_cons,show isPar [d]=par d from rfl]
        cases hp:par d
        · rw [if_neg (fun g=>absurd g.2 (by decide)),if_neg (by rw [sign_sg (by decide)];decide),if_neg (fun g=>absurd g.1 (by decide))]
          rfl
        · rw [if_pos ⟨rfl,rfl⟩,if_pos ⟨rfl,rfl⟩]
          rfl
      | d::e::t=>
        rw [param_cons,show isPar (d::e::t)=false from rfl,if_neg (fun g=>absurd g.2 (by decide)),if_neg (by rw [sign_sg (by decide)];decide)]
        split
        · rw [ofF_some,if_neg (by simp)]
        · rfl
    rw [if_neg (fun g=>h5 g.1),if_neg h5]
    match t with
    | []=>
      rw [sign_nil,show signR [c]=single c from rfl]
      cases hs:single c<;>rfl
    | [d]=>
      rw [sign_cons,show signR [c,d]=two c d from rfl]
      cases h2:two c d
      · cases hs:single c<;>rfl
      · rfl
    | d ::e::t=>
      rw [sign_cons,show signR (c::d::e::t)=false from rfl,if_neg (by decide)]
      cases h2:two c d
      · cases hs:single c
        · rfl
        · rw [if_neg (by decide),if_pos rfl,ofF_some,if_neg (by simp)]
      · rw [if_pos rfl,ofF_some,if_neg (by simp)]
end Go.Proofs.YtiaomhdmllhmmaaGreatDoor.Lx
namespace Go.Proofs.YtiaomhdmllhmmaaGreatDoor.Right
open Go.RowKit Mem
set_option linter.unusedVariables false
theorem pl_take {s:ByteArray} {k:Nat} (h:k<s.size):pl (s.data.toList.take (k+1))=(pl (s.data.toList.take k) && okB s[k]):=by
 rw [take_snoc s k h];simp [pl,okB]
theorem pl_bad {s:ByteArray} {k:Nat} (h:k<s.size) (hb:okB s[k]=false):pl s.data.toList=false:=by
 unfold pl
 rw [List.all_eq_false]
 refine ⟨s[k],?_,by rw [hb];decide⟩
 have:=drop_byte s k h
 exact List.mem_of_mem_drop (i:=k) (by rw [this];simp)
set_option maxHeartbeats 400000 in
theorem plain_any (s:ByteArray) (hs:s.size≤maxLen) (w:World):Calls Tryz.prog 246 #[.string s] w fun e w' =>e= .returned (.bool (pl s.data.toList))∧w=w' :=by
  unfold maxLen at hs
  go_enter Tryz.func246,Tryz.ntmps246
  go_wp2
  go_loop [6] (fun i=>∃k:Nat,k≤s.size∧i= .int .i64 (k:Int)∧pl (s.data.toList.take k)=true) (fun i=>s.size - (intOf i).toNat)
  case atStart=>exact ⟨0,by omega,rfl,rfl⟩
  case round=>
    obtain ⟨k,hk,rfl,ha⟩:=hrel
    have HA:=Lib.hid ha
    clear ha
    by_cases hlt:k<s.size
    · by_cases h1:(s[k].toNat:Int)<32
      · have HB:=Lib.hid (pl_bad hlt (show okB s[k]=false by unfold okB;rw [decide_eq_true h1];rfl))
        go_wp2
        go_ret
        exact ⟨rb HB.out.symm,rfl⟩
      · have t1:decide ((s[k].toNat:Int)<32)=false:=decide_eq_false h1
        by_cases h2:126<(s[k].toNat:Int)
        · have HB:=Lib.hid (pl_bad hlt (show okB s[k]=false by unfold okB;rw [decide_eq_true h2,Bool.or_true];rfl))
          go_wp2
          go_ret
          exact ⟨rb HB.out.symm,rfl⟩
        · have t2:decide (126<(s[k].toNat:Int))=false:=decide_eq_false h2
          have HS:=Lib.hid (show pl (s.data.toList.take (k+1))=true by rw [pl_take hlt,HA.out];unfold okB;rw [t1,t2];rfl)
          go_wp2
          go_round
          case rel=>exact ⟨k+1,by omega,by go_num,HS.out⟩
          case measure=>simp [intOf];omega
    · have HY:=Lib.hid (show pl s.data.toList=true by rw [←take_all s,show s.size=k by omega];exact HA.out)
      go_wp2
      go_ret
      exact ⟨rb HY.out.symm,rfl⟩
set_option maxHeartbeats 1000000 in
theorem right_any (k n:Int) (s:ByteArray) (w:World) (hs:s.size≤maxLen):
    Calls Tryz.prog 250 #[.agg #[.int .i64 k, .int .i64 n, .string s]] w fun e w' =>e= .returned (.bool (okV k n s.data.toList))∧Below w.heap.size w w' :=by
  by_cases h0:k=0
  · subst h0
    by_cases hn:n=0
    · subst hn
      rcases empty_or s with rfl|⟨he,t⟩
      · go_enter Tryz.func250,Tryz.ntmps250
        go_wp2
        go_ret
        exact ⟨rfl,al (Below.refl _ _) _⟩
      · have H:=Lib.hid (show okV 0 0 s.data.toList=false by rw [ok_0,decide_eq_false he];rfl)
        clear he
        go_enter Tryz.func250,Tryz.ntmps250
        go_wp2
        go_ret
        exact ⟨rb H.out.symm,al (Below.refl _ _) _⟩
    · have t:=beq_no hn
      have H:=Lib.hid (show okV 0 n s.data.toList=false by rw [ok_0,decide_eq_false hn];rfl)
      clear hn
      go_enter Tryz.func250,Tryz.ntmps250
      go_wp2
      go_ret
      exact ⟨rb H.out.symm,al (Below.refl _ _) _⟩
  by_cases h1:k=1
  · subst h1
    rcases empty_or s with rfl|⟨he,t⟩
    · go_enter Tryz.func250,Tryz.ntmps250
      go_wp2
      go_ret
      exact ⟨rfl,al (Below.refl _ _) _⟩
    · have H:=Lib.hid (show okV 1 n s.data.toList=false by rw [ok_1,decide_eq_false he])
      clear he
      go_enter Tryz.func250,Tryz.ntmps250
      go_wp2
      go_ret
      exact ⟨rb H.out.symm,al (Below.refl _ _) _⟩
  by_cases h2:k=2
  · subst h2
    by_cases hn:n=0
    · subst hn
      rcases empty_or s with rfl|⟨he,t⟩
      · go_enter Tryz.func250,Tryz.ntmps250
        go_wp2
        go_ret
        exact ⟨rfl,al (Below.refl _ _) _⟩
      · have H:=Lib.hid (show okV 2 0 s.data.toList=false by rw [ok_2,decide_eq_false he,Bool.and_false])
        clear he
        go_enter Tryz.func250,Tryz.ntmps250
        go_wp2
        go_ret
        exact ⟨rb H.out.symm,al (Below.refl _ _) _⟩
    by_cases hn1:n=1
    · subst hn1
      rcases empty_or s with rfl|⟨he,t⟩
      · go_enter Tryz.func250,Tryz.ntmps250
        go_wp2
        go_ret
        exact ⟨rfl,al (Below.refl _ _) _⟩
      · have H:=Lib.hid (show okV 2 1 s.data.toList=false by rw [ok_2,decide_eq_false he,Bool.and_false])
        clear he
        go_enter Tryz.func250,Tryz.ntmps250
        go_wp2
        go_ret
        exact ⟨rb H.out.symm,al (Below.refl _ _) _⟩
    · have t:=beq_no hn
      have t1:=beq_no hn1
      have H:=Lib.hid (show okV 2 n s.data.toList=false by rw [ok_2,decide_eq_false hn,decide_eq_false hn1];rfl)
      clear hn hn1
      go_enter Tryz.func250,Tryz.ntmps250
      go_wp2
      go_ret
      exact ⟨rb H.out.symm,al (Below.refl _ _) _⟩
  by_cases h3:k=3
  · subst h3
    have hsz:s.data.toList.length=s.size:=by rw [Array.length_toList];rfl
    by_cases hn:n=0
    · subst hn
      by_cases hl:s.size≤32
      · have t:decide ((s.size:Int)≤32)=true:=decide_eq_true (by omega)
        have H:=Lib.hid (show okV 3 0 s.data.toList=pl s.data.toList by rw [ok_3,hsz,decide_eq_true hl];rfl)
        clear hl hsz
        go_enter Tryz.func250,Tryz.ntmps250
        go_wp2_with (go_at_call 246;(with_reducible refine (plain_any s hs _).mono ?_);rintro e w' ⟨rfl,rfl⟩)
        go_ret
        exact ⟨rb H.out.symm,al (Below.refl _ _) _⟩
      · have t:decide ((s.size:Int)≤32)=false:=decide_eq_false (by omega)
        have H:=Lib.hid (show okV 3 0 s.data.toList=false by rw [ok_3,hsz,decide_eq_false hl,Bool.and_false];rfl)
        clear hl hsz
        go_enter Tryz.func250,Tryz.ntmps250
        go_wp2
        go_ret
        exact ⟨rb H.out.symm,al (Below.refl _ _) _⟩
    · have t:=beq_no hn
      have H:=Lib.hid (show okV 3 n s.data.toList=false by rw [ok_3,decide_eq_false hn];rfl)
      clear hn hsz
      go_enter Tryz.func250,Tryz.ntmps250
      go_wp2
      go_ret
      exact ⟨rb H.out.symm,al (Below.refl _ _) _⟩
  · have k0:=beq_no h0
    have k1:=beq_no h1
    have k2:=beq_no h2
    have k3:=beq_no h3
    have H:=Lib.hid (ok_no (n:=n) (l:=s.data.toList) h0 h1 h2 h3)
    clear h0 h1 h2 h3
    go_enter Tryz.func250,Tryz.ntmps250
    go_wp2
    go_ret
    exact ⟨rb H.out.symm,al (Below.refl _ _) _⟩
end Go.Proofs.YtiaomhdmllhmmaaGreatDoor.Right
namespace Go.Proofs.YtiaomhdmllhmmaaGreatDoor.Mem
open Go.RowKit
set_option linter.unusedVariables false
theorem blk_lt {w:World} {g:Nat} {o:Obj} (h:w.heap[g]?=some o):g<w.heap.size:=by
 rcases Nat.lt_or_ge g w.heap.size with h2|h2
 · exact h2
 · rw [Array.getElem?_eq_none h2] at h;cases h
end Go.Proofs.YtiaomhdmllhmmaaGreatDoor.Mem
namespace Go.Proofs.YtiaomhdmllhmmaaGreatDoor.Mem
open Go.RowKit
set_option linter.unusedVariables false
theorem blk_set {w:World} {g:Nat} {cs:Array Value} {t:TypeId} (h:w.heap[g]?=some (.cells cs t (0,0))) (i:Nat) (v:Value):(w.setCell ⟨g,i,none⟩ v).heap[g]?=some (.cells (cs.setIfInBounds i v) t (0,0)):=by
 show (w.heap.modify g _)[g]?=_
 rw [Array.getElem?_modify,h]
 simp
def Cel (W:World) (B:Nat) (t:TypeId) (cs:Array Value):Prop:=W.heap[B]?=some (.cells cs t (0,0))
theorem Cel.new (W:World) (t:TypeId) (cs:Array Value) {B:Nat} (hB:W.heap.size=B):Cel (W.alloc (.cells cs t)) B t cs:=by subst hB;exact heap_alloc_new W _
theorem Cel.lt {W:World} {B:Nat} {t:TypeId} {cs:Array Value} (h:Cel W B t cs):B<W.heap.size:=blk_lt h
theorem Cel.alloc {W:World} {B:Nat} {t:TypeId} {cs:Array Value} (h:Cel W B t cs) (o:Obj):Cel (W.alloc o) B t cs:=(Below.heap_alloc W o B (blk_lt h)).trans h
theorem Cel.below {W W' :World} {B:Nat} {t:TypeId} {cs:Array Value} (h:Cel W B t cs) (hb:Below W.heap.size W W'):Cel W' B t cs:=(hb.block B (blk_lt h)).trans h
theorem Cel.at_ {W:World} {B:Nat} {t:TypeId} {cs:Array Value} (h:Cel W B t cs) (i:Nat):W.cell? ⟨B,i,none⟩=cs[i]?:=cell_of_row W B i cs t _ h
theorem Cel.open_ {W:World} {B:Nat} {t:TypeId} {cs:Array Value} (h:Cel W B t cs) (i:Nat):W.frozen? ⟨B,i,none⟩=false:=by
 have h' :W.heap[B]?=some (.cells cs t (0,0)):=h
 simp only [World.frozen?,h']
 simp
theorem Cel.set {W:World} {B:Nat} {t:TypeId} {cs:Array Value} (h:Cel W B t cs) (i:Nat) (v:Value):Cel (W.setCell ⟨B,i,none⟩ v) B t (cs.setIfInBounds i v):=blk_set h i v
theorem Cel.other {W:World} {B b:Nat} {t:TypeId} {cs:Array Value} (h:Cel W B t cs) (hb:b≠B) (i:Nat) (v:Value):Cel (W.setCell ⟨b,i,none⟩ v) B t cs:=by
 show (W.heap.modify b _)[B]?=_
 rw [Array.getElem?_modify,if_neg hb];exact h
end Go.Proofs.YtiaomhdmllhmmaaGreatDoor.Mem
namespace Go.Proofs.YtiaomhdmllhmmaaGreatDoor.Ep
open Go.RowKit Mem Right Lx
set_option linter.unusedVariables false
theorem name_whole (l:List UInt8):decide (lng l=(1,l.length))=decide (kindOf l=1):=by
  by_cases h:kindOf l=1
  · rw [decide_eq_true h,decide_eq_true (kind_lng h (by omega))]
  · rw [decide_eq_false h]
    refine decide_eq_false fun g=>h ?_
    match l with
    | []=>simp [lng] at g
    | c ::t=>
      rw [←kindR_is,kindR_cons]
      by_cases h1:small c=true
      · simp only [lng,if_pos h1] at g
        injection g with _ g
        have hr:=run_le inName t
        rw [List.length_cons] at g
        rw [if_pos ⟨by rw [List.length_cons];omega,h1,run_whole.1 (by omega)⟩]
      · exfalso
        simp only [lng,if_neg h1] at g
        have hn:∀k n:Nat,2≤k→orN k n≠(1,(c::t).length):=fun k n hk e=>by
          unfold orN at e
          split at e
          · injection e with e _;omega
          · injection e with e _;omega
        repeat' split at g
        all_goals first|(injection g with g _;omega)|exact hn _ _ (by omega) g
theorem isToken_any (k:Nat) (s:ByteArray) (b:Bool) (hs:s.size≤1000000) (hb:decide (lng s.data.toList=(k,s.size))=b) (w:World) (h:Signs w):
    Calls Tryz.prog 199 #[.int .i64 (k:Int), .string s] w fun e w' =>e= .returned (.bool b)∧w=w' :=by
  obtain ⟨k',n,hl⟩:∃k' n,lng s.data.toList=(k',n):=⟨_,_,rfl⟩
  rw [hl] at hb
  have HH:=Lib.hid (show ∀W,Signs W→Calls Tryz.prog 46 #[.string s] W fun e w' =>e= .returned (.tuple #[.int .i64 (k' :Int), .int .i64 (n:Int)])∧W=w' from fun W hW=>by
    have:=longest_any s hs W hW
    rw [hl] at this
    exact this)
  have HS:=Lib.hid h
  clear h hl
  by_cases hk:k' =k
  · subst hk
    have tk:((k' :Int)==(k' :Int))=true:=by simp
    have H:=Lib.hid (show ((n:Int)==(s.size:Int))=b by
      rw [←hb]
      by_cases e:n=s.size
      · subst e;simp
      · rw [beq_no (by omega),eq_comm]
        exact decide_eq_false fun g=>e (by injection g))
    clear hb
    go_enter Tryz.func199,Tryz.ntmps199
    go_wp2_with (go_at_call 46;refine (HH.out _ HS.out).mono ?_;rintro e w' ⟨rfl,rfl⟩)
    go_ret
    exact ⟨rb H.out,rfl⟩
  · have tk:((k' :Int)==(k:Int))=false:=beq_no (by omega)
    have H:=Lib.hid (show false=b by rw [←hb,eq_comm];exact decide_eq_false fun g=>hk (by injection g))
    clear hb hk
    go_enter Tryz.func199,Tryz.ntmps199
    go_wp2_with (go_at_call 46;refine (HH.out _ HS.out).mono ?_;rintro e w' ⟨rfl,rfl⟩)
    go_ret
    exact ⟨rb H.out,rfl⟩
theorem isName_any (s:ByteArray) (hs:s.size≤1000000) (w:World) (h:Signs w):
   Calls Tryz.prog 187 #[.string s] w fun e w' =>e= .returned (.bool (decide (kindOf s.data.toList=1)))∧w=w' :=by
 have HH:=Lib.hid (show Calls Tryz.prog 199 #[.int .i64 1, .string s] w fun e w' =>e= .returned (.bool (decide (kindOf s.data.toList=1)))∧w=w' from isToken_any 1 s (decide (kindOf s.data.toList=1)) hs (by rw [←name_whole,Array.length_toList];rfl) w h)
 clear h
 go_enter Tryz.func187,Tryz.ntmps187
 go_wp2_with (go_at_call 199;(with_reducible refine HH.out.mono ?_);rintro e w' ⟨rfl,rfl⟩)
 go_ret
 exact ⟨rfl,rfl⟩
def inB (n a b:Int):Bool:=decide (a≤n) && decide (n≤b)
theorem within_any (n a b:Int) (w:World):Calls Tryz.prog 224 #[.int .i64 n, .int .i64 a, .int .i64 b] w fun e w' =>e= .returned (.bool (inB n a b))∧w=w' :=by
 by_cases h:a≤n
 · have t:decide (a≤n)=true:=decide_eq_true h
   have H:=Lib.hid (show inB n a b=decide (n≤b) by unfold inB;rw [t,Bool.true_and])
   clear h
   go_enter Tryz.func224,Tryz.ntmps224
   go_wp2
   go_ret
   exact ⟨rb H.out.symm,rfl⟩
 · have t:decide (a≤n)=false:=decide_eq_false h
   have H:=Lib.hid (show inB n a b=false by unfold inB;rw [t,Bool.false_and])
   clear h
   go_enter Tryz.func224,Tryz.ntmps224
   go_wp2
   go_ret
   exact ⟨rb H.out.symm,rfl⟩
def takesB (nm:List UInt8) (n:Nat):Bool:=decide ((nm=nCoal∧1≤n∧n≤4) ∨ ((nm=nLen ∨ nm=nAbs)∧n=1))
theorem txt_eq {l m:List UInt8}:((txt l).toList==m)=decide (l=m):=by
 rw [Lib.toList_data,txt_back]
 by_cases h:l=m
 · subst h;simp
 · rw [decide_eq_false h,beq_eq_false_iff_ne]
   exact h
set_option maxHeartbeats 1000000 in
theorem takes_any (nm:List UInt8) (n:Nat) (w:World):Calls Tryz.prog 225 #[.string (txt nm), .int .i64 (n:Int)] w fun e w' =>e= .returned (.bool (takesB nm n))∧w=w' :=by
  have q1:((txt nm).toList== [99,111,97,108,101,115,99,101])=decide (nm=nCoal):=txt_eq
  have q2:((txt nm).toList== [108,101,110,103,116,104])=decide (nm=nLen):=txt_eq
  have q3:((txt nm).toList== [97,98,115])=decide (nm=nAbs):=txt_eq
  obtain ⟨b,hb⟩:∃b,txt nm=b:=⟨_,rfl⟩
  rw [hb] at q1 q2 q3 ⊢
  clear hb
  by_cases h1:nm=nCoal
  · rw [decide_eq_true h1] at q1
    have H:=Lib.hid (show inB (n:Int) 1 4=takesB nm n by
      subst h1
      unfold takesB inB
      rw [←Bool.decide_and,decide_eq_decide]
      constructor
      · rintro ⟨a,b⟩;exact .inl ⟨rfl,by omega,by omega⟩
      · rintro (⟨_,a,b⟩|⟨a,_⟩)
        · omega
        · exact absurd a (by decide))
    clear h1 q2 q3
    go_enter Tryz.func225,Tryz.ntmps225
    go_wp2_with (go_at_call 224;(with_reducible refine (within_any _ _ _ _).mono ?_);rintro e w' ⟨rfl,rfl⟩)
    go_ret
    exact ⟨rb H.out,rfl⟩
  rw [decide_eq_false h1] at q1
  have H1:∀b:Bool,decide (nm=nLen ∨ nm=nAbs)=true→((n:Int)==1)=takesB nm n:=fun _ h=>by
    unfold takesB
    rw [decide_eq_true_eq] at h
    by_cases e:n=1
    · subst e;rw [decide_eq_true (.inr ⟨h,rfl⟩)];rfl
    · rw [beq_no (by omega),eq_comm]
      exact decide_eq_false fun g=>by
        rcases g with g|g
        · exact h1 g.1
        · exact e g.2
  by_cases h2:nm=nLen
  · rw [decide_eq_true h2] at q2
    have H:=Lib.hid (H1 true (decide_eq_true (.inl h2)))
    clear h1 h2 H1 q3
    go_enter Tryz.func225,Tryz.ntmps225
    go_wp2
    go_ret
    exact ⟨rb H.out,rfl⟩
  rw [decide_eq_false h2] at q2
  by_cases h3:nm=nAbs
  · rw [decide_eq_true h3] at q3
    have H:=Lib.hid (H1 true (decide_eq_true (.inr h3)))
    clear h1 h2 h3 H1
    go_enter Tryz.func225,Tryz.ntmps225
    go_wp2
    go_ret
    exact ⟨rb H.out,rfl⟩
  rw [decide_eq_false h3] at q3
  have H:=Lib.hid (show false=takesB nm n by
    unfold takesB
    rw [eq_comm]
    exact decide_eq_false fun g=>by
      rcases g with g|g
      · exact h1 g.1
      · exact g.1.elim h2 h3)
  clear h1 h2 h3 H1
  go_enter Tryz.func225,Tryz.ntmps225
  go_wp2
  go_ret
  exact ⟨rb H.out,rfl⟩
def litB (k n:Int) (s:List UInt8):Bool:=Val.okV k n s && decide (¬(k=1∧n<0))
set_option maxHeartbeats 1000000 in
theorem isLit_any (k n:Int) (s:List UInt8) (w:World) (hs:s.length≤maxLen):
   Calls Tryz.prog 223 #[.agg #[.int .i64 k, .int .i64 n, .string (txt s)]] w fun e w' =>e= .returned (.bool (litB k n s))∧Below w.heap.size w w' :=by
 have HR:=Lib.hid (show ∀W,Calls Tryz.prog 250 #[.agg #[.int .i64 k, .int .i64 n, .string (txt s)]] W fun e w' =>e= .returned (.bool (Val.okV k n s))∧Below W.heap.size W w' from fun W=>right_any k n (txt s) W hs)
 have HB0:=Lib.hid (al (Below.refl w.heap.size w) (.cells #[.int .i64 k, .int .i64 n, .string (txt s)] 27))
 have hc:=(Cel.new w 27 #[.int .i64 k, .int .i64 n, .string (txt s)] rfl)
 have HC:=Lib.hid hc
 cases hv:Val.okV k n s with
 | false=>
   rw [hv] at HR
   have H:=Lib.hid (show litB k n s=false by unfold litB;rw [hv];rfl)
   clear hc hv
   go_enter Tryz.func223,Tryz.ntmps223
   go_wp2_with (go_at_call 250;(with_reducible refine (HR.out _).mono ?_);rintro e w2 ⟨rfl,hb2⟩;have HB2:=Lib.hid hb2;have d0:=(HC.out.below hb2).at_ 0;have d1:=(HC.out.below hb2).at_ 1;clear hb2)
   go_ret
   exact ⟨rb H.out.symm,Mem.on HB0.out HB2.out⟩
 | true=>
   rw [hv] at HR
   by_cases hk:k=1
   · subst hk
     have H:=Lib.hid (show litB 1 n s=decide (0≤n) by unfold litB;rw [hv,Bool.true_and,decide_eq_decide];omega)
     have tk:((1:Int) !=1)=false:=by simp
     clear hc hv
     go_enter Tryz.func223,Tryz.ntmps223
     go_wp2_with (go_at_call 250;(with_reducible refine (HR.out _).mono ?_);rintro e w2 ⟨rfl,hb2⟩;have HB2:=Lib.hid hb2;have d0:=(HC.out.below hb2).at_ 0;have d1:=(HC.out.below hb2).at_ 1;clear hb2)
     go_ret
     exact ⟨rb H.out.symm,Mem.on HB0.out HB2.out⟩
   · have H:=Lib.hid (show litB k n s=true by unfold litB;rw [hv,Bool.true_and];exact decide_eq_true fun g=>hk g.1)
     have tk:(k !=1)=true:=bne_yes hk
     clear hc hv
     go_enter Tryz.func223,Tryz.ntmps223
     go_wp2_with (go_at_call 250;(with_reducible refine (HR.out _).mono ?_);rintro e w2 ⟨rfl,hb2⟩;have HB2:=Lib.hid hb2;have d0:=(HC.out.below hb2).at_ 0;have d1:=(HC.out.below hb2).at_ 1;clear hb2)
     go_ret
     exact ⟨rb H.out.symm,Mem.on HB0.out HB2.out⟩
end Go.Proofs.YtiaomhdmllhmmaaGreatDoor.Ep
namespace Go.Proofs.YtiaomhdmllhmmaaGreatDoor.Ep
open Go.RowKit Mem Right Lx
set_option linter.unusedVariables false
def zB (k n:Int) (s:List UInt8):Bool:=decide (k=0∧n=0∧s= [])
def eB (l:List UInt8):Bool:=decide (l= [])
section
variable {slots:Bool} {o vk vn:Int} {vs nm:List UInt8} {n:Nat}
theorem n_is (a:Nat):((n:Int)==(a:Int))=decide (n=a):=by
 by_cases h:n=a
 · subst h;simp
 · rw [beq_no (by omega),decide_eq_false h]
theorem o_is:(o==0)=decide (o=0):=by
 by_cases h:o=0
 · subst h;simp
 · rw [beq_no h,decide_eq_false h]
theorem head_1:headB slots 1 o vk vn vs nm n=((o==0) && (eB nm && (((n:Int)==(0:Nat)) && litB vk vn vs))):=by
 rw [n_is,o_is]
 unfold headB litB eB
 by_cases h1:o=0<;>by_cases h2:nm= []<;>by_cases h3:n=0<;>simp [h1,h2,h3]
theorem head_2:headB slots 2 o vk vn vs nm n=((o==0) && (zB vk vn vs && (((n:Int)==(0:Nat)) && decide (kindOf nm=1)))):=by
 rw [n_is,o_is]
 unfold headB zB
 by_cases h1:o=0<;>by_cases h2:vk=0∧vn=0∧vs= []<;>by_cases h3:n=0<;>simp [h1,h2,h3]
theorem head_3:headB slots 3 o vk vn vs nm n=(zB vk vn vs && (eB nm && (((n:Int)==(0:Nat)) && inB o 1 6))):=by
 rw [n_is]
 unfold headB zB eB inB
 by_cases h1:nm= []<;>by_cases h2:vk=0∧vn=0∧vs= []<;>by_cases h3:n=0<;>simp [h1,h2,h3]
theorem head_4:headB slots 4 o vk vn vs nm n=(zB vk vn vs && (eB nm && (((n:Int)==(1:Nat)) && inB o 1 4))):=by
 rw [n_is]
 unfold headB zB eB inB
 by_cases h1:nm= []<;>by_cases h2:vk=0∧vn=0∧vs= []<;>by_cases h3:n=1<;>simp [h1,h2,h3]
theorem head_5:headB slots 5 o vk vn vs nm n=(zB vk vn vs && (eB nm && (((n:Int)==(2:Nat)) && inB o 1 14))):=by
 rw [n_is]
 unfold headB zB eB inB
 by_cases h1:nm= []<;>by_cases h2:vk=0∧vn=0∧vs= []<;>by_cases h3:n=2<;>simp [h1,h2,h3]
theorem in_nat (a b:Nat):inB (n:Int) a b=decide (a≤n∧n≤b):=by
 unfold inB
 rw [←Bool.decide_and,decide_eq_decide]
 omega
theorem head_6:headB slots 6 o vk vn vs nm n=((o==0) && (zB vk vn vs && (eB nm && inB (n:Int) (2:Nat) (9:Nat)))):=by
 rw [in_nat,o_is]
 unfold headB zB eB
 by_cases h1:nm= []<;>by_cases h2:vk=0∧vn=0∧vs= []<;>by_cases h3:o=0<;>simp [h1,h2,h3]
theorem head_7:headB slots 7 o vk vn vs nm n=((o==0) && (zB vk vn vs && takesB nm n)):=by
 rw [o_is]
 unfold headB zB takesB
 by_cases h2:vk=0∧vn=0∧vs= []<;>by_cases h3:o=0<;>simp [h2,h3]
theorem head_8:headB slots 8 o vk vn vs nm n=(slots && (zB vk vn vs && (eB nm && (((n:Int)==(0:Nat)) && inB o 0 5)))):=by
 rw [n_is]
 unfold headB zB eB inB
 by_cases h1:nm= []<;>by_cases h2:vk=0∧vn=0∧vs= []<;>by_cases h3:n=0<;>cases slots<;>simp [h1,h2,h3]
theorem head_no {k:Int} (h1:k≠1) (h2:k≠2) (h3:k≠3) (h4:k≠4) (h5:k≠5) (h6:k≠6) (h7:k≠7) (h8:k≠8):headB slots k o vk vn vs nm n=false:=by
 unfold headB
 rw [if_neg h1,if_neg h2,if_neg h3,if_neg h4,if_neg h5,if_neg h6,if_neg h7,if_neg h8]
 repeat' split
 all_goals rfl
end
theorem quiet_eqz {C:World→Prop} {K:Act→Prop} {op:Oper} {a:Act} {k n:Int} {s:List UInt8} {z:Bool} (x y:Operand) (ho:op.op= .binOp .eql 27 x y 27)
   (hx:a.eval x= .agg #[.int .i64 k, .int .i64 n, .string (txt s)]) (hy:a.eval y= .agg #[.int .i64 0, .int .i64 0, .string ⟨#[]⟩]) (hz:zB k n s=z)
   (hk:K (a.put op.dst (.bool z))):op.quiet Tryz.prog a C K:=by
 subst hz
 refine ⟨_,fun w hw=>?_,hk⟩
 unfold Oper.quietAt execOp
 simp only [ho,hx,hy]
 go_simp
 have e3:(txt s).toList=s:=by rw [Lib.toList_data];rfl
 unfold zB
 by_cases e1:k=0
 · by_cases e2:n=0
   · by_cases h3:s= []
     · subst h3;simp [e1,e2,e3]
     · simp [e1,e2,e3,h3]
   · simp [e1,e2]
 · simp [e1]
end Go.Proofs.YtiaomhdmllhmmaaGreatDoor.Ep
