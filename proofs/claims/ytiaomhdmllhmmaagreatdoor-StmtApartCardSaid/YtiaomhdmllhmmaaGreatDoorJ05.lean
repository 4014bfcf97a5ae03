/- A statement comes back from its tokens. Each kind of statement comes back from its tokens. -/
import Derived.Test.YtiaomhdmllhmmaaGreatDoorJ04
namespace Go.Proofs.YtiaomhdmllhmmaaGreatDoor.Sm
open Lx Ep
set_option linter.unusedVariables false
def Any (t:Tt):Prop:=True
section
variable {L:List Tt}
theorem tt_K (l:Bs) (r:List Pc):tt (K l::r)=key l::tt r:=rfl
theorem tt_N (l:Bs) (r:List Pc):tt (N l::r)=(1,l)::tt r:=rfl
theorem tt_C (c:UInt8) (r:List Pc):tt (C c::r)=sgn6 c::tt r:=rfl
theorem tt_brk (l:List Pc):tt (brk l)=sgn6 40::(tt l++ [sgn6 41]):=by unfold brk;rw [tt_C,tt_app];rfl
theorem rd_name1 (nm:Bs):Rd L [(1,nm)] (fun _ p=>nameP L p) nm Any:=fun p hs _=>(Ev.pure _).congr fun n=>by
 show nameP L p=_
 unfold nameP
 rw [hs.head,if_pos rfl];rfl
theorem rd_names {l:List Bs} {most:Nat} (h0:1≤l.length) (hm:l.length≤most):Rd L (tt (nmsP l)) (fun _ p=>listOf L (nameP L) most p) l (fun t=>isW t [44]=false):=
 (Rd.list (item:=fun _=>nameP L) (P:=fun x=> [N x]) (A:=Any) trivial h0 hm fun x _=>rd_name1 x).weak fun t ht=>⟨trivial,ht⟩
theorem rd_shut {α:Type} {x:α} {A:Tt→Prop}:Rd L [sgn6 41] (fun _ p=>(mustP L [41] p).bind fun _ q=> .ok x q) x A:=Rd.must (g:=fun _ q=> .ok x q) (by decide) Rd.pure
theorem rd_inside {l:List Bs} {least most:Nat} (h:okNs l least most) (h1:1≤least) {A:Tt→Prop}:Rd L (tt (brk (nmsP l))) (fun _ p=>insideP L most p) l A:=by
 rw [tt_brk]
 refine Rd.must (g:=fun _ q=>(listOf L (nameP L) most q).bind fun l q=>(mustP L [41] q).bind fun _ q=> .ok l q) (by decide) ?_
 exact Rd.bind (g:=fun _ l q=>(mustP L [41] q).bind fun _ q=> .ok l q) (rd_names (Nat.le_trans h1 h.1) h.2.1) rd_shut fun t ht=>by rw [show t=sgn6 41 from ht];decide
theorem rd_anys {l:List Ex} {most:Nat} (h:okEs l most):Rd L (tt (exsP l)) (fun n p=>listOf L (anyP L n) most p) l (fun t=>stp 1 t∧isW t [44]=false):=
 Rd.list (item:=anyP L) (stp_comma 1) h.1 h.2.1 fun x hx=>Rd.any (h.2.2 x hx)
theorem rd_exsIn {l:List Ex} {most:Nat} (h:okEs l most) {A:Tt→Prop}:Rd L (tt (brk (exsP l))) (exsIn L most) l A:=by
 rw [tt_brk]
 refine Rd.must (g:=fun n q=>(listOf L (anyP L n) most q).bind fun l q=>(mustP L [41] q).bind fun _ q=> .ok l q) (by decide) ?_
 exact Rd.bind (g:=fun _ l q=>(mustP L [41] q).bind fun _ q=> .ok l q) (rd_anys h) rd_shut fun t ht=>by rw [show t=sgn6 41 from ht];exact ⟨stp_close 1,by decide⟩
theorem rd_ty {t:Int} (h:1≤t) (h' :t≤3) {A:Tt→Prop}:Rd L [key (tyW t)] (fun _ p=>tyP L p) t A:=by
 intro p hs _
 have hh:=hs.head
 refine (Ev.pure _).congr fun n=>?_
 have hc:t=1 ∨ t=2 ∨ t=3:=by omega
 show tyP L p=_
 unfold tyP
 rw [isT_is L hh,isT_is L hh,isT_is L hh]
 rcases hc with rfl|rfl|rfl<;>rfl
theorem rd_col {x:Co} (h:okCo x):Rd L (tt (coP x)) (fun _ p=>columnP L p) x (fun t=>isW t kNOT=false):=by
 obtain ⟨nm,ty,nn⟩:=x
 refine Rd.name (g:=fun _ x q=>(tyP L q).bind fun t q=>nnP L x t q) ?_
 refine Rd.bind (a:= [key (tyW ty)]) (A:=Any) (g:=fun _ t q=>nnP L nm t q) (rd_ty h.2.1 h.2.2) ?_ fun _ _=>trivial
 cases nn with
 |true=>exact Rd.yes (F:=fun _ q=>nn2 L nm ty q) (by decide) (Rd.must (g:=fun _ q=> .ok (Co.mk nm ty true) q) (by decide) Rd.pure)
 |false=>exact Rd.no (F:=fun _ q=>nn2 L nm ty q) (fun t ht=>ht) Rd.pure
def cnB (x:Cn):List Pc:=N x.nm::none::
 (if x.kind=1 then K kUNIQUE::none::brk (nmsP x.cols)
 else if x.kind=2 then K kCHECK::none::brk (pcs x.chk)
 else K kFOREIGN::none::K kKEY::none::(brk (nmsP x.cols)++(none::K kREFERENCES::none::N x.tbl::none::brk (nmsP x.refs))))
theorem rd_refs {A:Tt→Prop} (hA:∀t,A t→True):∀(l d:List Bs),d≠ []→Rd L (tt (rest (fun x=> [N x]) l)) (fun _ p=>refsP L l.length d p) (d++l) A
 | [],d,_=>by
   rw [List.append_nil]
   intro p _ _
   exact (Ev.pure _).congr fun n=>by show refsP L 0 d p=_;rw [refsP];rfl
 | a ::l,d,h0=>by
   have ih:=rd_refs (A:=A) hA l (d++ [a]) (by simp)
   rw [List.append_assoc] at ih
   have e:tt (rest (fun x=> [N x]) (a::l))=sgn6 44::(1,a)::tt (rest (fun x=> [N x]) l):=by
     show sgn6 44::tt (sep ((a::l).map fun x=> [N x]))=_
     rw [sep_cons];rfl
   rw [e]
   have:=Rd.must (L:=L) (t:=sgn6 44) (w:= [44]) (g:=fun _ q=>(nameP L q).bind fun x q=>refsP L l.length (d++ [x]) q) (by decide) (Rd.name (nm:=a) (g:=fun _ x q=>refsP L l.length (d++ [x]) q) ih)
   intro p hs hB
   refine (this p hs hB).congr fun n=>?_
   show refsP L (l.length+1) d p=_
   rw [refsP,if_neg h0]
theorem rd_cn {x:Cn} (h:OkCn x) {A:Tt→Prop}:Rd L (tt (cnB x)) (consP L) x A:=by
 cases h with
 | @unique nm cols hn hc=>
   have e:tt (cnB ⟨nm,1,cols,noEx, [], []⟩)=(1,nm)::key kUNIQUE::tt (brk (nmsP cols)):=by unfold cnB;rw [if_pos rfl];rfl
   rw [e]
   refine Rd.name (g:=fun n x q=>cons2 L x n q) ?_
   refine Rd.yes (F:=fun _ q=>uniqueP L nm q) (by decide) ?_
   have:=Rd.bind (L:=L) (b:= []) (B:=A) (g:=fun _ l q=> .ok (⟨nm,1,l,noEx, [], []⟩:Cn) q) (rd_inside (A:=Any) hc (Nat.le_refl _)) Rd.pure fun _ _=>trivial
   rw [List.append_nil] at this
   exact this
 | @check nm e hn he=>
   have e0:tt (cnB ⟨nm,2, [],e, [], []⟩)=(1,nm)::key kCHECK::tt (brk (pcs e)):=by unfold cnB;rw [if_neg (show ¬(2:Int)=1 by decide),if_pos rfl];rfl
   rw [e0]
   refine Rd.name (g:=fun n x q=>cons2 L x n q) ?_
   refine Rd.no (F:=fun _ q=>uniqueP L nm q) (fun t ht=>by rw [show t=key kCHECK from ht];decide) ?_
   refine Rd.yes (F:=fun n q=>checkP L nm n q) (by decide) ?_
   rw [tt_brk]
   refine Rd.must (g:=fun n q=>(anyP L n q).bind fun e q=>(mustP L [41] q).bind fun _ q=> .ok (Cn.mk nm 2 [] e [] []) q) (by decide) ?_
   exact Rd.bind (g:=fun _ e q=>(mustP L [41] q).bind fun _ q=> .ok (Cn.mk nm 2 [] e [] []) q) (Rd.any he) rd_shut fun t ht=>by rw [show t=sgn6 41 from ht];exact stp_close 1
 | @foreign nm t cols refs hn hc ht hr=>
   have e0:tt (cnB ⟨nm,3,cols,noEx,t,refs⟩)=(1,nm)::key kFOREIGN::key kKEY::(tt (brk (nmsP cols))++key kREFERENCES::(1,t)::tt (brk (nmsP refs))):=by
     unfold cnB;rw [if_neg (show ¬(3:Int)=1 by decide),if_neg (show ¬(3:Int)=2 by decide)]
     show (1,nm)::key kFOREIGN::key kKEY::tt (brk (nmsP cols)++_)=_
     rw [tt_app];rfl
   rw [e0]
   refine Rd.name (g:=fun n x q=>cons2 L x n q) ?_
   refine Rd.no (F:=fun _ q=>uniqueP L nm q) (fun t ht=>by rw [show t=key kFOREIGN from ht];decide) ?_
   refine Rd.no (F:=fun n q=>checkP L nm n q) (fun t ht=>by rw [show t=key kFOREIGN from ht];decide) ?_
   refine Rd.must (g:=fun _ q=>(mustP L kKEY q).bind fun _ q=>(insideP L 3 q).bind fun l q=>(mustP L kREFERENCES q).bind fun _ q=>(nameP L q).bind fun t q=>
     (mustP L [40] q).bind fun _ q=>(refsP L l.length [] q).bind fun r q=>(mustP L [41] q).bind fun _ q=> .ok (Cn.mk nm 3 l noEx t r) q) (by decide) ?_
   refine Rd.must (g:=fun _ q=>(insideP L 3 q).bind fun l q=>(mustP L kREFERENCES q).bind fun _ q=>(nameP L q).bind fun t q=>
     (mustP L [40] q).bind fun _ q=>(refsP L l.length [] q).bind fun r q=>(mustP L [41] q).bind fun _ q=> .ok (Cn.mk nm 3 l noEx t r) q) (by decide) ?_
   refine Rd.bind (A:=Any) (g:=fun _ l q=>(mustP L kREFERENCES q).bind fun _ q=>(nameP L q).bind fun t q=>
     (mustP L [40] q).bind fun _ q=>(refsP L l.length [] q).bind fun r q=>(mustP L [41] q).bind fun _ q=> .ok (Cn.mk nm 3 l noEx t r) q) (rd_inside hc (Nat.le_refl _)) ?_ fun _ _=>trivial
   refine Rd.must (g:=fun _ q=>(nameP L q).bind fun t q=>
     (mustP L [40] q).bind fun _ q=>(refsP L cols.length [] q).bind fun r q=>(mustP L [41] q).bind fun _ q=> .ok (Cn.mk nm 3 cols noEx t r) q) (by decide) ?_
   refine Rd.name (g:=fun _ t q=>(mustP L [40] q).bind fun _ q=>(refsP L cols.length [] q).bind fun r q=>(mustP L [41] q).bind fun _ q=> .ok (Cn.mk nm 3 cols noEx t r) q) ?_
   rw [tt_brk]
   refine Rd.must (g:=fun _ q=>(refsP L cols.length [] q).bind fun r q=>(mustP L [41] q).bind fun _ q=> .ok (Cn.mk nm 3 cols noEx t r) q) (by decide) ?_
   refine Rd.bind (A:=Any) (g:=fun _ r q=>(mustP L [41] q).bind fun _ q=> .ok (Cn.mk nm 3 cols noEx t r) q) ?_ rd_shut fun _ _=>trivial
   have hlen:refs.length=cols.length:=by have h1:=hr.1;have h2:=hr.2.1;omega
   cases refs with
   |nil=>have:=hc.1;simp at hlen;omega
   | cons a l=>
     rw [←hlen]
     have e:tt (nmsP (a::l))=(1,a)::tt (rest (fun x=> [N x]) l):=by unfold nmsP;rw [sep_cons];rfl
     rw [e]
     have:=Rd.name (L:=L) (nm:=a) (g:=fun _ x q=>refsP L l.length ([]++ [x]) q) (rd_refs (A:=Any) (fun _ _=>trivial) l [a] (by simp))
     intro p hs hB
     refine (this p hs hB).congr fun n=>?_
     show refsP L (l.length+1) [] p=_
     rw [refsP,if_pos rfl]
theorem no_rt {e:Ex} (h:Rt e):isNo e=false:=by cases h<;>rfl
theorem rd_where {e:Ex} (h:okWh e):Rd L (tt (whP e)) (whereP L) e (fun t=>stp 1 t∧isW t kWHERE=false):=by
 rcases h with rfl|h
 · exact Rd.no (F:=anyP L) (fun t ht=>ht.2) Rd.pure
 · unfold whP
   rw [no_rt h.1,if_neg (by simp)]
   exact Rd.yes (F:=anyP L) (by decide) ((Rd.any h).weak fun t ht=>ht.1)
def colT (l:List Co):List Tt:=l.flatMap fun x=>sgn6 44::tt (coP x)
def conT (l:List Cn):List Tt:=l.flatMap fun x=>sgn6 44::tt (cnP x)
theorem sep_flat (a:List Pc) (l:List (List Pc)):sep (a::l)=a++l.flatMap fun p=>C 44::none::p:=by
 induction l generalizing a with
 |nil=>simp [sep]
 | cons b l ih=>
   show a++(C 44::none::sep (b::l))=_
   rw [ih];rfl
theorem cols_all:∀(l d:List Co) (m p:Nat),l.length≤m→(∀x∈l,okCo x)→Sits L p (colT l)→isW (tk L (p+(colT l).length)) kNOT=false→
   ¬(isT L (p+(colT l).length) [44]=true∧(tk L (p+(colT l).length+1)).1=1)→Ev (fun n=>colsMore L m d p) (.ok (d++l) (p+(colT l).length))
 | [],d,0,p,_,_,_,_,_=>by
   rw [List.append_nil]
   exact (Ev.pure _).congr fun n=>by rw [colsMore];rfl
 | [],d,m+1,p,_,_,_,_,hq=>by
   rw [List.append_nil]
   have hq:¬(isT L p [44]=true∧(tk L (p+1)).1=1):=hq
   exact (Ev.pure _).congr fun n=>by rw [colsMore,if_neg hq];rfl
 |a::l,d,0,p,h,_,_,_,_=>by simp at h
 | a ::l,d,m+1,p,hl,hx,hs,hn,hq=>by
   have e:colT (a::l)=sgn6 44::(tt (coP a)++colT l):=rfl
   rw [e] at hs hn hq ⊢
   have el:p+(sgn6 44::(tt (coP a)++colT l)).length=p+1+(tt (coP a)).length+(colT l).length:=by rw [List.length_cons,List.length_append];omega
   rw [el] at hn hq ⊢
   have h1:=hs.tail.left
   have h2:=hs.tail.right
   have hnext:isW (tk L (p+1+(tt (coP a)).length)) kNOT=false:=by
     cases l with
     |nil=>exact hn
     |cons b l=>rw [(show Sits L _ (sgn6 44::_) from h2).head];decide
   have ih:=cols_all l (d++ [a]) m _ (by simp at hl;omega) (fun x h=>hx x (List.mem_cons_of_mem _ h)) h2 hn hq
   rw [List.append_assoc] at ih
   have hc:=rd_col (hx a (by simp)) (p+1) h1 hnext
   refine (hc.bind (g:=fun _ x q=>colsMore L m (d++ [x]) q) ih).congr fun n=>?_
   have hh:(tk L (p+1)).1=1:=by rw [(show Sits L (p+1) ((1,a.nm)::_) from h1).head]
   rw [colsMore,if_pos ⟨by rw [isT_is L hs.head];decide,hh⟩]
theorem cons_all:∀(l d:List Cn) (m p:Nat),l.length≤m→(∀x∈l,OkCn x)→Sits L p (conT l)→isT L (p+(conT l).length) [44]=false→Ev (fun n=>consMore L n m d p) (.ok (d++l) (p+(conT l).length))
 | [],d,0,p,_,_,_,_=>by
   rw [List.append_nil]
   exact (Ev.pure _).congr fun n=>by rw [consMore];rfl
 | [],d,m+1,p,_,_,_,hq=>by
   rw [List.append_nil]
   have hq:isT L p [44]=false:=hq
   exact (Ev.pure _).congr fun n=>by rw [consMore,if_neg (by simp [hq])];rfl
 |a::l,d,0,p,h,_,_,_=>by simp at h
 | a::l,d,m+1,p,hl,hx,hs,hq=>by
   have e:conT (a::l)=sgn6 44::key kCONSTRAINT::(tt (cnB a)++conT l):=rfl
   rw [e] at hs hq ⊢
   have el:p+(sgn6 44::key kCONSTRAINT::(tt (cnB a)++conT l)).length=p+2+(tt (cnB a)).length+(conT l).length:=by rw [List.length_cons,List.length_cons,List.length_append];omega
   rw [el] at hq ⊢
   have h2:=hs.tail.tail
   have ih:=cons_all l (d++ [a]) m _ (by simp at hl;omega) (fun x h=>hx x (List.mem_cons_of_mem _ h)) h2.right hq
   rw [List.append_assoc] at ih
   have hc:=rd_cn (A:=Any) (hx a (by simp)) (p+2) h2.left trivial
   refine (hc.bind (g:=fun n x q=>consMore L n m (d++ [x]) q) ih).congr fun n=>?_
   rw [consMore,if_pos ⟨by rw [isT_is L hs.head];decide,by rw [isT_is L hs.tail.head];decide⟩]
theorem rd_table {t:Bs} {cols:List Co} {cons:List Cn} (h1:1≤cols.length) (h6:cols.length≤6) (hc:∀x∈cols,okCo x) (hn:cons.length≤6) (hx:∀x∈cons,OkCn x) {A:Tt→Prop}:
    Rd L (tt (N t::none::brk (sep (cols.map coP++cons.map cnP)))) (tableP L) (.mk 1 t [] [] cols cons [] [] noEx [] [] 0 0 false []) A:=by
  cases cols with
  |nil=>simp at h1
  | cons a cols=>
    have e:tt (sep ((a::cols).map coP++cons.map cnP))=tt (coP a)++(colT cols++conT cons):=by
      rw [List.map_cons,List.cons_append,sep_flat,List.flatMap_append,tt_app,tt_app]
      congr 2
      · unfold colT tt
        rw [List.flatMap_map,List.filterMap_flatMap];rfl
      · unfold conT tt
        rw [List.flatMap_map,List.filterMap_flatMap];rfl
    rw [tt_N,tt_none,tt_brk,e]
    refine Rd.name (g:=fun n t q=>(mustP L [40] q).bind fun _ q=>(columnP L q).bind fun x q=>(colsMore L 5 [x] q).bind fun cols q=>(consMore L n 6 [] q).bind fun cons q=>
      (shutP L cols cons q).bind fun _ q=> .ok (St.mk 1 t [] [] cols cons [] [] noEx [] [] 0 0 false []) q) ?_
    refine Rd.must (g:=fun n q=>(columnP L q).bind fun x q=>(colsMore L 5 [x] q).bind fun cols q=>(consMore L n 6 [] q).bind fun cons q=>
      (shutP L cols cons q).bind fun _ q=> .ok (St.mk 1 t [] [] cols cons [] [] noEx [] [] 0 0 false []) q) (by decide) ?_
    rw [List.append_assoc]
    refine Rd.bind (g:=fun n x q=>(colsMore L 5 [x] q).bind fun cols q=>(consMore L n 6 [] q).bind fun cons q=>
      (shutP L cols cons q).bind fun _ q=> .ok (St.mk 1 t [] [] cols cons [] [] noEx [] [] 0 0 false []) q) (rd_col (hc a (by simp))) ?_ (fun t ht=>by
        cases cols with
        | nil=>
          cases cons with
          |nil=>rw [show t=sgn6 41 from ht];decide
          |cons b l=>rw [show t=sgn6 44 from ht];decide
        |cons b l=>rw [show t=sgn6 44 from ht];decide)
    intro p hs _
    rw [List.append_assoc] at hs
    have s1:=hs.left
    have s2:=hs.right.left
    have s3:=hs.right.right
    have h41:=s3.head
    have el:p+(colT cols++conT cons++ [sgn6 41]).length=p+(colT cols).length+(conT cons).length+1:=by rw [List.length_append,List.length_append];show _+(_+1)=_;omega
    rw [el]
    have k1:=cols_all cols [a] 5 p (by simp at h6;omega) (fun x h=>hc x (List.mem_cons_of_mem _ h)) s1 (by
      cases cons with
      |nil=>rw [show tk L (p+(colT cols).length)=sgn6 41 from h41];decide
      |cons b l=>rw [(show Sits L _ (sgn6 44::_) from s2).head];decide) (by
      cases cons with
      |nil=>rw [isT_is L (show tk L (p+(colT cols).length)=sgn6 41 from h41)];exact fun h=>absurd h.1 (by decide)
      | cons b l=>
        rw [(show Sits L _ (sgn6 44::key kCONSTRAINT::_) from s2).tail.head]
        rintro ⟨_,h⟩;cases h)
    have k2:=cons_all cons [] 6 _ hn hx s2 (by rw [isT_is L h41];decide)
    have k3:Ev (fun n=>shutP L (a::cols) cons (p+(colT cols).length+(conT cons).length)) (.ok () (p+(colT cols).length+(conT cons).length+1)):=(Ev.pure _).congr fun n=>by
      have f1:isT L (p+(colT cols).length+(conT cons).length) [44]=false:=by rw [isT_is L h41];decide
      unfold shutP mustP
      rw [if_neg (by simp [f1]),if_pos (by rw [isT_is L h41];decide)]
    exact k1.bind (g:=fun n cols q=>(consMore L n 6 [] q).bind fun cons q=>(shutP L cols cons q).bind fun _ q=> .ok (St.mk 1 t [] [] cols cons [] [] noEx [] [] 0 0 false []) q)
      (k2.bind (g:=fun n cons q=>(shutP L (a::cols) cons q).bind fun _ q=> .ok (St.mk 1 t [] [] (a::cols) cons [] [] noEx [] [] 0 0 false []) q)
        (k3.bind (g:=fun _ _ q=> .ok (St.mk 1 t [] [] (a::cols) cons [] [] noEx [] [] 0 0 false []) q) (Ev.pure _)))
end
end Go.Proofs.YtiaomhdmllhmmaaGreatDoor.Sm
namespace Go.Proofs.YtiaomhdmllhmmaaGreatDoor.Sm
open Lx Ep
set_option linter.unusedVariables false
def Fin (t:Tt):Prop:=t=(7, [])
theorem fin_stp {t:Tt} (h:Fin t) (r:Nat):stp r t:=by rw [show t=(7, []) from h];exact .none_ (by decide) (by decide) (by decide)
theorem fin_is {t:Tt} (h:Fin t) (w:Bs):isW t w=false:=by rw [show t=(7, []) from h];rfl
section
variable {L:List Tt}
theorem rd_vals {t:Bs} {ns:List Bs} {rows:List (List Ex)} (h1:1≤rows.length) (h8:rows.length≤8) (h:∀x∈rows,okEs x 6):
   Rd L (tt (sep (rows.map fun x=>brk (exsP x)))) (valsP L t ns) (.mk 16 t [] [] [] [] ns rows noEx [] [] 0 0 false []) Fin:=by
 have:=Rd.bind (L:=L) (b:= []) (B:=Fin) (g:=fun _ l q=> .ok (St.mk 16 t [] [] [] [] ns l noEx [] [] 0 0 false []) q)
   (Rd.list (item:=exsIn L 6) (P:=fun x=>brk (exsP x)) (A:=Any) trivial h1 h8 fun x hx=>rd_exsIn (h x hx)) Rd.pure fun t ht=>⟨trivial,fin_is ht _⟩
 rw [List.append_nil] at this
 exact this
theorem rd_insert {t:Bs} {ns:List Bs} {rows:List (List Ex)} (hn:okNs ns 0 6) (h1:1≤rows.length) (h8:rows.length≤8) (h:∀x∈rows,okEs x 6):
   Rd L (tt (stP (.mk 16 t [] [] [] [] ns rows noEx [] [] 0 0 false []))) (rowsP L) (.mk 16 t [] [] [] [] ns rows noEx [] [] 0 0 false []) Fin:=by
 have e:stP (.mk 16 t [] [] [] [] ns rows noEx [] [] 0 0 false [])=K kINSERT::none::K kINTO::none::N t::none::((if ns.isEmpty=true then [] else brk (nmsP ns)++ [none])++(K kVALUES::none::sep (rows.map fun x=>brk (exsP x)))):=by unfold stP;rfl
 have e2:tt (stP (.mk 16 t [] [] [] [] ns rows noEx [] [] 0 0 false []))=key kINSERT::key kINTO::(1,t)::((if ns.isEmpty=true then [] else tt (brk (nmsP ns)))++key kVALUES::tt (sep (rows.map fun x=>brk (exsP x)))):=by
   rw [e,tt_K,tt_none,tt_K,tt_none,tt_N,tt_none,tt_app]
   cases ns with
   |nil=>rfl
   | cons a l=>
     show _::_::_::(tt (brk (nmsP (a::l))++ [none])++_)=_
     rw [tt_app,show tt ([none]:List Pc)= [] from rfl,List.append_nil];rfl
 rw [e2]
 refine Rd.yes (F:=insP L) (by decide) ?_
 refine Rd.must (g:=fun n q=>(nameP L q).bind fun t q=>ins2 L t n q) (by decide) ?_
 refine Rd.name (g:=fun n t q=>ins2 L t n q) ?_
 cases ns with
 |nil=>exact Rd.yes (F:=valsP L t []) (by decide) (rd_vals h1 h8 h)
 | cons a l=>
   show Rd L (tt (brk (nmsP (a::l)))++_) _ _ _
   have hn2:okNs (a::l) 1 6:=⟨by simp,hn.2.1,hn.2.2⟩
   refine Rd.no (F:=valsP L t []) (fun x hx=>by rw [tt_brk] at hx;rw [show x=sgn6 40 from hx];decide) ?_
   refine Rd.bind (A:=Any) (g:=fun n ns q=>(mustP L kVALUES q).bind fun _ q=>valsP L t ns n q) (rd_inside hn2 (Nat.le_refl _)) ?_ fun _ _=>trivial
   exact Rd.must (g:=fun n q=>valsP L t (a::l) n q) (by decide) (rd_vals h1 h8 h)
theorem rd_set {x:Bs × Ex} (h:Lo x.2):Rd L (tt (setP x)) (setI L) x (stp 1):=by
 obtain ⟨nm,e⟩:=x
 refine Rd.name (g:=fun n x q=>(mustP L [61] q).bind fun _ q=>(anyP L n q).bind fun e q=> .ok (x,e) q) ?_
 refine Rd.must (g:=fun n q=>(anyP L n q).bind fun e q=> .ok (nm,e) q) (by decide) ?_
 have:=Rd.bind (L:=L) (b:= []) (B:=stp 1) (g:=fun _ e q=> .ok (nm,e) q) (Rd.any h) Rd.pure fun t ht=>ht
 rw [List.append_nil] at this
 exact this
theorem nxt_wh {e:Ex} (h:okWh e) {b:List Tt} {B:Tt→Prop} {t:Tt} {P:Tt→Prop} (h1:P (key kWHERE)) (h2:Nxt b B t→P t) (ht:Nxt (tt (whP e)++b) B t):P t:=by
 rcases h with rfl|h
 · exact h2 ht
 · unfold whP at ht
   rw [no_rt h.1,if_neg (by simp)] at ht
   rw [show t=key kWHERE from ht];exact h1
theorem rd_update {t:Bs} {sets:List (Bs × Ex)} {wh:Ex} (h1:1≤sets.length) (h6:sets.length≤6) (h:∀x∈sets,isN x.1∧Lo x.2) (hw:okWh wh):
   Rd L (tt (stP (.mk 17 t [] [] [] [] [] [] wh sets [] 0 0 false []))) (rowsP L) (.mk 17 t [] [] [] [] [] [] wh sets [] 0 0 false []) Fin:=by
 have e:stP (.mk 17 t [] [] [] [] [] [] wh sets [] 0 0 false [])=K kUPDATE::none::N t::none::K kSET::none::(sep (sets.map setP)++whP wh):=by unfold stP;rfl
 rw [e,tt_K,tt_none,tt_N,tt_none,tt_K,tt_none,tt_app]
 refine Rd.no (F:=insP L) (fun x hx=>by rw [show x=key kUPDATE from hx];decide) ?_
 refine Rd.yes (F:=updP L) (by decide) ?_
 refine Rd.name (g:=fun n t q=>(mustP L kSET q).bind fun _ q=>(listOf L (setI L n) 6 q).bind fun l q=>(whereP L n q).bind fun e q=> .ok (St.mk 17 t [] [] [] [] [] [] e l [] 0 0 false []) q) ?_
 refine Rd.must (g:=fun n q=>(listOf L (setI L n) 6 q).bind fun l q=>(whereP L n q).bind fun e q=> .ok (St.mk 17 t [] [] [] [] [] [] e l [] 0 0 false []) q) (by decide) ?_
 have hb:=Rd.bind (L:=L) (b:= []) (B:=Fin) (g:=fun _ e q=> .ok (St.mk 17 t [] [] [] [] [] [] e sets [] 0 0 false []) q) (rd_where hw) Rd.pure fun t ht=>⟨fin_stp ht 1,fin_is ht _⟩
 rw [List.append_nil] at hb
 refine Rd.bind (g:=fun n l q=>(whereP L n q).bind fun e q=> .ok (St.mk 17 t [] [] [] [] [] [] e l [] 0 0 false []) q) (Rd.list (item:=setI L) (P:=setP) (A:=stp 1) (stp_comma 1) h1 h6 fun x hx=>rd_set (h x hx).2) hb fun x hx=>?_
 rw [←List.append_nil (tt (whP wh))] at hx
 exact nxt_wh (b:= []) (B:=Fin) hw (P:=fun t=>stp 1 t∧isW t [44]=false) ⟨.none_ (by decide) (by decide) (by decide),by decide⟩ (fun hx=>⟨fin_stp hx 1,fin_is hx _⟩) hx
theorem rd_delete {t:Bs} {wh:Ex} (hw:okWh wh):Rd L (tt (stP (.mk 18 t [] [] [] [] [] [] wh [] [] 0 0 false []))) (rowsP L) (.mk 18 t [] [] [] [] [] [] wh [] [] 0 0 false []) Fin:=by
 have e:stP (.mk 18 t [] [] [] [] [] [] wh [] [] 0 0 false [])=K kDELETE::none::K kFROM::none::N t::whP wh:=by unfold stP;rfl
 rw [e,tt_K,tt_none,tt_K,tt_none,tt_N]
 refine Rd.no (F:=insP L) (fun x hx=>by rw [show x=key kDELETE from hx];decide) ?_
 refine Rd.no (F:=updP L) (fun x hx=>by rw [show x=key kDELETE from hx];decide) ?_
 refine Rd.yes (F:=delP L) (by decide) ?_
 refine Rd.must (g:=fun n q=>(nameP L q).bind fun t q=>(whereP L n q).bind fun e q=> .ok (St.mk 18 t [] [] [] [] [] [] e [] [] 0 0 false []) q) (by decide) ?_
 refine Rd.name (g:=fun n t q=>(whereP L n q).bind fun e q=> .ok (St.mk 18 t [] [] [] [] [] [] e [] [] 0 0 false []) q) ?_
 have hb:=Rd.bind (L:=L) (b:= []) (B:=Fin) (g:=fun _ e q=> .ok (St.mk 18 t [] [] [] [] [] [] e [] [] 0 0 false []) q) (rd_where hw) Rd.pure fun t ht=>⟨fin_stp ht 1,fin_is ht _⟩
 rw [List.append_nil] at hb
 exact hb
theorem rd_ord {x:Ex × Bool} (h:Lo x.1):Rd L (tt (ordP x)) (ordI L) x (fun t=>stp 1 t∧isW t kDESC=false):=by
 obtain ⟨e,d⟩:=x
 unfold ordP
 rw [tt_app]
 cases d with
 | true=>
   exact Rd.bind (g:=fun _ x q=>descP L x q) (Rd.any h) (Rd.yes (t:=key kDESC) (F:=fun _ q=> .ok (e,true) q) (by decide) Rd.pure) fun t ht=>by rw [show t=key kDESC from ht];exact .none_ (by decide) (by decide) (by decide)
 | false=>
   exact Rd.bind (b:= []) (g:=fun _ x q=>descP L x q) (Rd.any h) (Rd.no (F:=fun _ q=> .ok (e,true) q) (fun t ht=>ht.2) Rd.pure) fun t ht=>ht.1
def ordsP (o:List (Ex × Bool)):List Pc:=if o.isEmpty=true then [] else none::K kORDER::none::K kBY::none::sep (o.map ordP)
theorem rd_ords {o:List (Ex × Bool)} (h3:o.length≤3) (h:∀x∈o,Lo x.1):Rd L (tt (ordsP o)) (ordL L) o (fun t=>stp 1 t∧isW t kDESC=false∧isW t [44]=false∧isW t kORDER=false):=by
 cases o with
 |nil=>exact Rd.no (F:=ord2 L) (fun t ht=>ht.2.2.2) Rd.pure
 | cons a l=>
   show Rd L (key kORDER::key kBY::tt (sep ((a::l).map ordP))) _ _ _
   refine Rd.yes (F:=ord2 L) (by decide) ?_
   refine Rd.must (g:=fun n q=>listOf L (ordI L n) 3 q) (by decide) ?_
   exact (Rd.list (item:=ordI L) (P:=ordP) (A:=fun t=>stp 1 t∧isW t kDESC=false) ⟨stp_comma 1,by decide⟩ (by simp) h3 fun x hx=>rd_ord (h x hx)).weak fun t ht=>⟨⟨ht.1,ht.2.1⟩,ht.2.2.1⟩
theorem rd_lim {n:Int} (h: -1≤n) (h' :n≤9999):Rd L (tt (limP n)) (fun _ p=>limL L p) n Fin:=by
 unfold limP
 by_cases h0:0≤n
 · rw [if_pos h0]
   show Rd L (key kLIMIT:: [(3,Num.dgz n)]) _ _ _
   refine Rd.yes (F:=fun _ q=>lim2 L q) (by decide) ?_
   intro p hs _
   refine (Ev.pure _).congr fun m=>?_
   have hr:Val.rd (Num.dgz n)=⟨1,n, [],0⟩:=Val.back_value (k:=1) (n:=n) (l:= []) (by omega) (by omega) rfl
   show lim2 L p=_
   unfold lim2
   rw [hs.head,if_pos rfl]
   show (if (Val.rd (Num.dgz n)).e=0∧_ then _ else _)=_
   rw [hr,if_pos ⟨rfl,h'⟩];rfl
 · rw [if_neg h0]
   obtain rfl:n= -1:=by omega
   exact Rd.no (F:=fun _ q=>lim2 L q) (fun t ht=>fin_is ht _) Rd.pure
theorem nxt_lim {n:Int} {t:Tt} {P:Tt→Prop} (h1:P (key kLIMIT)) (h2:Fin t→P t) (ht:Nxt (tt (limP n)) Fin t):P t:=by
 unfold limP at ht
 split at ht
 · rw [show t=key kLIMIT from ht];exact h1
 · exact h2 ht
theorem nxt_ord {o:List (Ex × Bool)} {n:Int} {t:Tt} {P:Tt→Prop} (h0:P (key kORDER)) (h1:P (key kLIMIT)) (h2:Fin t→P t) (ht:Nxt (tt (ordsP o)++tt (limP n)) Fin t):P t:=by
 cases o with
 |nil=>exact nxt_lim h1 h2 ht
 |cons a l=>rw [show t=key kORDER from ht];exact h0
theorem rd_sel2 {t:Bs} {rows:List (List Ex)} {wh:Ex} {o:List (Ex × Bool)} {n:Int} (hw:okWh wh) (h3:o.length≤3) (ho:∀x∈o,Lo x.1) (hl: -1≤n) (hl' :n≤9999):
   Rd L (key kFROM::(1,t)::(tt (whP wh)++(tt (ordsP o)++tt (limP n)))) (sel2 L rows) (.mk 19 t [] [] [] [] [] rows wh [] o n 0 false []) Fin:=by
 refine Rd.must (g:=fun n q=>(nameP L q).bind fun t q=>(whereP L n q).bind fun e q=>(ordL L n q).bind fun o q=>(limL L q).bind fun m q=> .ok (St.mk 19 t [] [] [] [] [] rows e [] o m 0 false []) q) (by decide) ?_
 refine Rd.name (g:=fun n t q=>(whereP L n q).bind fun e q=>(ordL L n q).bind fun o q=>(limL L q).bind fun m q=> .ok (St.mk 19 t [] [] [] [] [] rows e [] o m 0 false []) q) ?_
 have k1:=Rd.bind (L:=L) (b:= []) (B:=Fin) (g:=fun _ m q=> .ok (St.mk 19 t [] [] [] [] [] rows wh [] o m 0 false []) q) (rd_lim hl hl') Rd.pure fun t ht=>ht
 rw [List.append_nil] at k1
 have k2:=Rd.bind (g:=fun n o q=>(limL L q).bind fun m q=> .ok (St.mk 19 t [] [] [] [] [] rows wh [] o m 0 false []) q) (rd_ords (L:=L) h3 ho) k1 fun x hx=>
   nxt_lim (P:=fun t=>stp 1 t∧isW t kDESC=false∧isW t [44]=false∧isW t kORDER=false) ⟨.none_ (by decide) (by decide) (by decide),by decide,by decide,by decide⟩ (fun h=>⟨fin_stp h 1,fin_is h _,fin_is h _,fin_is h _⟩) hx
 exact Rd.bind (g:=fun n e q=>(ordL L n q).bind fun o q=>(limL L q).bind fun m q=> .ok (St.mk 19 t [] [] [] [] [] rows e [] o m 0 false []) q) (rd_where hw) k2 fun x hx=>
   nxt_ord (P:=fun t=>stp 1 t∧isW t kWHERE=false) ⟨.none_ (by decide) (by decide) (by decide),by decide⟩ ⟨.none_ (by decide) (by decide) (by decide),by decide⟩ (fun h=>⟨fin_stp h 1,fin_is h _⟩) hx
theorem not_star {e:Ex} (h:Rt e):∃t ts,tt (pcs e)=t::ts∧isW t [42]=false:=by
  obtain ⟨t,ts,ht,_⟩:=(reads (L:= []) h).1
  refine ⟨t,ts,ht,?_⟩
  -- the first token of an expression's text begins an expression
  have hne:∀e:Ex,Rt e→∀t ts,tt (pcs e)=t::ts→isW t [42]=false:=fun e h=>by
    have hk:∀{a:Ex} {r:Nat},(∀t ts,tt (pcs a)=t::ts→isW t [42]=false)→∀t ts,tt (kidP a r)=t::ts→isW t [42]=false:=fun {a r} ih t ts e=>by
      by_cases hr:a.rank<r
      · rw [kidP_yes hr] at e
        injection e with e _
        rw [←e];decide
      · rw [kidP_no (by omega)] at e
        exact ih t ts e
    have hfirst:∀{a:Ex} {r:Nat} {x:List Pc},Rt a→(∀t ts,tt (pcs a)=t::ts→isW t [42]=false)→∀t ts,tt (kidP a r++x)=t::ts→isW t [42]=false:=fun {a r x} ha ih t ts e=>by
      obtain ⟨t',ts',h1,_⟩:=((reads (L:= []) ha).1).kid r
      rw [tt_app,h1] at e
      injection e with e _
      rw [←e]
      exact hk ih t' ts' h1
    induction h with
    | @lit k n s h0 h1 h2 h3=>
      intro t ts e
      rw [pcs_lit] at e
      injection e with e _
      rw [←e]
      rcases show_cases h0 with rfl|rfl|rfl|rfl
      · rfl
      · rfl
      · unfold valT Val.showV
        by_cases hn:n=1
        · subst hn;rfl
        · rw [if_neg (by decide),if_neg (by decide),if_pos rfl,if_neg hn];rfl
      · rfl
    | @col nm h=>intro t ts e;rw [pcs_col] at e;injection e with e _;rw [←e];rfl
    | @par o h h' =>intro t ts e;rw [pcs_par] at e;injection e with e _;rw [←e];rfl
    | @un o a h h' ha ih=>
      intro t ts e
      rw [pcs_un] at e
      split at e
      · injection e with e _;rw [←e];decide
      split at e
      · injection e with e _;rw [←e];decide
      split at e
      · exact hfirst ha ih t ts e
      · exact hfirst ha ih t ts e
    | @bin o a b h1 h14 ha hb iha ihb=>intro t ts e;rw [pcs_bin] at e;exact hfirst ha iha t ts e
    | @inn a l h0 hn ha hl iha ihl=>intro t ts e;rw [pcs_inn] at e;exact hfirst ha iha t ts e
    | @call nm l h0 h hl ihl=>
      intro t ts e
      rw [pcs_call] at e
      injection e with e _
      rw [←e]
      unfold callT
      split
      · decide
      split<;>decide
  exact hne e h t ts ht
theorem rd_select {t:Bs} {rows:List (List Ex)} {wh:Ex} {o:List (Ex × Bool)} {n:Int} (h1:rows.length≤1) (hr:∀x∈rows,okEs x 6) (hw:okWh wh) (h3:o.length≤3) (ho:∀x∈o,Lo x.1) (hl: -1≤n) (hl' :n≤9999):
    Rd L (tt (stP (.mk 19 t [] [] [] [] [] rows wh [] o n 0 false []))) (rowsP L) (.mk 19 t [] [] [] [] [] rows wh [] o n 0 false []) Fin:=by
  have e:stP (.mk 19 t [] [] [] [] [] rows wh [] o n 0 false [])=K kSELECT::none::(selX rows++(none::K kFROM::none::N t::(whP wh++(ordsP o++limP n)))):=by unfold stP;rfl
  rw [e,tt_K,tt_none,tt_app,tt_none,tt_K,tt_none,tt_N,tt_app,tt_app]
  refine Rd.no (F:=insP L) (fun x hx=>by rw [show x=key kSELECT from hx];decide) ?_
  refine Rd.no (F:=updP L) (fun x hx=>by rw [show x=key kSELECT from hx];decide) ?_
  refine Rd.no (F:=delP L) (fun x hx=>by rw [show x=key kSELECT from hx];decide) ?_
  refine Rd.must (g:=fun n q=>selP L n q) (by decide) ?_
  match rows,h1,hr with
  | [],_,_=>exact Rd.yes (t:=sgn6 42) (F:=sel2 L []) (by decide) (rd_sel2 hw h3 ho hl hl')
  | [l],_,hr=>
    have hl6:=hr l (by simp)
    show Rd L (tt (exsP l)++_) _ _ _
    refine Rd.no (F:=sel2 L []) (fun x hx=>?_) ?_
    · cases l with
      |nil=>have:=hl6.1;simp at this
      | cons a l=>
        obtain ⟨t',ts',ht,hs⟩:=not_star (hl6.2.2 a (by simp)).1
        unfold exsP at hx
        rw [sep_cons,tt_app,ht] at hx
        rw [show x=t' from hx];exact hs
    · exact Rd.bind (g:=fun n l q=>sel2 L [l] n q) (rd_anys hl6) (rd_sel2 hw h3 ho hl hl') fun x hx=>by
        rw [show x=key kFROM from hx];exact ⟨.none_ (by decide) (by decide) (by decide),by decide⟩
theorem rd_rows {s:St} (h:OkR s):Rd L (tt (stP s)) (rowsP L) s Fin:=by
 cases h with
 |insert h0 h1 h2 h3 h4=>exact rd_insert h1 h2 h3 h4
 |update h0 h1 h2 h3 h4=>exact rd_update h1 h2 h3 h4
 |delete h0 h1=>exact rd_delete h1
 |select h0 h1 h2 h3 h4 h5 h6 h7=>exact rd_select h1 h2 h3 h4 h5 h6 h7
theorem rows_first {s:St} (h:OkR s):∃ts,tt (stP s)=key kINSERT::ts ∨ tt (stP s)=key kUPDATE::ts ∨ tt (stP s)=key kDELETE::ts ∨ tt (stP s)=key kSELECT::ts:=by
 cases h with
 |insert=>exact ⟨_, .inl (by unfold stP;rfl)⟩
 |update=>exact ⟨_, .inr (.inl (by unfold stP;rfl))⟩
 |delete=>exact ⟨_, .inr (.inr (.inl (by unfold stP;rfl)))⟩
 |select=>exact ⟨_, .inr (.inr (.inr (by unfold stP;rfl)))⟩
end
end Go.Proofs.YtiaomhdmllhmmaaGreatDoor.Sm
