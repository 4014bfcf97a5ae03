/- An expression comes back from its tokens, wherever they stand, whatever stands behind them Pieces put together are a text. An expression's text is cut into its tokens. What is read from right tokens is right; in brackets it is the same. -/
import Derived.Test.YtiaomhdmllhmmaaGreatDoorJ02
namespace Go.Proofs.YtiaomhdmllhmmaaGreatDoor.Ep
open Lx
set_option linter.unusedVariables false
def tt (l:List Pc):List Tt:=l.filterMap id
theorem tt_app (a b:List Pc):tt (a++b)=tt a++tt b:=List.filterMap_append
theorem tt_some (t:Tt) (l:List Pc):tt (some t::l)=t::tt l:=rfl
theorem tt_none (l:List Pc):tt (none::l)=tt l:=rfl
def Sits (L:List Tt) (p:Nat) (ts:List Tt):Prop:=∀i t,ts[i]?=some t→L[p+i]?=some t
section
variable {L:List Tt} {p q:Nat} {t:Tt} {a b:List Tt}
theorem Sits.left (h:Sits L p (a++b)):Sits L p a:=fun i t hi=>h i t (by rw [List.getElem?_append_left (List.getElem?_eq_some_iff.1 hi).1];exact hi)
theorem Sits.right (h:Sits L p (a++b)):Sits L (p+a.length) b:=fun i t hi=>by
 rw [Nat.add_assoc]
 exact h (a.length+i) t (by rw [List.getElem?_append_right (by omega),Nat.add_sub_cancel_left];exact hi)
theorem Sits.head (h:Sits L p (t::b)):tk L p=t:=by
 have:=h 0 t rfl
 unfold tk
 rw [show p=p+0 from rfl,this];rfl
theorem Sits.tail (h:Sits L p (t::b)):Sits L (p+1) b:=Sits.right (a:= [t]) h
end
def isW (t:Tt) (w:List UInt8):Bool:=(t.1==2||t.1==6) && t.2==w
theorem isT_is (L:List Tt) {p:Nat} {t:Tt} (h:tk L p=t) (w:List UInt8):isT L p w=isW t w:=by unfold isT;rw [h];rfl
def stp (r:Nat) (t:Tt):Prop:=(opT t=0 ∨ rk 5 (opT t)<r)∧(4<r ∨ isW t kIS=false∧isW t kIN=false)
theorem stp.mono {r r' :Nat} {t:Tt} (h:stp r t) (hr:r≤r'):stp r' t:=⟨h.1.imp_right (by omega),h.2.imp_left (by omega)⟩
theorem stp.none_ {r:Nat} {t:Tt} (h0:opT t=0) (h1:isW t kIS=false) (h2:isW t kIN=false):stp r t:=⟨.inl h0, .inr ⟨h1,h2⟩⟩
theorem stp.sg {L:List Tt} {r p:Nat} (h:stp r (tk L p)):sgAt L r p=0:=by
 unfold sgAt
 split
 · rcases h.1 with h|h
   · exact h
   · omega
 · rfl
theorem stp_close (r:Nat):stp r (sgn6 41):= .none_ (by decide) (by decide) (by decide)
theorem stp_comma (r:Nat):stp r (sgn6 44):= .none_ (by decide) (by decide) (by decide)
theorem stp_is {r:Nat} (h:4<r):stp r (key kIS):=⟨.inl (by decide), .inl h⟩
theorem stp_in {r:Nat} (h:4<r):stp r (key kIN):=⟨.inl (by decide), .inl h⟩
theorem op_cases {o:Int} (h:1≤o) (h' :o≤14):o=1 ∨ o=2 ∨ o=3 ∨ o=4 ∨ o=5 ∨ o=6 ∨ o=7 ∨ o=8 ∨ o=9 ∨ o=10 ∨ o=11 ∨ o=12 ∨ o=13 ∨ o=14:=by omega
theorem opT_sg {o:Int} (h:1≤o) (h' :o≤14):opT (sgT o)=o:=by rcases op_cases h h' with rfl|rfl|rfl|rfl|rfl|rfl|rfl|rfl|rfl|rfl|rfl|rfl|rfl|rfl<;>decide
theorem sg_not {o:Int} (h:1≤o) (h' :o≤14):isW (sgT o) kIS=false∧isW (sgT o) kIN=false:=by
 rcases op_cases h h' with rfl|rfl|rfl|rfl|rfl|rfl|rfl|rfl|rfl|rfl|rfl|rfl|rfl|rfl<;>decide
theorem stp_sg {o:Int} (h:1≤o) (h' :o≤14) {r:Nat} (hr:rk 5 o<r):stp r (sgT o):=⟨.inr (by rw [opT_sg h h'];exact hr), .inr (sg_not h h')⟩
theorem sgAt_sg {L:List Tt} {p:Nat} {o:Int} (h:1≤o) (h' :o≤14) (ht:tk L p=sgT o):sgAt L (rk 5 o) p=o:=by unfold sgAt;rw [ht,opT_sg h h',if_pos rfl]
theorem rk_bin {o:Int} (h:1≤o) (h' :o≤14):rk 5 o=4 ∨ rk 5 o=1 ∨ rk 5 o=2 ∨ rk 5 o=5 ∨ rk 5 o=6:=by
 rcases op_cases h h' with rfl|rfl|rfl|rfl|rfl|rfl|rfl|rfl|rfl|rfl|rfl|rfl|rfl|rfl<;>decide
theorem climb {L:List Tt} {p q:Nat} {e:Ex}:∀(d r s:Nat),s=r+d→1≤r→s≤8→Ev (fun n=>rankP L n s p) (.ok e q)→(r≤3→3<s→isT L p kNOT=false)→(r≤7→7<s→isT L p [45]=false)→
   stp r (tk L q)→Ev (fun n=>rankP L n r p) (.ok e q)
 | 0,r,s,hs,_,_,h,_,_,_=>by
   obtain rfl:s=r:=by omega
   exact h
 | d +1,r,s,hs,h1,h8,h,hn,hm,hst=>by
   have h2:=climb d (r+1) s (by omega) (by omega) h8 h (fun a b=>hn (by omega) b) (fun a b=>hm (by omega) b) (hst.mono (by omega))
   have hc:r=1 ∨ r=2 ∨ r=3 ∨ r=4 ∨ r=5 ∨ r=6 ∨ r=7:=by omega
   rcases hc with rfl|rfl|rfl|rfl|rfl|rfl|rfl
   · exact ev_left (by decide) h2 (ev_stop hst.sg)
   · exact ev_left (by decide) h2 (ev_stop hst.sg)
   · exact ev_not_no (hn (by omega) (by omega)) h2
   · rcases hst.2 with h5|⟨h5,h6⟩
     · omega
     · exact ev_is_end h2 hst.sg ((isT_is L rfl _).trans h5) ((isT_is L rfl _).trans h6)
   · exact ev_left (by decide) h2 (ev_stop hst.sg)
   · exact ev_left (by decide) h2 (ev_stop hst.sg)
   · exact ev_neg_no (hm (by omega) (by omega)) h2
def FT (e:Ex):Prop:=∃t ts,tt (pcs e)=t::ts∧(4≤e.rank→isW t kNOT=false)∧(8≤e.rank→isW t [45]=false)
def MM (L:List Tt) (e:Ex):Prop:=∀p,Sits L p (tt (pcs e))→stp e.rank (tk L (p+(tt (pcs e)).length))→Ev (fun n=>rankP L n e.rank p) (.ok e (p+(tt (pcs e)).length))
def TT (L:List Tt) (e:Ex):Prop:=∀r p,1≤r→r≤8→Sits L p (tt (kidP e r))→stp r (tk L (p+(tt (kidP e r)).length))→Ev (fun n=>rankP L n r p) (.ok e (p+(tt (kidP e r)).length))
def TL (L:List Tt) (e:Ex):Prop:=∀r p,(r=1 ∨ r=2 ∨ r=5 ∨ r=6)→Sits L p (tt (kidP e r))→stp (r+1) (tk L (p+(tt (kidP e r)).length))→
 ∃e0 p0,Ev (fun n=>rankP L n (r+1) p) (.ok e0 p0)∧∀R,Ev (fun n=>loopP L n r e (p+(tt (kidP e r)).length)) R→Ev (fun n=>loopP L n r e0 p0) R
theorem kidP_no {e:Ex} {r:Nat} (h:r≤e.rank):kidP e r=pcs e:=by unfold kidP br asked;rw [decide_eq_false (by omega),if_neg (by simp)]
theorem kidP_yes {e:Ex} {r:Nat} (h:e.rank<r):kidP e r=some (sgn6 40)::(pcs e++ [some (sgn6 41)]):=by unfold kidP br asked;rw [decide_eq_true h,if_pos rfl]
theorem FT.kid {e:Ex} (h:FT e) (r:Nat):∃t ts,tt (kidP e r)=t::ts∧(4≤r→isW t kNOT=false)∧(8≤r→isW t [45]=false):=by
 by_cases hr:e.rank<r
 · rw [kidP_yes hr]
   exact ⟨sgn6 40,_,rfl,fun _=>by decide,fun _=>by decide⟩
 · rw [kidP_no (by omega)]
   obtain ⟨t,ts,h1,h2,h3⟩:=h
   exact ⟨t,ts,h1,fun h=>h2 (by omega),fun h=>h3 (by omega)⟩
theorem rk_in (k o:Int):1≤rk k o∧rk k o≤8:=by
 unfold rk
 repeat' split
 all_goals omega
theorem rank_le (e:Ex):1≤e.rank∧e.rank≤8:=by
 obtain ⟨k,o,vk,vn,vs,nm,kids⟩:=e
 exact rk_in k o
theorem TT.of {L:List Tt} {e:Ex} (hf:FT e) (h:MM L e):TT L e:=by
 have low:∀r p,1≤r→r≤e.rank→Sits L p (tt (pcs e))→stp r (tk L (p+(tt (pcs e)).length))→Ev (fun n=>rankP L n r p) (.ok e (p+(tt (pcs e)).length)):=fun r p h1 hr hs hst=>by
   obtain ⟨t,ts,ht,f1,f2⟩:=hf
   have htk:tk L p=t:=by rw [ht] at hs;exact hs.head
   refine climb (e.rank - r) r e.rank (by omega) h1 (rank_le e).2 (h p hs (hst.mono hr)) (fun _ h=>?_) (fun _ h=>?_) hst
   · rw [isT_is L htk];exact f1 (by omega)
   · rw [isT_is L htk];exact f2 (by omega)
 intro r p h1 h8 hs hst
 by_cases hr:e.rank<r
 · rw [kidP_yes hr] at hs hst ⊢
   rw [tt_some,tt_app] at hs hst ⊢
   have hp:=hs.head
   have h2:=hs.tail
   have h3:=h2.right.head
   have h4:=low 1 (p+1) (Nat.le_refl _) (rank_le e).1 h2.left (by rw [h3];exact stp_close 1)
   have h5:=ev_brackets hp h4 (by rw [isT_is L h3];decide)
   have el:p+(sgn6 40::(tt (pcs e)++tt [some (sgn6 41)])).length=p+1+(tt (pcs e)).length+1:=by simp [tt];omega
   rw [el] at hst ⊢
   exact climb (8 - r) r 8 (by omega) h1 (Nat.le_refl _) h5 (fun _ _=>by rw [isT_is L hp];decide) (fun _ _=>by rw [isT_is L hp];decide) hst
 · rw [kidP_no (by omega)] at hs hst ⊢
   exact low r p h1 (by omega) hs hst
theorem TL.of {L:List Tt} {e:Ex} (h:TT L e) {r:Nat} (hne:e.rank≠r) {p:Nat} (hr:r=1 ∨ r=2 ∨ r=5 ∨ r=6) (hs:Sits L p (tt (kidP e r))) (hst:stp (r+1) (tk L (p+(tt (kidP e r)).length))):
   ∃e0 p0,Ev (fun n=>rankP L n (r+1) p) (.ok e0 p0)∧∀R,Ev (fun n=>loopP L n r e (p+(tt (kidP e r)).length)) R→Ev (fun n=>loopP L n r e0 p0) R:=by
 have hk:kidP e (r+1)=kidP e r:=by
   by_cases h1:e.rank<r
   · rw [kidP_yes h1,kidP_yes (by omega)]
   · rw [kidP_no (by omega),kidP_no (by omega)]
 refine ⟨e,p+(tt (kidP e r)).length,?_,fun R h=>h⟩
 have:=h (r+1) p (by omega) (by omega) (by rw [hk];exact hs) (by rw [hk];exact hst)
 rw [hk] at this
 exact this
def more:List Ex→List Pc
 | []=> [some (sgn6 41)]
 |a::l=>some (sgn6 44)::(pcsL (a::l)++ [some (sgn6 41)])
theorem pcsL_more' (a:Ex) (l:List Ex):pcsL (a::l)++ [some (sgn6 41)]=pcs a++more l:=by
 cases l with
 |nil=>rw [pcsL_one];rfl
 |cons b l=>rw [pcsL_more,List.append_assoc];rfl
theorem more_head (l:List Ex):∃t ts,tt (more l)=t::ts∧(t=sgn6 41 ∨ t=sgn6 44):=by
 cases l with
 |nil=>exact ⟨_,_,rfl, .inl rfl⟩
 |cons a l=>exact ⟨_,_,rfl, .inr rfl⟩
theorem item {L:List Tt} {x:Ex} (h:TT L x) {p:Nat} {l:List Ex} (hs:Sits L p (tt (pcs x++more l))):Ev (fun n=>rankP L n 1 p) (.ok x (p+(tt (pcs x)).length))∧Sits L (p+(tt (pcs x)).length) (tt (more l)):=by
 rw [tt_app] at hs
 obtain ⟨t,ts,ht,hc⟩:=more_head l
 have h2:=hs.right
 have:=h 1 p (Nat.le_refl _) (by omega) (by rw [kidP_no (rank_le x).1];exact hs.left) (by
   rw [kidP_no (rank_le x).1,(show Sits L _ (t::ts) from ht▸h2).head]
   rcases hc with rfl|rfl
   · exact stp_close 1
   · exact stp_comma 1)
 rw [kidP_no (rank_le x).1] at this
 exact ⟨this,h2⟩
theorem moreP_all {L:List Tt} {most:Nat}:∀(l d:List Ex) (p:Nat),(∀x∈l,TT L x)→d.length+l.length≤most→Sits L p (tt (more l))→Ev (fun n=>moreP L n most d p) (.ok (d++l) (p+(tt (more l)).length))
 | [],d,p,_,_,hs=>by
   have h:=hs.head
   rw [List.append_nil]
   exact ev_last (by rw [isT_is L h];decide) (by rw [isT_is L h];decide)
 | a::l,d,p,hl,hd,hs=>by
   have e:tt (more (a::l))=sgn6 44::tt (pcs a++more l):=by rw [←pcsL_more'];rfl
   rw [e] at hs ⊢
   obtain ⟨h1,h2⟩:=item (hl a (by simp)) hs.tail
   have h3:=moreP_all (most:=most) l (d++ [a]) (p+1+(tt (pcs a)).length) (fun x hx=>hl x (by simp [hx])) (by simp at hd ⊢;omega) h2
   rw [List.append_assoc] at h3
   have el:p+(sgn6 44::tt (pcs a++more l)).length=p+1+(tt (pcs a)).length+(tt (more l)).length:=by rw [tt_app];simp;omega
   rw [el]
   exact ev_more (by simp at hd;omega) (by rw [isT_is L hs.head];decide) h1 h3
theorem listP_all {L:List Tt} {most:Nat} {l:List Ex} {p:Nat} (h0:l≠ []) (hl:∀x∈l,TT L x) (hn:l.length≤most) (hs:Sits L p (tt (some (sgn6 40)::(pcsL l++ [some (sgn6 41)])))):
   Ev (fun n=>listP L n most p) (.ok l (p+(tt (some (sgn6 40)::(pcsL l++ [some (sgn6 41)]))).length)):=by
 cases l with
 |nil=>exact absurd rfl h0
 | cons a l=>
   rw [pcsL_more',tt_some] at hs ⊢
   obtain ⟨h1,h2⟩:=item (hl a (by simp)) hs.tail
   have h3:=moreP_all (most:=most) l [a] (p+1+(tt (pcs a)).length) (fun x hx=>hl x (by simp [hx])) (by simp at hn ⊢;omega) h2
   have el:p+(sgn6 40::tt (pcs a++more l)).length=p+1+(tt (pcs a)).length+(tt (more l)).length:=by rw [tt_app];simp;omega
   rw [el]
   exact ev_list (by rw [isT_is L hs.head];decide) h1 h3
section
variable {L:List Tt}
theorem show_cases {k n:Int} {s:List UInt8} (h:Val.okV k n s=true):k=0 ∨ k=1 ∨ k=2 ∨ k=3:=by
 unfold Val.okV at h
 by_cases h0:k=0
 · exact .inl h0
 by_cases h1:k=1
 · exact .inr (.inl h1)
 by_cases h2:k=2
 · exact .inr (.inr (.inl h2))
 by_cases h3:k=3
 · exact .inr (.inr (.inr h3))
 · rw [if_neg h0,if_neg h1,if_neg h2,if_neg h3] at h;cases h
theorem valT_is {k n:Int} {s:List UInt8} (h:Val.okV k n s=true):isVal (valT k n s)=true∧isW (valT k n s) kNOT=false∧isW (valT k n s) [45]=false:=by
 rcases show_cases h with rfl|rfl|rfl|rfl
 · exact ⟨rfl,rfl,rfl⟩
 · exact ⟨rfl,rfl,rfl⟩
 · by_cases hn:n=1
   · subst hn;exact ⟨rfl,rfl,rfl⟩
   · have:Val.showV 2 n s=Val.wFalse:=by unfold Val.showV;rw [if_neg (by decide),if_neg (by decide),if_pos rfl,if_neg hn]
     unfold valT
     rw [this]
     exact ⟨by decide,by decide,by decide⟩
 · exact ⟨rfl,rfl,rfl⟩
theorem not_val {t:Tt} (h1:t.1≠3) (h2:t.1≠4) (h:t.2≠Val.wTrue∧t.2≠Val.wFalse∧t.2≠Val.wNull):isVal t=false:=by
 unfold isVal
 simp [h1,h2,h.1,h.2.1,h.2.2]
theorem mm_lit {k n:Int} {s:List UInt8} (h:Val.okV k n s=true) (h1:n≤9223372036854775807) (h2: -9223372036854775808≤n):MM L (lit k n s):=by
 intro p hs hst
 rw [pcs_lit] at hs ⊢
 have ht:=hs.head
 exact ev_lit (by rw [ht];exact (valT_is h).1) (by rw [ht];exact Val.back_value h2 h1 h)
theorem mm_col {nm:List UInt8} (h:kindOf nm=1):MM L (col nm):=by
 intro p hs hst
 rw [pcs_col] at hs ⊢
 have ht:=hs.head
 have hn:∀w,kindOf w≠1→nm≠w:=fun w hw e=>hw (e▸h)
 have:=ev_col (L:=L) (p:=p) (by rw [ht];exact not_val (by simp) (by simp) ⟨hn _ (by decide),hn _ (by decide),hn _ (by decide)⟩) (by rw [ht])
 rw [ht] at this
 exact this
theorem mm_par {o:Int} (h:1≤o) (h' :o≤6):MM L (par o):=by
 intro p hs hst
 rw [pcs_par] at hs ⊢
 have ht:=hs.head
 have:=ev_par (L:=L) (p:=p) (by rw [ht];exact not_val (by simp [parT]) (by simp [parT]) ⟨by simp [parT,Val.wTrue],by simp [parT,Val.wFalse],by simp [parT,Val.wNull]⟩) (by rw [ht];rfl)
 rw [ht] at this
 have e:(((parT o).2.getD 1 0).toNat:Int) - 48=o:=by
   show (((UInt8.ofNat (48+o.toNat)).toNat:Nat):Int) - 48=o
   rw [UInt8.toNat_ofNat']
   omega
 rw [e] at this
 exact this
theorem mm_neg {a:Ex} (h:TT L a):MM L (un 1 a):=by
 intro p hs hst
 rw [pcs_un,if_pos rfl,tt_some] at hs hst ⊢
 have el:p+(sgn6 45::tt (kidP a 7)).length=p+1+(tt (kidP a 7)).length:=by rw [List.length_cons];omega
 rw [el] at hst ⊢
 exact ev_neg (by rw [isT_is L hs.head];decide) (h 7 (p+1) (by decide) (by decide) hs.tail hst)
theorem mm_not {a:Ex} (h:TT L a):MM L (un 2 a):=by
 intro p hs hst
 rw [pcs_un,if_neg (by decide),if_pos rfl,tt_some,tt_none] at hs hst ⊢
 have el:p+(key kNOT::tt (kidP a 3)).length=p+1+(tt (kidP a 3)).length:=by rw [List.length_cons];omega
 rw [el] at hst ⊢
 exact ev_not (by rw [isT_is L hs.head];decide) (h 3 (p+1) (by decide) (by decide) hs.tail hst)
theorem sgAt_is {q:Nat} {t:Tt} (h:tk L q=t) (h0:opT t=0) (r:Nat):sgAt L r q=0:=by
 unfold sgAt;rw [h,h0];split<;>rfl
theorem mm_null {a:Ex} (h:TT L a):MM L (un 3 a):=by
 intro p hs hst
 rw [pcs_un,if_neg (by decide),if_neg (by decide),if_pos rfl,tt_app] at hs hst ⊢
 have h2:Sits L (p+(tt (kidP a 5)).length) [key kIS,key Val.wNull]:=hs.right
 have h3:=h 5 p (by decide) (by decide) hs.left (by rw [h2.head];exact stp_is (by decide))
 have el:p+(tt (kidP a 5)++tt [none,some (key kIS),none,some (key Val.wNull)]).length=p+(tt (kidP a 5)).length+2:=by rw [List.length_append];show _+(_+2)=_;omega
 rw [el]
 exact ev_is_null h3 (sgAt_is h2.head (by decide) 4) (by rw [isT_is L h2.head];decide) (by rw [isT_is L h2.tail.head];decide) (by rw [isT_is L h2.tail.head];decide)
theorem mm_not_null {a:Ex} (h:TT L a):MM L (un 4 a):=by
 intro p hs hst
 rw [pcs_un,if_neg (by decide),if_neg (by decide),if_neg (by decide),tt_app] at hs hst ⊢
 have h2:Sits L (p+(tt (kidP a 5)).length) [key kIS,key kNOT,key Val.wNull]:=hs.right
 have h3:=h 5 p (by decide) (by decide) hs.left (by rw [h2.head];exact stp_is (by decide))
 have el:p+(tt (kidP a 5)++tt [none,some (key kIS),none,some (key kNOT),none,some (key Val.wNull)]).length=p+(tt (kidP a 5)).length+3:=by rw [List.length_append];show _+(_+3)=_;omega
 rw [el]
 exact ev_is_not_null h3 (sgAt_is h2.head (by decide) 4) (by rw [isT_is L h2.head];decide) (by rw [isT_is L h2.tail.head];decide) (by rw [isT_is L h2.tail.tail.head];decide)
theorem mm_in {a:Ex} {l:List Ex} (h:TT L a) (h0:l≠ []) (hn:l.length≤8) (hl:∀x∈l,TT L x):MM L (inn (a::l)):=by
 intro p hs hst
 rw [pcs_inn,tt_app,tt_none,tt_some,tt_none] at hs hst ⊢
 have h2:=hs.right
 have h3:=h 5 p (by decide) (by decide) hs.left (by rw [h2.head];exact stp_in (by decide))
 have h4:=listP_all h0 hl hn h2.tail
 have el:∀x:List Tt,p+(tt (kidP a 5)++key kIN::x).length=p+(tt (kidP a 5)).length+1+x.length:=fun x=>by rw [List.length_append,List.length_cons];omega
 rw [el]
 exact ev_is_in h3 (sgAt_is h2.head (by decide) 4) (by rw [isT_is L h2.head];decide) (by rw [isT_is L h2.head];decide) h4
theorem mm_call {nm:List UInt8} {l:List Ex} (h0:l≠ []) (h:nm=nCoal∧l.length≤4 ∨ (nm=nLen ∨ nm=nAbs)∧l.length≤1) (hl:∀x∈l,TT L x):MM L (call nm l):=by
 intro p hs hst
 rw [pcs_call,tt_some] at hs hst ⊢
 have el:∀x:List Tt,p+(callT nm::x).length=p+1+x.length:=fun x=>by rw [List.length_cons];omega
 rw [el]
 have hh:=hs.head
 rcases h with ⟨rfl,hn⟩|⟨rfl|rfl,hn⟩
 · exact ev_coal (hh.trans (by decide)) (listP_all h0 hl hn hs.tail)
 · exact ev_len (hh.trans (by decide)) (listP_all h0 hl hn hs.tail)
 · exact ev_abs (hh.trans (by decide)) (listP_all h0 hl hn hs.tail)
theorem bin_sits {o:Int} {a b:Ex} {p:Nat} (hs:Sits L p (tt (pcs (bin o a b)))):Sits L p (tt (kidP a (ask1 o)))∧tk L (p+(tt (kidP a (ask1 o))).length)=sgT o∧Sits L (p+(tt (kidP a (ask1 o))).length+1) (tt (kidP b (ask2 o)))∧
   p+(tt (pcs (bin o a b))).length=p+(tt (kidP a (ask1 o))).length+1+(tt (kidP b (ask2 o))).length:=by
 rw [pcs_bin,tt_app,tt_none,tt_some,tt_none] at hs ⊢
 refine ⟨hs.left,hs.right.head,hs.right.tail,?_⟩
 rw [List.length_append,List.length_cons];omega
theorem mm_cmp {o:Int} {a b:Ex} (h1:1≤o) (h14:o≤14) (ho:rk 5 o=4) (ha:TT L a) (hb:TT L b):MM L (bin o a b):=by
 intro p hs hst
 obtain ⟨s1,s2,s3,el⟩:=bin_sits hs
 have e1:ask1 o=5:=if_pos ho
 have e2:ask2 o=5:=if_pos ho
 rw [e1] at s1 s2 s3 el
 rw [e2] at s3 el
 have hr:(bin o a b).rank=4:=ho
 rw [el,hr] at hst ⊢
 have h2:=ha 5 p (by decide) (by decide) s1 (by rw [s2];exact stp_sg h1 h14 (by omega))
 have h3:=hb 5 _ (by decide) (by decide) s3 (hst.mono (by decide))
 have h4:=sgAt_sg h1 h14 s2
 rw [ho] at h4
 exact ev_is_cmp h2 h4 (by omega) h3
theorem tl_bin {o:Int} {a b:Ex} (h1:1≤o) (h14:o≤14) {r:Nat} (ho:rk 5 o=r) (hr:r=1 ∨ r=2 ∨ r=5 ∨ r=6) (ha:TL L a) (hb:TT L b) {p:Nat} (hs:Sits L p (tt (pcs (bin o a b))))
   (hst:stp (r+1) (tk L (p+(tt (pcs (bin o a b))).length))):
   ∃e0 p0,Ev (fun n=>rankP L n (r+1) p) (.ok e0 p0)∧∀R,Ev (fun n=>loopP L n r (bin o a b) (p+(tt (pcs (bin o a b))).length)) R→Ev (fun n=>loopP L n r e0 p0) R:=by
 obtain ⟨s1,s2,s3,el⟩:=bin_sits hs
 have e1:ask1 o=r:=(if_neg (by omega)).trans ho
 have e2:ask2 o=r+1:=(if_neg (by omega)).trans (by rw [ho])
 rw [e1] at s1 s2 s3 el
 rw [e2] at s3 el
 rw [el] at hst ⊢
 obtain ⟨e0,p0,k1,k2⟩:=ha r p hr s1 (by rw [s2];exact stp_sg h1 h14 (by omega))
 have h3:=hb (r+1) _ (by omega) (by omega) s3 hst
 have h4:=sgAt_sg h1 h14 s2
 rw [ho] at h4
 exact ⟨e0,p0,k1,fun R hR=>k2 R (ev_on h4 (by omega) h3 hR)⟩
theorem mm_bin {o:Int} {a b:Ex} (h1:1≤o) (h14:o≤14) (ha:TT L a) (hl:TL L a) (hb:TT L b):MM L (bin o a b):=by
 by_cases h4:rk 5 o=4
 · exact mm_cmp h1 h14 h4 ha hb
 · intro p hs hst
   have hr:rk 5 o=1 ∨ rk 5 o=2 ∨ rk 5 o=5 ∨ rk 5 o=6:=by rcases rk_bin h1 h14 with h|h<;>omega
   have hst' :stp (rk 5 o) (tk L (p+(tt (pcs (bin o a b))).length)):=hst
   obtain ⟨e0,p0,k1,k2⟩:=tl_bin h1 h14 rfl hr hl hb hs (hst'.mono (by omega))
   exact ev_left hr k1 (k2 _ (ev_stop hst'.sg))
theorem reads {e:Ex} (h:Rt e):FT e∧TT L e∧TL L e:=by
  have easy:∀{e:Ex} (ρ:Nat),e.rank=ρ→(∃t ts,tt (pcs e)=t::ts∧(4≤ρ→isW t kNOT=false)∧(8≤ρ→isW t [45]=false))→MM L e→¬(ρ=1 ∨ ρ=2 ∨ ρ=5 ∨ ρ=6)→FT e∧TT L e∧TL L e:=fun {e} ρ hρ hf hm hn=>by
    subst hρ
    exact ⟨hf,TT.of hf hm,fun r p hr hs hst=>TL.of (TT.of hf hm) (fun e=>hn (e▸hr)) hr hs hst⟩
  induction h with
  | @lit k n s h0 h1 h2 h3=>exact easy 8 rfl ⟨_,_,by rw [pcs_lit];rfl,fun _=>(valT_is h0).2.1,fun _=>(valT_is h0).2.2⟩ (mm_lit h0 h2 h3) (by decide)
  | @col nm h=>exact easy 8 rfl ⟨_,_,by rw [pcs_col];rfl,fun _=>rfl,fun _=>rfl⟩ (mm_col h) (by decide)
  | @par o h h' =>exact easy 8 rfl ⟨_,_,by rw [pcs_par];rfl,fun _=>rfl,fun _=>rfl⟩ (mm_par h h') (by decide)
  | @un o a h h' ha ih=>
    obtain ⟨hf,ht,hl⟩:=ih
    have hc:o=1 ∨ o=2 ∨ o=3 ∨ o=4:=by omega
    rcases hc with rfl|rfl|rfl|rfl
    · exact easy 7 rfl ⟨_,_,by rw [pcs_un,if_pos rfl];rfl,fun _=>by decide,fun h=>absurd h (by decide)⟩ (mm_neg ht) (by decide)
    · exact easy 3 rfl ⟨_,_,by rw [pcs_un,if_neg (by decide),if_pos rfl];rfl,fun h=>absurd h (by decide),fun h=>absurd h (by decide)⟩ (mm_not ht) (by decide)
    · obtain ⟨t,ts,e,f1,f2⟩:=hf.kid 5
      exact easy 4 rfl ⟨t,_,by rw [pcs_un,if_neg (by decide),if_neg (by decide),if_pos rfl,tt_app,e];rfl,fun _=>f1 (by decide),fun h=>absurd h (by decide)⟩ (mm_null ht) (by decide)
    · obtain ⟨t,ts,e,f1,f2⟩:=hf.kid 5
      exact easy 4 rfl ⟨t,_,by rw [pcs_un,if_neg (by decide),if_neg (by decide),if_neg (by decide),tt_app,e];rfl,fun _=>f1 (by decide),fun h=>absurd h (by decide)⟩ (mm_not_null ht) (by decide)
  | @bin o a b h1 h14 ha hb iha ihb=>
    obtain ⟨fa,ta,la⟩:=iha
    obtain ⟨fb,tb,lb⟩:=ihb
    have hf:FT (bin o a b):=by
      obtain ⟨t,ts,e,f1,f2⟩:=fa.kid (ask1 o)
      have h8:¬8≤(bin o a b).rank:=by
        show ¬8≤rk 5 o
        have:=rk_bin h1 h14
        omega
      refine ⟨t,_,by rw [pcs_bin,tt_app,e];rfl,fun h=>f1 ?_,fun h=>absurd h h8⟩
      have h:4≤rk 5 o:=h
      unfold ask1
      split<;>omega
    have hm:=mm_bin h1 h14 ta la tb
    have ht:=TT.of hf hm
    refine ⟨hf,ht,fun r p hr hs hst=>?_⟩
    by_cases hrk:rk 5 o=r
    · have hk:kidP (bin o a b) r=pcs (bin o a b):=kidP_no (Nat.le_of_eq hrk.symm)
      rw [hk] at hs hst ⊢
      exact tl_bin h1 h14 hrk hr la tb hs hst
    · exact TL.of ht hrk hr hs hst
  | @inn a l h0 hn ha hl iha ihl=>
    obtain ⟨fa,ta,la⟩:=iha
    obtain ⟨t,ts,e,f1,f2⟩:=fa.kid 5
    exact easy 4 rfl ⟨t,_,by rw [pcs_inn,tt_app,e];rfl,fun _=>f1 (by decide),fun h=>absurd h (by decide)⟩ (mm_in ta h0 hn (fun x hx=>(ihl x hx).2.1)) (by decide)
  | @call nm l h0 h hl ihl=>
    exact easy 8 rfl ⟨_,_,by rw [pcs_call];rfl,fun _=>by unfold callT;split<;>(try split)<;>decide,fun _=>by unfold callT;split<;>(try split)<;>decide⟩ (mm_call h0 h (fun x hx=>(ihl x hx).2.1)) (by decide)
end
end Go.Proofs.YtiaomhdmllhmmaaGreatDoor.Ep
namespace Go.Proofs.YtiaomhdmllhmmaaGreatDoor.Ep
open Lx
set_option linter.unusedVariables false
def pb:Pc→List UInt8
 |none=> [32]
 |some t=>t.2
def tx (l:List Pc):List UInt8:=l.flatMap pb
theorem tx_app (a b:List Pc):tx (a++b)=tx a++tx b:=List.flatMap_append
theorem tx_some (t:Tt) (l:List Pc):tx (some t::l)=t.2++tx l:=rfl
theorem tx_none (l:List Pc):tx (none::l)=32::tx l:=rfl
end Go.Proofs.YtiaomhdmllhmmaaGreatDoor.Ep
namespace Go.Proofs.YtiaomhdmllhmmaaGreatDoor.Ep
open Lx
set_option linter.unusedVariables false
def kt (t:Tk):Tt:=(t.kind,t.text)
def ct (s:List UInt8) (n:Nat):List Tt × Nat:=((cut s 0 n).1.map kt,(cut s 0 n).2.2)
theorem ct_place (s:List UInt8) (a n:Nat):((cut s a n).1.map kt,(cut s a n).2.2)=ct s n:=by
 have:=cut_shift a s 0 n
 rw [Nat.zero_add] at this
 rw [this]
 unfold ct
 rw [List.map_map]
 rfl
def pre (ts:List Tt) (r:List Tt × Nat):List Tt × Nat:=if r.2=0 then (ts++r.1,0) else r
theorem pre_cons (t:Tt) (ts:List Tt) (r:List Tt × Nat):pre [t] (pre ts r)=pre (t::ts) r:=by
 unfold pre
 by_cases h:r.2=0
 · rw [if_pos h,if_pos rfl,if_pos h];rfl
 · rw [if_neg h,if_neg h,if_neg h]
theorem pre_nil (r:List Tt × Nat):pre [] r=r:=by
 unfold pre
 split
 · rename_i h;rw [List.nil_append,←h]
 · rfl
theorem ct_blank (s:List UInt8) (n:Nat):ct (32::s) n=ct s n:=by
 have:=cut_ahead (f:= [32]) (by simp [Lx.blank]) s 0 n
 unfold ct
 rw [show (32::s)= [32]++s from rfl,this]
 exact ct_place s _ n
theorem ct_token {x z:List UInt8} {k:Nat} (h:next (x++z)=some (k,x.length)) {n:Nat} (hn:n≠120):ct (x++z) n=pre [(k,x)] (ct z (n+1)):=by
 have hr0:run Lx.blank (x++z)=0:=by
   cases hc:x++z with
   |nil=>rfl
   | cons c t=>
     rw [run_cons,if_neg]
     intro hb
     rw [hc,next_blank hb] at h
     cases h
 have hd0:(x++z).drop (run Lx.blank (x++z))=x++z:=by rw [hr0,List.drop_zero]
 have:=cut_some (a:=0) (n:=n) hd0 h hn
 rw [hr0,Nat.add_zero,List.drop_left,List.take_left] at this
 have hp:=ct_place z (0+x.length) (n+1)
 unfold ct at hp ⊢
 rw [this]
 injection hp with h1 h2
 unfold pre
 rw [←h1,←h2]
 by_cases he:(cut z (0+x.length) (n+1)).2.2=0
 · rw [if_pos he,if_pos he]
   show (_,(cut z (0+x.length) (n+1)).2.2)=_
   rw [he];rfl
 · rw [if_neg he,if_neg he]
theorem ct_full {x z:List UInt8} {k:Nat} (h:next (x++z)=some (k,x.length)):ct (x++z) 120=([],5):=by
 have hr0:run Lx.blank (x++z)=0:=by
   cases hc:x++z with
   |nil=>rfl
   | cons c t=>
     rw [run_cons,if_neg]
     intro hb
     rw [hc,next_blank hb] at h
     cases h
 have hd0:(x++z).drop (run Lx.blank (x++z))=x++z:=by rw [hr0,List.drop_zero]
 unfold ct
 rw [cut_full hd0 h];rfl
theorem ct_nil (n:Nat):ct [] n=if n=120 then ([],5) else ([(7, [])],0):=by
 unfold ct
 rw [cut_end (by rfl)]
 split<;>rfl
def Good:List Pc→List UInt8→Prop
 | [],_=>True
 |none::l,z=>Good l z
 |some t::l,z=>next (t.2++(tx l++z))=some (t.1,t.2.length)∧Good l z
theorem Good.app:∀{a b:List Pc} {z:List UInt8},Good a (tx b++z)→Good b z→Good (a++b) z
 | [],b,z,_,h=>h
 |none::a,b,z,h1,h2=>Good.app (a:=a) h1 h2
 |some t::a,b,z,h1,h2=>⟨by show next (t.2++(tx (a++b)++z))=_;rw [tx_app,List.append_assoc];exact h1.1,Good.app (a:=a) h1.2 h2⟩
theorem ct_pieces:∀(l:List Pc) (z:List UInt8) (n:Nat),Good l z→n≤120→(n+(tt l).length≤120→ct (tx l++z) n=pre (tt l) (ct z (n+(tt l).length)))∧(120<n+(tt l).length→ct (tx l++z) n=([],5))
 | [],z,n,_,_=>⟨fun _=>(pre_nil _).symm,fun h=>by simp [tt] at h;omega⟩
 | none::l,z,n,h,hn=>by
   rw [tx_none,List.cons_append,ct_blank,tt_none]
   exact ct_pieces l z n h hn
 | some t::l,z,n,h,hn=>by
   rw [tx_some,List.append_assoc,tt_some,List.length_cons]
   by_cases h120:n=120
   · subst h120
     exact ⟨fun h=>by omega,fun _=>ct_full h.1⟩
   · obtain ⟨i1,i2⟩:=ct_pieces l z (n+1) h.2 (by omega)
     rw [ct_token h.1 h120]
     refine ⟨fun h2=>?_,fun h2=>?_⟩
     · rw [i1 (by omega),pre_cons,show n+1+(tt l).length=n+((tt l).length+1) by omega]
     · rw [i2 (by omega)];rfl
def soft (z:List UInt8):Prop:=∀c t,z=c::t→c=32 ∨ c=41 ∨ c=44
theorem soft_nil:soft []:=fun c t e=>by cases e
theorem soft_cons {c:UInt8} (z:List UInt8) (h:c=32 ∨ c=41 ∨ c=44):soft (c::z):=fun d t e=>by injection e with e _;exact e▸h
theorem soft.free {z:List UInt8} (h:soft z):free z=true:=by
 cases z with
 |nil=>rfl
 |cons c t=>rcases h c t rfl with rfl|rfl|rfl<;>rfl
theorem soft.quote {z:List UInt8} (h:soft z):z.head?≠some 39:=by
 cases z with
 |nil=>simp
 |cons c t=>rcases h c t rfl with rfl|rfl|rfl<;>simp
theorem word_more {k:Nat} {p:UInt8→Bool} {most:Nat} (hp:∀c,p c=true→glue c=true) {c:UInt8} {x z:List UInt8} {k' :Nat} (h:word k p most c x=some (k',1+x.length)) (hz:free z=true):word k p most c (x++z)=some (k',1+x.length):=by
 unfold word at h
 split at h
 · rename_i hc
   injection h with h
   injection h with h1 h2
   have hx:=run_ge (p:=p) (x:=x) (y:= []) (by rw [List.append_nil];omega)
   have hrz:=run_all z hx
   rw [run_free hp hz,Nat.add_zero] at hrz
   unfold word
   rw [hrz,List.drop_left,if_pos ⟨by have:=hc.1;omega,hz⟩,h1]
 · cases h
theorem next_word {x z:List UInt8} {k:Nat} (h:next x=some (k,x.length)) (hk:k=1 ∨ k=2 ∨ k=3 ∨ k=5) (hz:free z=true):next (x++z)=some (k,x.length):=by
  have h0:=(next_le h).1
  cases x with
  |nil=>simp at h0
  | cons c x=>
    rw [List.length_cons,Nat.add_comm] at h ⊢
    simp only [List.cons_append,next] at h ⊢
    split at h
    · rename_i h1;rw [if_pos h1];exact word_more (fun _=>name_glue) h hz
    rename_i h1;rw [if_neg h1]
    split at h
    · rename_i h2;rw [if_pos h2];exact word_more (fun _=>key_glue) h hz
    rename_i h2;rw [if_neg h2]
    split at h
    · rename_i h3;rw [if_pos h3]
      split at h
      · injection h with h
        injection h with h4 h5
        have:x= []:=List.eq_nil_of_length_eq_zero (by omega)
        subst this
        rw [List.nil_append,if_pos hz,h4];rfl
      · cases h
    rename_i h3;rw [if_neg h3]
    split at h
    · rename_i h4;rw [if_pos h4];exact word_more (fun _=>dig_glue) h hz
    rename_i h4;rw [if_neg h4]
    split at h
    · obtain ⟨m,hm,e⟩:=Option.map_eq_some_iff.1 h
      injection e with e1 _
      omega
    rename_i h5;rw [if_neg h5]
    split at h
    · rename_i h6;rw [if_pos h6]
      cases x with
      |nil=>simp [param] at h
      | cons d x=>
        simp only [List.cons_append,param] at h ⊢
        split at h
        · rename_i hf
          injection h with h
          injection h with h7 h8
          have:x= []:=List.eq_nil_of_length_eq_zero (by simp at h8;omega)
          subst this
          rw [List.nil_append,if_pos ⟨hf.1,hz⟩,h7];rfl
        · cases h
    · exfalso
      cases x with
      | nil=>
        simp only [sign] at h
        split at h
        · injection h with h;injection h with h _;omega
        · cases h
      | cons d t=>
        simp only [sign] at h
        split at h
        · injection h with h;injection h with h _;omega
        · split at h
          · injection h with h;injection h with h _;omega
          · cases h
theorem next_loose {c:UInt8} (h:c=40 ∨ c=41 ∨ c=44 ∨ c=45) (z:List UInt8):next (c::z)=some (6,1):=by
 rcases h with rfl|rfl|rfl|rfl<;>cases z<;>rfl
theorem next_key (w:List UInt8) (h:next w=some (2,w.length)) {z:List UInt8} (hz:free z=true):next (w++z)=some (2,w.length):=next_word h (.inr (.inl rfl)) hz
theorem next_sg {o:Int} (h:1≤o) (h' :o≤14) (z:List UInt8):next ((sgT o).2++32::z)=some ((sgT o).1,(sgT o).2.length):=by
 rcases op_cases h h' with rfl|rfl|rfl|rfl|rfl|rfl|rfl|rfl|rfl|rfl|rfl|rfl|rfl|rfl
 · exact next_key kOR (by decide) rfl
 · exact next_key kAND (by decide) rfl
 all_goals rfl
theorem next_digits {d:List UInt8} (h0:d≠ []) (ha:Num.alld d=true) (hl:d.length≤19) (hz:d= [48] ∨ d.head?≠some 48):next d=some (3,d.length):=by
  cases d with
  |nil=>exact absurd rfl h0
  | cons c t=>
    have hd:∀x,Num.isd x=dig x:=fun x=>by rw [dig_num];rfl
    have hall:∀l:List UInt8,Num.alld l=true→∀x∈l,dig x=true:=fun l=>by
      induction l with
      |nil=>intro _ x hx;simp at hx
      | cons y l ih=>
        intro h x hx
        simp only [Num.alld,Bool.and_eq_true] at h
        rcases List.mem_cons.1 hx with rfl|hx
        · rw [←hd];exact h.1
        · exact ih h.2 x hx
    have hc:=hall _ ha c (by simp)
    have ht:∀x∈t,dig x=true:=fun x hx=>hall _ ha x (by simp [hx])
    have hcn:48≤c.toNat∧c.toNat≤57:=by
      rw [dig_num] at hc
      simp at hc
      omega
    have h1:small c=false:=by rw [small_num,decide_eq_false (by omega)];rfl
    have h2:cap c=false:=by rw [cap_num,decide_eq_false (by omega)];rfl
    have hr:run dig t=t.length:=by have:=run_all (p:=dig) [] ht;rw [List.append_nil,run_nil,Nat.add_zero] at this;exact this
    simp only [next,h1,h2,Bool.false_eq_true,if_false]
    by_cases h48:c=48
    · subst h48
      rcases hz with hz|hz
      · injection hz with _ hz
        subst hz;rfl
      · simp at hz
    · rw [if_neg h48,if_pos hc]
      unfold word
      rw [hr,List.drop_length,if_pos ⟨by simp at hl;omega,rfl⟩,List.length_cons,Nat.add_comm]
theorem quo_text {z:List UInt8} (hz:z.head?≠some 39):∀l:List UInt8,Val.pl l=true→quo (Val.q l++39::z)=some ((Val.q l).length+1)
  | [],_=>by
    cases z with
    |nil=>rfl
    | cons d t=>
      have hd:d≠39:=fun e=>hz (by rw [e];rfl)
      simp [Val.q,quo,hd]
  | c ::l,h=>by
    have hp:plainB c=true∧Val.pl l=true:=by
      unfold Val.pl at h ⊢
      rw [List.all_cons,Bool.and_eq_true] at h
      refine ⟨?_,h.2⟩
      rw [plain_num]
      have:=h.1
      simp at this
      simp
      omega
    have ih:=quo_text hz l hp.2
    by_cases hc:c=39
    · subst hc
      rw [show Val.q (39::l)=39::39::Val.q l from rfl]
      simp only [List.cons_append,quo,if_pos]
      rw [ih];rfl
    · have hq:Val.q (c::l)=c::Val.q l:=by show (if c=39 then _ else _)=_;rw [if_neg hc]
      rw [hq,List.cons_append]
      cases hr:Val.q l++39::z with
      |nil=>simp at hr
      | cons d t=>
        rw [hr] at ih
        simp only [quo,if_neg hc,if_pos hp.1]
        rw [ih];rfl
theorem next_val {k n:Int} {s z:List UInt8} (h:Val.okV k n s=true) (h0:k=1→0≤n) (h1:n≤9223372036854775807) (hz:soft z):next ((valT k n s).2++z)=some ((valT k n s).1,(valT k n s).2.length):=by
  rcases show_cases h with rfl|rfl|rfl|rfl
  · exact next_key Val.wNull (by decide) hz.free
  · have hn:=h0 rfl
    have e:(valT 1 n s).2=Num.dg n.natAbs:=by show Num.dgz n=_;unfold Num.dgz;rw [if_neg (by omega)]
    show next ((valT 1 n s).2++z)=some (3,(valT 1 n s).2.length)
    rw [e]
    refine next_word (next_digits ?_ (Num.dg_alld _ _ (Nat.le_refl _)) (Num.dg_len19 (by omega)) ?_) (.inr (.inr (.inl rfl))) hz.free
    · intro e2
      have:=Num.dg_pos n.natAbs
      rw [e2] at this;simp at this
    · by_cases hm:1≤n.natAbs
      · exact .inr (Num.dg_head _ _ (Nat.le_refl _) hm)
      · rw [show n.natAbs=0 by omega]
        exact .inl (by rw [Num.dg_small (by omega)];rfl)
  · by_cases hn:n=1
    · subst hn
      exact next_key Val.wTrue (by decide) hz.free
    · have e:(valT 2 n s).2=Val.wFalse:=by
        show Val.showV 2 n s=_
        unfold Val.showV;rw [if_neg (by decide),if_neg (by decide),if_pos rfl,if_neg hn]
      show next ((valT 2 n s).2++z)=some (2,(valT 2 n s).2.length)
      rw [e]
      exact next_key Val.wFalse (by decide) hz.free
  · have hp:Val.pl s=true:=by
      unfold Val.okV at h
      rw [if_neg (by decide),if_neg (by decide),if_neg (by decide),if_pos rfl] at h
      simp only [Bool.and_eq_true] at h
      exact h.2
    have e:(valT 3 n s).2=39::(Val.q s++ [39]):=rfl
    show next ((valT 3 n s).2++z)=some (4,(valT 3 n s).2.length)
    rw [e]
    have hq:=quo_text hz.quote s hp
    show next (39::(Val.q s++ [39]++z))=_
    rw [List.append_assoc]
    have:next (39::(Val.q s++([39]++z)))=(quo (Val.q s++([39]++z))).map fun n=>(4,n+1):=rfl
    rw [this,show Val.q s++([39]++z)=Val.q s++39::z from rfl,hq]
    simp
theorem next_par {o:Int} (h:1≤o) (h' :o≤6) {z:List UInt8} (hz:soft z):next ((parT o).2++z)=some ((parT o).1,(parT o).2.length):=by
 have hc:o=1 ∨ o=2 ∨ o=3 ∨ o=4 ∨ o=5 ∨ o=6:=by omega
 refine next_word ?_ (.inr (.inr (.inr rfl))) hz.free
 rcases hc with rfl|rfl|rfl|rfl|rfl|rfl<;>decide
theorem Good.kid {e:Ex} (h:∀z,soft z→Good (pcs e) z) (r:Nat) {z:List UInt8} (hz:soft z):Good (kidP e r) z:=by
 by_cases hr:e.rank<r
 · rw [kidP_yes hr]
   refine ⟨next_loose (.inl rfl) _,Good.app (h _ ?_) ⟨next_loose (.inr (.inl rfl)) _,trivial⟩⟩
   exact soft_cons _ (.inr (.inl rfl))
 · rw [kidP_no (by omega)];exact h z hz
theorem Good.list:∀{l:List Ex},(∀x∈l,∀z,soft z→Good (pcs x) z)→∀{z:List UInt8},soft z→Good (pcsL l) z
 | [],_,z,_=>by rw [pcsL];trivial
 | [a],h,z,hz=>by rw [pcsL_one];exact h a (by simp) z hz
 | a::b::l,h,z,hz=>by
   rw [pcsL_more]
   refine Good.app (h a (by simp) _ (soft_cons _ (.inr (.inr rfl)))) ⟨next_loose (.inr (.inr (.inl rfl))) _,?_⟩
   exact Good.list (l:=b::l) (fun x hx=>h x (List.mem_cons_of_mem _ hx)) hz
theorem good {e:Ex} (h:Rt e):∀z,soft z→Good (pcs e) z:=by
 induction h with
 | @lit k n s h0 h1 h2 h3=>intro z hz;rw [pcs_lit];exact ⟨next_val h0 h1 h2 hz,trivial⟩
 | @col nm h=>
   intro z hz
   rw [pcs_col]
   refine ⟨next_word ?_ (.inl rfl) hz.free,trivial⟩
   have h1:=kind_lng h (by decide)
   have hne:nm≠ []:=fun e=>by rw [e] at h;cases h
   unfold kindOf at h
   rw [if_neg hne] at h
   cases hn:next nm with
   |none=>rw [hn] at h;cases h
   | some km=>
     obtain ⟨k,m⟩:=km
     rw [hn] at h
     simp only at h
     split at h
     · rename_i e;rw [h,e]
     · cases h
 | @par o h h' =>intro z hz;rw [pcs_par];exact ⟨next_par h h' hz,trivial⟩
 | @un o a h h' ha ih=>
   intro z hz
   rw [pcs_un]
   split
   · exact ⟨next_loose (.inr (.inr (.inr rfl))) _,Good.kid ih 7 hz⟩
   split
   · exact ⟨next_key kNOT (by decide) rfl,Good.kid ih 3 hz⟩
   split
   · exact Good.app (Good.kid ih 5 (soft_cons _ (.inl rfl))) ⟨next_key kIS (by decide) rfl,next_key Val.wNull (by decide) hz.free,trivial⟩
   · exact Good.app (Good.kid ih 5 (soft_cons _ (.inl rfl))) ⟨next_key kIS (by decide) rfl,next_key kNOT (by decide) rfl,next_key Val.wNull (by decide) hz.free,trivial⟩
 | @bin o a b h1 h14 ha hb iha ihb=>
   intro z hz
   rw [pcs_bin]
   exact Good.app (Good.kid iha _ (soft_cons _ (.inl rfl))) ⟨next_sg h1 h14 _,Good.kid ihb _ hz⟩
 | @inn a l h0 hn ha hl iha ihl=>
   intro z hz
   rw [pcs_inn]
   exact Good.app (Good.kid iha 5 (soft_cons _ (.inl rfl))) ⟨next_key kIN (by decide) rfl,next_loose (.inl rfl) _,Good.app (Good.list ihl (soft_cons _ (.inr (.inl rfl)))) ⟨next_loose (.inr (.inl rfl)) _,trivial⟩⟩
 | @call nm l h0 h hl ihl=>
   intro z hz
   rw [pcs_call]
   refine ⟨?_,next_loose (.inl rfl) _,Good.app (Good.list ihl (soft_cons _ (.inr (.inl rfl)))) ⟨next_loose (.inr (.inl rfl)) _,trivial⟩⟩
   unfold callT
   split
   · exact next_key kCOAL (by decide) rfl
   split
   · exact next_key kLEN (by decide) rfl
   · exact next_key kABS (by decide) rfl
end Go.Proofs.YtiaomhdmllhmmaaGreatDoor.Ep
namespace Go.Proofs.YtiaomhdmllhmmaaGreatDoor.Ep
open Lx
set_option linter.unusedVariables false
theorem kind_next {s:List UInt8} {k:Nat} (h:kindOf s=k) (h1:1≤k) (h7:k≠7):next s=some (k,s.length):=by
 unfold kindOf at h
 split at h
 · omega
 · cases hn:next s with
   |none=>rw [hn] at h;simp only at h;omega
   | some km=>
     obtain ⟨k',m⟩:=km
     rw [hn] at h
     simp only at h
     split at h
     · rename_i e;rw [h,e]
     · omega
end Go.Proofs.YtiaomhdmllhmmaaGreatDoor.Ep
