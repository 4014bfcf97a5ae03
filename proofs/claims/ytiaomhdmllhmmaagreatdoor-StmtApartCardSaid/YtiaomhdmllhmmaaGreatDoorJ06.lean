/- Every statement comes back from its tokens. A statement's text is cut into its tokens; unlike statements have unlike texts. Slices as lists: a slice that came in, or that the call made, whose cells read as a given  -/
import Derived.Test.YtiaomhdmllhmmaaGreatDoorJ05
import Derived.Below
import Derived.Laws.OwnMore
import Derived.WalkKit
namespace Go.Proofs.YtiaomhdmllhmmaaGreatDoor.Sm
open Lx Ep
set_option linter.unusedVariables false
section
variable {L b:List Tt} {x:St} {B:Tt→Prop}
theorem st_create (h:Rd L b (createP L) x B):Rd L (key kCREATE::b) (stmtP L) x B:=by
 exact Rd.yes (F:=createP L) (by decide) h
theorem st_drop (h:Rd L b (fun _ q=>dropP L q) x B):Rd L (key kDROP::b) (stmtP L) x B:=by
 refine Rd.no (F:=createP L) (fun x hx=>by rw [show x=key kDROP from hx];decide) ?_
 exact Rd.yes (F:=fun _ q=>dropP L q) (by decide) h
theorem st_alter (h:Rd L b (alterP L) x B):Rd L (key kALTER::b) (stmtP L) x B:=by
 refine Rd.no (F:=createP L) (fun x hx=>by rw [show x=key kALTER from hx];decide) ?_
 refine Rd.no (F:=fun _ q=>dropP L q) (fun x hx=>by rw [show x=key kALTER from hx];decide) ?_
 exact Rd.yes (F:=alterP L) (by decide) h
theorem st_grant (h:Rd L b (fun _ q=>grantP L q) x B):Rd L (key kGRANT::b) (stmtP L) x B:=by
 refine Rd.no (F:=createP L) (fun x hx=>by rw [show x=key kGRANT from hx];decide) ?_
 refine Rd.no (F:=fun _ q=>dropP L q) (fun x hx=>by rw [show x=key kGRANT from hx];decide) ?_
 refine Rd.no (F:=alterP L) (fun x hx=>by rw [show x=key kGRANT from hx];decide) ?_
 exact Rd.yes (F:=fun _ q=>grantP L q) (by decide) h
theorem st_revoke (h:Rd L b (fun _ q=>revokeP L q) x B):Rd L (key kREVOKE::b) (stmtP L) x B:=by
 refine Rd.no (F:=createP L) (fun x hx=>by rw [show x=key kREVOKE from hx];decide) ?_
 refine Rd.no (F:=fun _ q=>dropP L q) (fun x hx=>by rw [show x=key kREVOKE from hx];decide) ?_
 refine Rd.no (F:=alterP L) (fun x hx=>by rw [show x=key kREVOKE from hx];decide) ?_
 refine Rd.no (F:=fun _ q=>grantP L q) (fun x hx=>by rw [show x=key kREVOKE from hx];decide) ?_
 exact Rd.yes (F:=fun _ q=>revokeP L q) (by decide) h
theorem st_prepare (h:Rd L b (prepP L) x B):Rd L (key kPREPARE::b) (stmtP L) x B:=by
 refine Rd.no (F:=createP L) (fun x hx=>by rw [show x=key kPREPARE from hx];decide) ?_
 refine Rd.no (F:=fun _ q=>dropP L q) (fun x hx=>by rw [show x=key kPREPARE from hx];decide) ?_
 refine Rd.no (F:=alterP L) (fun x hx=>by rw [show x=key kPREPARE from hx];decide) ?_
 refine Rd.no (F:=fun _ q=>grantP L q) (fun x hx=>by rw [show x=key kPREPARE from hx];decide) ?_
 refine Rd.no (F:=fun _ q=>revokeP L q) (fun x hx=>by rw [show x=key kPREPARE from hx];decide) ?_
 exact Rd.yes (F:=prepP L) (by decide) h
theorem st_execute (h:Rd L b (exeP L) x B):Rd L (key kEXECUTE::b) (stmtP L) x B:=by
 refine Rd.no (F:=createP L) (fun x hx=>by rw [show x=key kEXECUTE from hx];decide) ?_
 refine Rd.no (F:=fun _ q=>dropP L q) (fun x hx=>by rw [show x=key kEXECUTE from hx];decide) ?_
 refine Rd.no (F:=alterP L) (fun x hx=>by rw [show x=key kEXECUTE from hx];decide) ?_
 refine Rd.no (F:=fun _ q=>grantP L q) (fun x hx=>by rw [show x=key kEXECUTE from hx];decide) ?_
 refine Rd.no (F:=fun _ q=>revokeP L q) (fun x hx=>by rw [show x=key kEXECUTE from hx];decide) ?_
 refine Rd.no (F:=prepP L) (fun x hx=>by rw [show x=key kEXECUTE from hx];decide) ?_
 exact Rd.yes (F:=exeP L) (by decide) h
theorem st_dealloc (h:Rd L b (fun _ q=>oneNm L (fun x=> .mk 22 [] x [] [] [] [] [] noEx [] [] 0 0 false []) q) x B):Rd L (key kDEALLOCATE::b) (stmtP L) x B:=by
 refine Rd.no (F:=createP L) (fun x hx=>by rw [show x=key kDEALLOCATE from hx];decide) ?_
 refine Rd.no (F:=fun _ q=>dropP L q) (fun x hx=>by rw [show x=key kDEALLOCATE from hx];decide) ?_
 refine Rd.no (F:=alterP L) (fun x hx=>by rw [show x=key kDEALLOCATE from hx];decide) ?_
 refine Rd.no (F:=fun _ q=>grantP L q) (fun x hx=>by rw [show x=key kDEALLOCATE from hx];decide) ?_
 refine Rd.no (F:=fun _ q=>revokeP L q) (fun x hx=>by rw [show x=key kDEALLOCATE from hx];decide) ?_
 refine Rd.no (F:=prepP L) (fun x hx=>by rw [show x=key kDEALLOCATE from hx];decide) ?_
 refine Rd.no (F:=exeP L) (fun x hx=>by rw [show x=key kDEALLOCATE from hx];decide) ?_
 exact Rd.yes (F:=fun _ q=>oneNm L (fun x=> .mk 22 [] x [] [] [] [] [] noEx [] [] 0 0 false []) q) (by decide) h
theorem st_rows {t:Tt} {ts:List Tt} (ht:t=key kINSERT ∨ t=key kUPDATE ∨ t=key kDELETE ∨ t=key kSELECT) (h:Rd L (t::ts) (rowsP L) x B):Rd L (t::ts) (stmtP L) x B:=by
 refine Rd.no (F:=createP L) (fun x hx=>by rw [show x=t from hx];rcases ht with rfl|rfl|rfl|rfl<;>decide) ?_
 refine Rd.no (F:=fun _ q=>dropP L q) (fun x hx=>by rw [show x=t from hx];rcases ht with rfl|rfl|rfl|rfl<;>decide) ?_
 refine Rd.no (F:=alterP L) (fun x hx=>by rw [show x=t from hx];rcases ht with rfl|rfl|rfl|rfl<;>decide) ?_
 refine Rd.no (F:=fun _ q=>grantP L q) (fun x hx=>by rw [show x=t from hx];rcases ht with rfl|rfl|rfl|rfl<;>decide) ?_
 refine Rd.no (F:=fun _ q=>revokeP L q) (fun x hx=>by rw [show x=t from hx];rcases ht with rfl|rfl|rfl|rfl<;>decide) ?_
 refine Rd.no (F:=prepP L) (fun x hx=>by rw [show x=t from hx];rcases ht with rfl|rfl|rfl|rfl<;>decide) ?_
 refine Rd.no (F:=exeP L) (fun x hx=>by rw [show x=t from hx];rcases ht with rfl|rfl|rfl|rfl<;>decide) ?_
 refine Rd.no (F:=fun _ q=>oneNm L (fun x=> .mk 22 [] x [] [] [] [] [] noEx [] [] 0 0 false []) q) (fun x hx=>by rw [show x=t from hx];rcases ht with rfl|rfl|rfl|rfl<;>decide) ?_
 exact h
theorem rd_one {f:Bs→St} (n:Bs):Rd L [(1,n)] (fun _ q=>oneNm L f q) (f n) B:=Rd.name (g:=fun _ x q=> .ok (f x) q) Rd.pure
theorem rd_on {f:Bs→Bs→St} {w:Bs} (hw:isW (key w) w=true) (n m:Bs):Rd L [(1,n),key w,(1,m)] (fun _ q=>onNm L f w q) (f n m) B:=by
 refine Rd.name (g:=fun _ x q=>(mustP L w q).bind fun _ q=>(nameP L q).bind fun y q=> .ok (f x y) q) ?_
 exact Rd.must (g:=fun _ q=>(nameP L q).bind fun y q=> .ok (f n y) q) hw (Rd.name (g:=fun _ y q=> .ok (f n y) q) Rd.pure)
theorem rd_priv {p:Int} (h:1≤p) (h' :p≤4) {A:Tt→Prop}:Rd L [key (prW p)] (fun _ q=>privP L q) p A:=by
 intro q hs _
 have hh:=hs.head
 refine (Ev.pure _).congr fun n=>?_
 have hc:p=1 ∨ p=2 ∨ p=3 ∨ p=4:=by omega
 show privP L q=_
 unfold privP
 rw [isT_is L hh,isT_is L hh,isT_is L hh,isT_is L hh]
 rcases hc with rfl|rfl|rfl|rfl<;>rfl
theorem rd_alter {t:Bs} (h:Rd L b (fun n q=>alt2 L t n q) x B):Rd L (key kTABLE::(1,t)::b) (alterP L) x B:=
 Rd.must (g:=fun n q=>(nameP L q).bind fun t q=>alt2 L t n q) (by decide) (Rd.name (g:=fun n t q=>alt2 L t n q) h)
theorem prW_not {p:Int} (h:1≤p) (h' :p≤4):isW (key (prW p)) kROLE=false:=by
 have hc:p=1 ∨ p=2 ∨ p=3 ∨ p=4:=by omega
 rcases hc with rfl|rfl|rfl|rfl<;>decide
end
theorem rd_stmt {L:List Tt} {s:St} (h:OkS s):Rd L (tt (stP s)) (stmtP L) s Fin:=by
  cases h with
  | @table t cols cons h0 h1 h2 h3 h4 h5=>
    have e:stP (.mk 1 t [] [] cols cons [] [] noEx [] [] 0 0 false [])=K kCREATE::none::K kTABLE::none::N t::none::brk (sep (cols.map coP++cons.map cnP)):=by unfold stP;rfl
    rw [e,tt_K,tt_none,tt_K,tt_none]
    refine st_create ?_
    refine Rd.no (F:=fun _ q=>oneNm L (fun x=> .mk 10 [] x [] [] [] [] [] noEx [] [] 0 0 false []) q) (fun x hx=>by rw [show x=key kTABLE from hx];decide) ?_
    refine Rd.no (F:=fun _ q=>indexP L q) (fun x hx=>by rw [show x=key kTABLE from hx];decide) ?_
    exact Rd.must (g:=fun n q=>tableP L n q) (by decide) (rd_table h1 h2 h3 h4 h5)
  | @dropTable t h0=>
    have e:tt (stP (.mk 2 t [] [] [] [] [] [] noEx [] [] 0 0 false []))= [key kDROP,key kTABLE,(1,t)]:=by unfold stP;rfl
    rw [e]
    refine st_drop ?_
    refine Rd.no (F:=fun _ q=>oneNm L (fun x=> .mk 11 [] x [] [] [] [] [] noEx [] [] 0 0 false []) q) (fun x hx=>by rw [show x=key kTABLE from hx];decide) ?_
    refine Rd.no (F:=fun _ q=>onNm L (fun x t=> .mk 9 t x [] [] [] [] [] noEx [] [] 0 0 false []) kON q) (fun x hx=>by rw [show x=key kTABLE from hx];decide) ?_
    exact Rd.must (g:=fun _ q=>oneNm L (fun t=> .mk 2 t [] [] [] [] [] [] noEx [] [] 0 0 false []) q) (by decide) (rd_one t)
  | @addCol t x h0 h1=>
    have e:tt (stP (.mk 3 t [] [] [x] [] [] [] noEx [] [] 0 0 false []))=key kALTER::key kTABLE::(1,t)::key kADD::key kCOLUMN::tt (coP x):=by unfold stP;rfl
    rw [e]
    refine st_alter (rd_alter ?_)
    refine Rd.no (F:=fun _ q=>renP L t q) (fun x hx=>by rw [show x=key kADD from hx];decide) ?_
    refine Rd.yes (F:=fun n q=>addP L t n q) (by decide) ?_
    refine Rd.no (F:=fun n q=>consOf L t n q) (fun x hx=>by rw [show x=key kCOLUMN from hx];decide) ?_
    refine Rd.must (g:=fun _ q=>(columnP L q).bind fun x q=> .ok (St.mk 3 t [] [] [x] [] [] [] noEx [] [] 0 0 false []) q) (by decide) ?_
    have:=Rd.bind (L:=L) (b:= []) (B:=Fin) (g:=fun _ x q=> .ok (St.mk 3 t [] [] [x] [] [] [] noEx [] [] 0 0 false []) q) (rd_col h1) Rd.pure fun t ht=>fin_is ht _
    rw [List.append_nil] at this
    exact this
  | @dropCol t n h0 h1=>
    have e:tt (stP (.mk 4 t n [] [] [] [] [] noEx [] [] 0 0 false []))= [key kALTER,key kTABLE,(1,t),key kDROP,key kCOLUMN,(1,n)]:=by unfold stP;rfl
    rw [e]
    refine st_alter (rd_alter ?_)
    refine Rd.no (F:=fun _ q=>renP L t q) (fun x hx=>by rw [show x=key kDROP from hx];decide) ?_
    refine Rd.no (F:=fun n q=>addP L t n q) (fun x hx=>by rw [show x=key kDROP from hx];decide) ?_
    refine Rd.must (g:=fun _ q=>drP L t q) (by decide) ?_
    refine Rd.no (F:=fun _ q=>oneNm L (fun x=> .mk 7 t x [] [] [] [] [] noEx [] [] 0 0 false []) q) (fun x hx=>by rw [show x=key kCOLUMN from hx];decide) ?_
    exact Rd.must (g:=fun _ q=>oneNm L (fun x=> .mk 4 t x [] [] [] [] [] noEx [] [] 0 0 false []) q) (by decide) (rd_one n)
  | @rename t n h0 h1=>
    have e:tt (stP (.mk 5 t n [] [] [] [] [] noEx [] [] 0 0 false []))= [key kALTER,key kTABLE,(1,t),key kRENAME,key kTO,(1,n)]:=by unfold stP;rfl
    rw [e]
    refine st_alter (rd_alter ?_)
    refine Rd.yes (F:=fun _ q=>renP L t q) (by decide) ?_
    exact Rd.must (g:=fun _ q=>oneNm L (fun x=> .mk 5 t x [] [] [] [] [] noEx [] [] 0 0 false []) q) (by decide) (rd_one n)
  | @addCons t x h0 h1=>
    have e:tt (stP (.mk 6 t [] [] [] [x] [] [] noEx [] [] 0 0 false []))=key kALTER::key kTABLE::(1,t)::key kADD::key kCONSTRAINT::tt (cnB x):=by unfold stP;rfl
    rw [e]
    refine st_alter (rd_alter ?_)
    refine Rd.no (F:=fun _ q=>renP L t q) (fun x hx=>by rw [show x=key kADD from hx];decide) ?_
    refine Rd.yes (F:=fun n q=>addP L t n q) (by decide) ?_
    refine Rd.yes (F:=fun n q=>consOf L t n q) (by decide) ?_
    have:=Rd.bind (L:=L) (b:= []) (B:=Fin) (g:=fun _ x q=> .ok (St.mk 6 t [] [] [] [x] [] [] noEx [] [] 0 0 false []) q) (rd_cn (A:=Any) h1) Rd.pure fun _ _=>trivial
    rw [List.append_nil] at this
    exact this
  | @dropCons t n h0 h1=>
    have e:tt (stP (.mk 7 t n [] [] [] [] [] noEx [] [] 0 0 false []))= [key kALTER,key kTABLE,(1,t),key kDROP,key kCONSTRAINT,(1,n)]:=by unfold stP;rfl
    rw [e]
    refine st_alter (rd_alter ?_)
    refine Rd.no (F:=fun _ q=>renP L t q) (fun x hx=>by rw [show x=key kDROP from hx];decide) ?_
    refine Rd.no (F:=fun n q=>addP L t n q) (fun x hx=>by rw [show x=key kDROP from hx];decide) ?_
    refine Rd.must (g:=fun _ q=>drP L t q) (by decide) ?_
    exact Rd.yes (F:=fun _ q=>oneNm L (fun x=> .mk 7 t x [] [] [] [] [] noEx [] [] 0 0 false []) q) (by decide) (rd_one n)
  | @index t n ns h0 h1 h2=>
    have e:tt (stP (.mk 8 t n [] [] [] ns [] noEx [] [] 0 0 false []))=key kCREATE::key kINDEX::(1,n)::key kON::(1,t)::tt (brk (nmsP ns)):=by unfold stP;rfl
    rw [e]
    refine st_create ?_
    refine Rd.no (F:=fun _ q=>oneNm L (fun x=> .mk 10 [] x [] [] [] [] [] noEx [] [] 0 0 false []) q) (fun x hx=>by rw [show x=key kINDEX from hx];decide) ?_
    refine Rd.yes (F:=fun _ q=>indexP L q) (by decide) ?_
    refine Rd.name (g:=fun _ x q=>(mustP L kON q).bind fun _ q=>(nameP L q).bind fun t q=>(insideP L 3 q).bind fun l q=> .ok (St.mk 8 t x [] [] [] l [] noEx [] [] 0 0 false []) q) ?_
    refine Rd.must (g:=fun _ q=>(nameP L q).bind fun t q=>(insideP L 3 q).bind fun l q=> .ok (St.mk 8 t n [] [] [] l [] noEx [] [] 0 0 false []) q) (by decide) ?_
    refine Rd.name (g:=fun _ t q=>(insideP L 3 q).bind fun l q=> .ok (St.mk 8 t n [] [] [] l [] noEx [] [] 0 0 false []) q) ?_
    have:=Rd.bind (L:=L) (b:= []) (B:=Fin) (g:=fun _ l q=> .ok (St.mk 8 t n [] [] [] l [] noEx [] [] 0 0 false []) q) (rd_inside (A:=Any) h2 (Nat.le_refl _)) Rd.pure fun _ _=>trivial
    rw [List.append_nil] at this
    exact this
  | @dropIndex t n h0 h1=>
    have e:tt (stP (.mk 9 t n [] [] [] [] [] noEx [] [] 0 0 false []))= [key kDROP,key kINDEX,(1,n),key kON,(1,t)]:=by unfold stP;rfl
    rw [e]
    refine st_drop ?_
    refine Rd.no (F:=fun _ q=>oneNm L (fun x=> .mk 11 [] x [] [] [] [] [] noEx [] [] 0 0 false []) q) (fun x hx=>by rw [show x=key kINDEX from hx];decide) ?_
    exact Rd.yes (F:=fun _ q=>onNm L (fun x t=> .mk 9 t x [] [] [] [] [] noEx [] [] 0 0 false []) kON q) (by decide) (rd_on (by decide) n t)
  | @role n h0=>
    have e:tt (stP (.mk 10 [] n [] [] [] [] [] noEx [] [] 0 0 false []))= [key kCREATE,key kROLE,(1,n)]:=by unfold stP;rfl
    rw [e]
    exact st_create (Rd.yes (F:=fun _ q=>oneNm L (fun x=> .mk 10 [] x [] [] [] [] [] noEx [] [] 0 0 false []) q) (by decide) (rd_one n))
  | @dropRole n h0=>
    have e:tt (stP (.mk 11 [] n [] [] [] [] [] noEx [] [] 0 0 false []))= [key kDROP,key kROLE,(1,n)]:=by unfold stP;rfl
    rw [e]
    exact st_drop (Rd.yes (F:=fun _ q=>oneNm L (fun x=> .mk 11 [] x [] [] [] [] [] noEx [] [] 0 0 false []) q) (by decide) (rd_one n))
  | @grantRole n r h0 h1=>
    have e:tt (stP (.mk 12 [] n r [] [] [] [] noEx [] [] 0 0 false []))= [key kGRANT,key kROLE,(1,n),key kTO,(1,r)]:=by unfold stP;rfl
    rw [e]
    exact st_grant (Rd.yes (F:=fun _ q=>onNm L (fun x r=> .mk 12 [] x r [] [] [] [] noEx [] [] 0 0 false []) kTO q) (by decide) (rd_on (by decide) n r))
  | @revokeRole n r h0 h1=>
    have e:tt (stP (.mk 13 [] n r [] [] [] [] noEx [] [] 0 0 false []))= [key kREVOKE,key kROLE,(1,n),key kFROM,(1,r)]:=by unfold stP;rfl
    rw [e]
    exact st_revoke (Rd.yes (F:=fun _ q=>onNm L (fun x r=> .mk 13 [] x r [] [] [] [] noEx [] [] 0 0 false []) kFROM q) (by decide) (rd_on (by decide) n r))
  | @grant t r p o h0 h1 h2 h3=>
    have e:tt (stP (.mk 14 t [] r [] [] [] [] noEx [] [] 0 p o []))=key kGRANT::([key (prW p)]++key kON::(1,t)::key kTO::(1,r)::(if o=true then [key kWITH,key kGRANT,key kOPTION] else [])):=by
      unfold stP;cases o<;>rfl
    rw [e]
    refine st_grant ?_
    refine Rd.no (F:=fun _ q=>onNm L (fun x r=> .mk 12 [] x r [] [] [] [] noEx [] [] 0 0 false []) kTO q) (fun x hx=>by rw [show x=key (prW p) from hx];exact prW_not h2 h3) ?_
    refine Rd.bind (A:=Any) (g:=fun _ x q=>(mustP L kON q).bind fun _ q=>(nameP L q).bind fun t q=>(mustP L kTO q).bind fun _ q=>(nameP L q).bind fun r q=>optP L t r x q) (rd_priv h2 h3) ?_ fun _ _=>trivial
    refine Rd.must (g:=fun _ q=>(nameP L q).bind fun t q=>(mustP L kTO q).bind fun _ q=>(nameP L q).bind fun r q=>optP L t r p q) (by decide) ?_
    refine Rd.name (g:=fun _ t q=>(mustP L kTO q).bind fun _ q=>(nameP L q).bind fun r q=>optP L t r p q) ?_
    refine Rd.must (g:=fun _ q=>(nameP L q).bind fun r q=>optP L t r p q) (by decide) ?_
    refine Rd.name (g:=fun _ r q=>optP L t r p q) ?_
    cases o with
    | true=>
      refine Rd.yes (t:=key kWITH) (F:=fun _ q=>opt2 L t r p q) (by decide) ?_
      exact Rd.must (g:=fun _ q=>(mustP L kOPTION q).bind fun _ q=> .ok (St.mk 14 t [] r [] [] [] [] noEx [] [] 0 p true []) q) (by decide) (Rd.must (g:=fun _ q=> .ok (St.mk 14 t [] r [] [] [] [] noEx [] [] 0 p true []) q) (by decide) Rd.pure)
    |false=>exact Rd.no (F:=fun _ q=>opt2 L t r p q) (fun t ht=>fin_is ht _) Rd.pure
  | @revoke t r p h0 h1 h2 h3=>
    have e:tt (stP (.mk 15 t [] r [] [] [] [] noEx [] [] 0 p false []))=key kREVOKE::([key (prW p)]++ [key kON,(1,t),key kFROM,(1,r)]):=by unfold stP;rfl
    rw [e]
    refine st_revoke ?_
    refine Rd.no (F:=fun _ q=>onNm L (fun x r=> .mk 13 [] x r [] [] [] [] noEx [] [] 0 0 false []) kFROM q) (fun x hx=>by rw [show x=key (prW p) from hx];exact prW_not h2 h3) ?_
    refine Rd.bind (A:=Any) (g:=fun _ x q=>(mustP L kON q).bind fun _ q=>(nameP L q).bind fun t q=>(mustP L kFROM q).bind fun _ q=>(nameP L q).bind fun r q=> .ok (St.mk 15 t [] r [] [] [] [] noEx [] [] 0 x false []) q) (rd_priv h2 h3) ?_ fun _ _=>trivial
    refine Rd.must (g:=fun _ q=>(nameP L q).bind fun t q=>(mustP L kFROM q).bind fun _ q=>(nameP L q).bind fun r q=> .ok (St.mk 15 t [] r [] [] [] [] noEx [] [] 0 p false []) q) (by decide) ?_
    refine Rd.name (g:=fun _ t q=>(mustP L kFROM q).bind fun _ q=>(nameP L q).bind fun r q=> .ok (St.mk 15 t [] r [] [] [] [] noEx [] [] 0 p false []) q) ?_
    refine Rd.must (g:=fun _ q=>(nameP L q).bind fun r q=> .ok (St.mk 15 t [] r [] [] [] [] noEx [] [] 0 p false []) q) (by decide) ?_
    exact Rd.name (g:=fun _ r q=> .ok (St.mk 15 t [] r [] [] [] [] noEx [] [] 0 p false []) q) Rd.pure
  | rows h0=>
    have hr:=rd_rows (L:=L) h0
    obtain ⟨ts,h1|h1|h1|h1⟩:=rows_first h0
    · rw [h1] at hr ⊢;exact st_rows (.inl rfl) hr
    · rw [h1] at hr ⊢;exact st_rows (.inr (.inl rfl)) hr
    · rw [h1] at hr ⊢;exact st_rows (.inr (.inr (.inl rfl))) hr
    · rw [h1] at hr ⊢;exact st_rows (.inr (.inr (.inr rfl))) hr
  | @prepare n s h0 h1=>
    have e:tt (stP (.mk 20 [] n [] [] [] [] [] noEx [] [] 0 0 false [s]))=key kPREPARE::(1,n)::key kAS::tt (stP s):=by rw [stP];rfl
    rw [e]
    refine st_prepare ?_
    refine Rd.name (g:=fun n x q=>(mustP L kAS q).bind fun _ q=>(rowsP L n q).bind fun s q=> .ok (St.mk 20 [] x [] [] [] [] [] noEx [] [] 0 0 false [s]) q) ?_
    refine Rd.must (g:=fun m q=>(rowsP L m q).bind fun s q=> .ok (St.mk 20 [] n [] [] [] [] [] noEx [] [] 0 0 false [s]) q) (by decide) ?_
    have:=Rd.bind (L:=L) (b:= []) (B:=Fin) (g:=fun _ s q=> .ok (St.mk 20 [] n [] [] [] [] [] noEx [] [] 0 0 false [s]) q) (rd_rows h1) Rd.pure fun t ht=>ht
    rw [List.append_nil] at this
    exact this
  | @execute n rows h0 h1 h2=>
    have e:tt (stP (.mk 21 [] n [] [] [] [] rows noEx [] [] 0 0 false []))=key kEXECUTE::(1,n)::tt (exeX rows):=by unfold stP;rfl
    rw [e]
    refine st_execute ?_
    refine Rd.name (g:=fun n x q=>exe2 L x n q) ?_
    match rows,h1,h2 with
    | [],_,_=>exact Rd.no (F:=fun m q=>exeL L n m q) (fun t ht=>fin_is ht _) Rd.pure
    | [l],_,h2=>
      show Rd L (tt (brk (exsP l))) _ _ _
      rw [tt_brk]
      refine Rd.yes (F:=fun m q=>exeL L n m q) (by decide) ?_
      exact Rd.bind (g:=fun _ l q=>(mustP L [41] q).bind fun _ q=> .ok (St.mk 21 [] n [] [] [] [] [l] noEx [] [] 0 0 false []) q) (rd_anys (h2 l (by simp))) rd_shut fun t ht=>by
        rw [show t=sgn6 41 from ht];exact ⟨stp_close 1,by decide⟩
  | @deallocate n h0=>
    have e:tt (stP (.mk 22 [] n [] [] [] [] [] noEx [] [] 0 0 false []))= [key kDEALLOCATE,(1,n)]:=by unfold stP;rfl
    rw [e]
    exact st_dealloc (rd_one n)
end Go.Proofs.YtiaomhdmllhmmaaGreatDoor.Sm
namespace Go.Proofs.YtiaomhdmllhmmaaGreatDoor.Sm
open Lx Ep
set_option linter.unusedVariables false
theorem good_inj:∀(a b:List Pc),Ep.Good a []→Ep.Good b []→Ep.tx a=Ep.tx b→tt a=tt b
 | [], [],_,_,_=>rfl
 | [],none::b,_,_,h=>by rw [tx_none] at h;cases h
 | [],some t::b,_,hb,h=>by
   have:=(next_le hb.1).1
   rw [tx_some] at h
   cases ht:t.2 with
   |nil=>rw [ht] at this;simp at this
   |cons c r=>rw [ht] at h;cases h
 |none::a, [],_,_,h=>by rw [tx_none] at h;cases h
 | some t::a, [],ha,_,h=>by
   have:=(next_le ha.1).1
   rw [tx_some] at h
   cases ht:t.2 with
   |nil=>rw [ht] at this;simp at this
   |cons c r=>rw [ht] at h;cases h
 | none::a,none::b,ha,hb,h=>by
   rw [tx_none,tx_none] at h
   injection h with _ h
   exact good_inj a b ha hb h
 | none::a,some t::b,ha,hb,h=>by
   exfalso
   have h1:=hb.1
   rw [tx_none,tx_some] at h
   rw [List.append_nil,←h,next_blank (by decide)] at h1
   cases h1
 | some t::a,none::b,ha,hb,h=>by
   exfalso
   have h1:=ha.1
   rw [tx_none,tx_some] at h
   rw [List.append_nil,h,next_blank (by decide)] at h1
   cases h1
 | some t::a,some u::b,ha,hb,h=>by
   have h1:=ha.1
   have h2:=hb.1
   rw [tx_some,tx_some] at h
   rw [List.append_nil] at h1 h2
   rw [h,h2] at h1
   injection h1 with h1
   injection h1 with h3 h4
   obtain ⟨e1,e2⟩:=List.append_inj h h4.symm
   have e:t=u:=Prod.ext h3.symm e1
   rw [tt_some,tt_some,e,good_inj a b ha.2 hb.2 e2]
theorem g_K {l:Bs} (h:next l=some (2,l.length)) {r:List Pc} {z:List UInt8} (hz:free (Ep.tx r++z)=true) (hr:Ep.Good r z):Ep.Good (K l::r) z:=⟨next_key l h hz,hr⟩
theorem g_N {x:Bs} (h:isN x) {r:List Pc} {z:List UInt8} (hz:free (Ep.tx r++z)=true) (hr:Ep.Good r z):Ep.Good (N x::r) z:=⟨next_word (k:=1) (kind_next h (by decide) (by decide)) (.inl rfl) hz,hr⟩
theorem g_C {c:UInt8} (h:c=40 ∨ c=41 ∨ c=44 ∨ c=45) {r:List Pc} {z:List UInt8} (hr:Ep.Good r z):Ep.Good (C c::r) z:=⟨next_loose h _,hr⟩
def Soft (l:List Pc):Prop:=∀z,soft z→Ep.Good l z
theorem soft_comma (z:List UInt8):soft (44::z):=soft_cons _ (.inr (.inr rfl))
theorem soft_blank (z:List UInt8):soft (32::z):=soft_cons _ (.inl rfl)
theorem soft_close (z:List UInt8):soft (41::z):=soft_cons _ (.inr (.inl rfl))
theorem Soft.sep:∀{l:List (List Pc)},(∀x∈l,Soft x)→Soft (sep l)
 | [],_=>fun z _=>trivial
 | [a],h=>h a (by simp)
 |a::b::l,h=>fun z hz=>Ep.Good.app (h a (by simp) _ (soft_comma _)) (g_C (.inr (.inr (.inl rfl))) (Soft.sep (l:=b::l) (fun x hx=>h x (List.mem_cons_of_mem _ hx)) z hz))
theorem Soft.brk {l:List Pc} (h:Soft l) (z:List UInt8):Ep.Good (brk l) z:=g_C (.inl rfl) (Ep.Good.app (h _ (soft_close _)) (g_C (.inr (.inl rfl)) trivial))
theorem soft_nms {l:List Bs} (h:∀x∈l,isN x):Soft (nmsP l):=Soft.sep fun x hx=>by
 obtain ⟨y,hy,rfl⟩:=List.mem_map.1 hx
 exact fun z hz=>g_N (h y hy) hz.free trivial
theorem soft_exs {l:List Ex} (h:∀x∈l,Lo x):Soft (exsP l):=Soft.sep fun x hx=>by
 obtain ⟨y,hy,rfl⟩:=List.mem_map.1 hx
 exact fun z hz=>good (h y hy).1 z hz
theorem ty_next {t:Int} (h:1≤t) (h' :t≤3):next (tyW t)=some (2,(tyW t).length):=by
 have hc:t=1 ∨ t=2 ∨ t=3:=by omega
 rcases hc with rfl|rfl|rfl<;>decide
theorem pr_next {t:Int} (h:1≤t) (h' :t≤4):next (prW t)=some (2,(prW t).length):=by
 have hc:t=1 ∨ t=2 ∨ t=3 ∨ t=4:=by omega
 rcases hc with rfl|rfl|rfl|rfl<;>decide
theorem soft_co {x:Co} (h:okCo x):Soft (coP x):=fun z hz=>by
 obtain ⟨nm,ty,nn⟩:=x
 refine g_N h.1 rfl ?_
 cases nn with
 |true=>exact g_K (ty_next h.2.1 h.2.2) rfl (g_K (by decide) rfl (g_K (by decide) hz.free trivial))
 |false=>exact g_K (ty_next h.2.1 h.2.2) hz.free trivial
theorem soft_cn {x:Cn} (h:OkCn x):Soft (cnP x):=fun z hz=>by
 cases h with
 |unique hn hc=>exact g_K (by decide) rfl (g_N hn rfl (g_K (by decide) rfl (Soft.brk (soft_nms hc.2.2) z)))
 |check hn he=>exact g_K (by decide) rfl (g_N hn rfl (g_K (by decide) rfl (Soft.brk (fun z hz=>good he.1 z hz) z)))
 | foreign hn hc ht hr=>
   refine g_K (by decide) rfl (g_N hn rfl (g_K (by decide) rfl (g_K (by decide) rfl ?_)))
   exact Ep.Good.app (Soft.brk (soft_nms hc.2.2) _) (g_K (by decide) rfl (g_N ht rfl (Soft.brk (soft_nms hr.2.2) z)))
theorem wh_yes {e:Ex} (h:Rt e):whP e=none::K kWHERE::none::pcs e:=by unfold whP;rw [no_rt h,if_neg (by simp)]
theorem wh_soft {e:Ex} (h:okWh e) {z:List UInt8} (hz:soft z):soft (Ep.tx (whP e)++z):=by
 rcases h with rfl|h
 · exact hz
 · rw [wh_yes h.1];exact soft_blank _
theorem soft_wh {e:Ex} (h:okWh e):Soft (whP e):=fun z hz=>by
 rcases h with rfl|h
 · exact trivial
 · rw [wh_yes h.1];exact g_K (by decide) rfl (good h.1 z hz)
theorem soft_set {x:Bs × Ex} (h:isN x.1) (h2:Lo x.2):Soft (setP x):=fun z hz=>by
 refine g_N h rfl ⟨?_,good h2.1 z hz⟩
 rfl
theorem soft_ord {x:Ex × Bool} (h:Lo x.1):Soft (ordP x):=fun z hz=>by
 obtain ⟨e,d⟩:=x
 cases d with
 |true=>exact Ep.Good.app (good h.1 _ (soft_blank _)) (g_K (by decide) hz.free trivial)
 |false=>exact Ep.Good.app (good h.1 _ hz) trivial
theorem soft_lim {n:Int} (h:n≤9999):Soft (limP n):=fun z hz=>by
 unfold limP
 split
 · rename_i h0
   refine g_K (by decide) rfl ⟨?_,trivial⟩
   have:=next_val (k:=1) (n:=n) (s:= []) (z:=z) rfl (fun _=>h0) (by omega) hz
   exact this
 · trivial
theorem lim_soft (n:Int) {z:List UInt8} (hz:soft z):soft (Ep.tx (limP n)++z):=by
 unfold limP
 split
 · exact soft_blank _
 · exact hz
theorem ords_soft (o:List (Ex × Bool)) {z:List UInt8} (hz:soft z):soft (Ep.tx (ordsP o)++z):=by
 cases o with
 |nil=>exact hz
 |cons a l=>exact soft_blank _
theorem soft_ords {o:List (Ex × Bool)} (h:∀x∈o,Lo x.1):Soft (ordsP o):=fun z hz=>by
 cases o with
 |nil=>trivial
 | cons a l=>
   refine g_K (by decide) rfl (g_K (by decide) rfl (Soft.sep (fun x hx=>?_) z hz))
   obtain ⟨y,hy,rfl⟩:=List.mem_map.1 hx
   exact soft_ord (h y hy)
theorem soft_rows {s:St} (h:OkR s):Soft (stP s):=fun z hz=>by
 cases h with
 | @insert t ns rows h0 h1 h2 h3 h4=>
   have e:stP (.mk 16 t [] [] [] [] ns rows noEx [] [] 0 0 false [])=K kINSERT::none::K kINTO::none::N t::none::((if ns.isEmpty=true then [] else brk (nmsP ns)++ [none])++(K kVALUES::none::sep (rows.map fun x=>brk (exsP x)))):=by unfold stP;rfl
   rw [e]
   have hv:Ep.Good (K kVALUES::none::sep (rows.map fun x=>brk (exsP x))) z:=g_K (by decide) rfl (Soft.sep (fun x hx=>by
     obtain ⟨y,hy,rfl⟩:=List.mem_map.1 hx
     exact fun z _=>Soft.brk (soft_exs (h4 y hy).2.2) z) z hz)
   refine g_K (by decide) rfl (g_K (by decide) rfl (g_N h0 rfl ?_))
   cases ns with
   |nil=>exact hv
   |cons a l=>exact Ep.Good.app (a:=brk (nmsP (a::l))++ [none]) (Ep.Good.app (Soft.brk (soft_nms h1.2.2) _) trivial) hv
 | @update t sets wh h0 h1 h2 h3 h4=>
   have e:stP (.mk 17 t [] [] [] [] [] [] wh sets [] 0 0 false [])=K kUPDATE::none::N t::none::K kSET::none::(sep (sets.map setP)++whP wh):=by unfold stP;rfl
   rw [e]
   refine g_K (by decide) rfl (g_N h0 rfl (g_K (by decide) rfl (Ep.Good.app (Soft.sep (fun x hx=>?_) _ (wh_soft h4 hz)) (soft_wh h4 z hz))))
   obtain ⟨y,hy,rfl⟩:=List.mem_map.1 hx
   exact soft_set (h3 y hy).1 (h3 y hy).2
 | @delete t wh h0 h1=>
   have e:stP (.mk 18 t [] [] [] [] [] [] wh [] [] 0 0 false [])=K kDELETE::none::K kFROM::none::N t::whP wh:=by unfold stP;rfl
   rw [e]
   exact g_K (by decide) rfl (g_K (by decide) rfl (g_N h0 (wh_soft h1 hz).free (soft_wh h1 z hz)))
 | @select t rows wh o n h0 h1 h2 h3 h4 h5 h6 h7=>
   have e:stP (.mk 19 t [] [] [] [] [] rows wh [] o n 0 false [])=K kSELECT::none::(selX rows++(none::K kFROM::none::N t::(whP wh++(ordsP o++limP n)))):=by unfold stP;rfl
   rw [e]
   have hl:=soft_lim h7 z hz
   have h8:=Ep.Good.app (soft_ords h5 _ (lim_soft n hz)) hl
   have hz2:soft (Ep.tx (ordsP o++limP n)++z):=by rw [tx_app,List.append_assoc];exact ords_soft o (lim_soft n hz)
   have h9:=Ep.Good.app (soft_wh h3 _ hz2) h8
   have hz3:soft (Ep.tx (whP wh++(ordsP o++limP n))++z):=by rw [tx_app,List.append_assoc];exact wh_soft h3 hz2
   refine g_K (by decide) rfl (Ep.Good.app ?_ (g_K (by decide) rfl (g_N h0 hz3.free h9)))
   match rows,h1,h2 with
   | [],_,_=>exact ⟨rfl,trivial⟩
   | [l],_,h2=>exact soft_exs (h2 l (by simp)).2.2 _ (soft_blank _)
theorem soft_stmt {s:St} (h:OkS s):Soft (stP s):=fun z hz=>by
 cases h with
 | @table t cols cons h0 h1 h2 h3 h4 h5=>
   have e:stP (.mk 1 t [] [] cols cons [] [] noEx [] [] 0 0 false [])=K kCREATE::none::K kTABLE::none::N t::none::brk (sep (cols.map coP++cons.map cnP)):=by unfold stP;rfl
   rw [e]
   refine g_K (by decide) rfl (g_K (by decide) rfl (g_N h0 rfl (Soft.brk (Soft.sep fun x hx=>?_) z)))
   rcases List.mem_append.1 hx with hx|hx
   · obtain ⟨y,hy,rfl⟩:=List.mem_map.1 hx
     exact soft_co (h3 y hy)
   · obtain ⟨y,hy,rfl⟩:=List.mem_map.1 hx
     exact soft_cn (h5 y hy)
 | @dropTable t h0=>
   have e:stP (.mk 2 t [] [] [] [] [] [] noEx [] [] 0 0 false [])= [K kDROP,none,K kTABLE,none,N t]:=by unfold stP;rfl
   rw [e]
   exact g_K (by decide) rfl (g_K (by decide) rfl (g_N h0 hz.free trivial))
 | @addCol t x h0 h1=>
   have e:stP (.mk 3 t [] [] [x] [] [] [] noEx [] [] 0 0 false [])=K kALTER::none::K kTABLE::none::N t::none::K kADD::none::K kCOLUMN::none::coP x:=by unfold stP;rfl
   rw [e]
   exact g_K (by decide) rfl (g_K (by decide) rfl (g_N h0 rfl (g_K (by decide) rfl (g_K (by decide) rfl (soft_co h1 z hz)))))
 | @dropCol t n h0 h1=>
   have e:stP (.mk 4 t n [] [] [] [] [] noEx [] [] 0 0 false [])= [K kALTER,none,K kTABLE,none,N t,none,K kDROP,none,K kCOLUMN,none,N n]:=by unfold stP;rfl
   rw [e]
   exact g_K (by decide) rfl (g_K (by decide) rfl (g_N h0 rfl (g_K (by decide) rfl (g_K (by decide) rfl (g_N h1 hz.free trivial)))))
 | @rename t n h0 h1=>
   have e:stP (.mk 5 t n [] [] [] [] [] noEx [] [] 0 0 false [])= [K kALTER,none,K kTABLE,none,N t,none,K kRENAME,none,K kTO,none,N n]:=by unfold stP;rfl
   rw [e]
   exact g_K (by decide) rfl (g_K (by decide) rfl (g_N h0 rfl (g_K (by decide) rfl (g_K (by decide) rfl (g_N h1 hz.free trivial)))))
 | @addCons t x h0 h1=>
   have e:stP (.mk 6 t [] [] [] [x] [] [] noEx [] [] 0 0 false [])=K kALTER::none::K kTABLE::none::N t::none::K kADD::none::cnP x:=by unfold stP;rfl
   rw [e]
   exact g_K (by decide) rfl (g_K (by decide) rfl (g_N h0 rfl (g_K (by decide) rfl (soft_cn h1 z hz))))
 | @dropCons t n h0 h1=>
   have e:stP (.mk 7 t n [] [] [] [] [] noEx [] [] 0 0 false [])= [K kALTER,none,K kTABLE,none,N t,none,K kDROP,none,K kCONSTRAINT,none,N n]:=by unfold stP;rfl
   rw [e]
   exact g_K (by decide) rfl (g_K (by decide) rfl (g_N h0 rfl (g_K (by decide) rfl (g_K (by decide) rfl (g_N h1 hz.free trivial)))))
 | @index t n ns h0 h1 h2=>
   have e:stP (.mk 8 t n [] [] [] ns [] noEx [] [] 0 0 false [])=K kCREATE::none::K kINDEX::none::N n::none::K kON::none::N t::none::brk (nmsP ns):=by unfold stP;rfl
   rw [e]
   exact g_K (by decide) rfl (g_K (by decide) rfl (g_N h1 rfl (g_K (by decide) rfl (g_N h0 rfl (Soft.brk (soft_nms h2.2.2) z)))))
 | @dropIndex t n h0 h1=>
   have e:stP (.mk 9 t n [] [] [] [] [] noEx [] [] 0 0 false [])= [K kDROP,none,K kINDEX,none,N n,none,K kON,none,N t]:=by unfold stP;rfl
   rw [e]
   exact g_K (by decide) rfl (g_K (by decide) rfl (g_N h1 rfl (g_K (by decide) rfl (g_N h0 hz.free trivial))))
 | @role n h0=>
   have e:stP (.mk 10 [] n [] [] [] [] [] noEx [] [] 0 0 false [])= [K kCREATE,none,K kROLE,none,N n]:=by unfold stP;rfl
   rw [e]
   exact g_K (by decide) rfl (g_K (by decide) rfl (g_N h0 hz.free trivial))
 | @dropRole n h0=>
   have e:stP (.mk 11 [] n [] [] [] [] [] noEx [] [] 0 0 false [])= [K kDROP,none,K kROLE,none,N n]:=by unfold stP;rfl
   rw [e]
   exact g_K (by decide) rfl (g_K (by decide) rfl (g_N h0 hz.free trivial))
 | @grantRole n r h0 h1=>
   have e:stP (.mk 12 [] n r [] [] [] [] noEx [] [] 0 0 false [])= [K kGRANT,none,K kROLE,none,N n,none,K kTO,none,N r]:=by unfold stP;rfl
   rw [e]
   exact g_K (by decide) rfl (g_K (by decide) rfl (g_N h0 rfl (g_K (by decide) rfl (g_N h1 hz.free trivial))))
 | @revokeRole n r h0 h1=>
   have e:stP (.mk 13 [] n r [] [] [] [] noEx [] [] 0 0 false [])= [K kREVOKE,none,K kROLE,none,N n,none,K kFROM,none,N r]:=by unfold stP;rfl
   rw [e]
   exact g_K (by decide) rfl (g_K (by decide) rfl (g_N h0 rfl (g_K (by decide) rfl (g_N h1 hz.free trivial))))
 | @grant t r p o h0 h1 h2 h3=>
   have e:stP (.mk 14 t [] r [] [] [] [] noEx [] [] 0 p o [])=K kGRANT::none::K (prW p)::none::K kON::none::N t::none::K kTO::none::N r::(if o=true then [none,K kWITH,none,K kGRANT,none,K kOPTION] else []):=by unfold stP;rfl
   rw [e]
   refine g_K (by decide) rfl (g_K (pr_next h2 h3) rfl (g_K (by decide) rfl (g_N h0 rfl (g_K (by decide) rfl ?_))))
   cases o with
   |true=>exact g_N h1 rfl (g_K (by decide) rfl (g_K (by decide) rfl (g_K (by decide) hz.free trivial)))
   |false=>exact g_N h1 hz.free trivial
 | @revoke t r p h0 h1 h2 h3=>
   have e:stP (.mk 15 t [] r [] [] [] [] noEx [] [] 0 p false [])= [K kREVOKE,none,K (prW p),none,K kON,none,N t,none,K kFROM,none,N r]:=by unfold stP;rfl
   rw [e]
   exact g_K (by decide) rfl (g_K (pr_next h2 h3) rfl (g_K (by decide) rfl (g_N h0 rfl (g_K (by decide) rfl (g_N h1 hz.free trivial)))))
 |rows h0=>exact soft_rows h0 z hz
 | @prepare n s h0 h1=>
   have e:stP (.mk 20 [] n [] [] [] [] [] noEx [] [] 0 0 false [s])=K kPREPARE::none::N n::none::K kAS::none::stP s:=by rw [stP];rfl
   rw [e]
   exact g_K (by decide) rfl (g_N h0 rfl (g_K (by decide) rfl (soft_rows h1 z hz)))
 | @execute n rows h0 h1 h2=>
   have e:stP (.mk 21 [] n [] [] [] [] rows noEx [] [] 0 0 false [])=K kEXECUTE::none::N n::exeX rows:=by unfold stP;rfl
   rw [e]
   match rows,h1,h2 with
   | [],_,_=>exact g_K (by decide) rfl (g_N h0 hz.free trivial)
   | [l],_,h2=>exact g_K (by decide) rfl (g_N h0 rfl (Soft.brk (soft_exs (h2 l (by simp)).2.2) z))
 | @deallocate n h0=>
   have e:stP (.mk 22 [] n [] [] [] [] [] noEx [] [] 0 0 false [])= [K kDEALLOCATE,none,N n]:=by unfold stP;rfl
   rw [e]
   exact g_K (by decide) rfl (g_N h0 hz.free trivial)
theorem back_stmt {s:St} (h:OkS s):((tt (stP s)).length<120→ct (Ep.tx (stP s)) 0=(tt (stP s)++ [(7, [])],0))∧(120≤(tt (stP s)).length→ct (Ep.tx (stP s)) 0=([],5))∧
   Ev (fun n=>stmtP (tt (stP s)++ [(7, [])]) n 0) (.ok s (tt (stP s)).length):=by
 obtain ⟨i1,i2⟩:=ct_pieces (stP s) [] 0 (soft_stmt h [] soft_nil) (by decide)
 rw [List.append_nil,Nat.zero_add] at i1 i2
 refine ⟨fun hn=>?_,fun hn=>?_,?_⟩
 · rw [i1 (by omega),ct_nil,if_neg (by omega)];rfl
 · by_cases h1:(tt (stP s)).length=120
   · rw [i1 (by omega),ct_nil,if_pos h1];rfl
   · exact i2 (by omega)
 · have h1:=rd_stmt (L:=tt (stP s)++ [(7, [])]) h 0 (fun i t hi=>by rw [Nat.zero_add,List.getElem?_append_left (List.getElem?_eq_some_iff.1 hi).1];exact hi) (by
     rw [Nat.zero_add]
     show tk (tt (stP s)++ [(7, [])]) (tt (stP s)).length=(7, [])
     unfold tk;simp)
   rw [Nat.zero_add] at h1
   exact h1
theorem stmt_inj {s s' :St} (h:OkS s) (h' :OkS s') (e:Ep.tx (stP s)=Ep.tx (stP s')):s=s' :=by
 have ht:=good_inj _ _ (soft_stmt h [] soft_nil) (soft_stmt h' [] soft_nil) e
 have h1:=(back_stmt h).2.2
 have h2:=(back_stmt h').2.2
 rw [ht] at h1
 have:=Ev.unique h1 h2
 injection this
end Go.Proofs.YtiaomhdmllhmmaaGreatDoor.Sm
namespace Go.Proofs.YtiaomhdmllhmmaaGreatDoor.Mem
open Go.RowKit
def Row (w:World) (B:Nat) (A:Option Addr) (us:List Value):Prop:=
 ∀k u,us[k]?=some u→∃b o,A=some ⟨b,o,none⟩∧b<B∧w.cell? ⟨b,o+k,none⟩=some u
theorem Row.own {w:World} {base:Nat} {e:TypeId} {A:Option Addr} {n c:Nat} {us:List Value} (h:w.ownsRow base e 1 (.slice A n c) n us):Row w w.heap.size A us:=by
 intro k u hu
 obtain ⟨hk,_⟩:=List.getElem?_eq_some_iff.1 hu
 have hn:us.length=n*1:=h.1
 rcases h.2 with ⟨_,h0⟩|⟨g,cap,cur,hv,_,hh,_⟩
 · omega
 · injection hv with hA hn' hc
   subst hA hc
   refine ⟨g,0,rfl,?_,?_⟩
   · rcases Nat.lt_or_ge g w.heap.size with h1|h1
     · exact h1
     · rw [Array.getElem?_eq_none h1] at hh;cases hh
   · rw [Nat.zero_add,h.cellAt k (by omega)];exact hu
theorem on {w a b:World} (h:Below w.heap.size w a) (k:Below a.heap.size a b):Below w.heap.size w b:=h.trans (k.mono h.size)
theorem al {w a:World} (h:Below w.heap.size w a) (o:Obj):Below w.heap.size w (a.alloc o):=h.alloc h.size o
theorem cell_lt {w:World} {b o:Nat} {v:Value} (h:w.cell? ⟨b,o,none⟩=some v):b<w.heap.size:=by
 rcases Nat.lt_or_ge b w.heap.size with h1|h1
 · exact h1
 · exfalso
   unfold World.cell? at h
   simp [Array.getElem?_eq_none h1] at h
end Go.Proofs.YtiaomhdmllhmmaaGreatDoor.Mem
