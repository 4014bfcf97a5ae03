/- stmt.Print: a statement's text, or why it has none. How long a statement's text is, of few and small parts. The texts of a statement, in a row of the call's own; what few and small parts are. -/
import Derived.Test.YtiaomhdmllhmmaaGreatDoorK40
import Derived.Test.YtiaomhdmllhmmaaGreatDoorK01
import Derived.Test.YtiaomhdmllhmmaaGreatDoorK09
import Derived.Test.YtiaomhdmllhmmaaGreatDoorK18
import Derived.Test.YtiaomhdmllhmmaaGreatDoorK10
import Derived.Test.YtiaomhdmllhmmaaGreatDoorK04
namespace Go.Proofs.YtiaomhdmllhmmaaGreatDoor.Sm
open Go.RowKit Mem Ep Right Lx Go.ChangeShapes Go.WideShapes
set_option linter.unusedVariables false
def SPr (x:St) (s:List UInt8) (q:Int):Prop:=
 (¬OkS x∧q≠0∧s= []) ∨ (OkS x∧400<(tx (stP x)).length∧s= []∧q=3) ∨ (OkS x∧(tx (stP x)).length≤400∧s=tx (stP x)∧q=0)
theorem tx_ne {x:St} (h:OkS x):tx (stP x)≠ []:=by
 have hr:∀{y:St},OkR y→tx (stP y)≠ []:=fun h=>by
   cases h<;>(intro e;rw [stP.eq_def] at e;exact List.cons_ne_nil _ _ e)
 cases h
 case rows h=>exact hr h
 all_goals (intro e;rw [stP.eq_def] at e;exact List.cons_ne_nil _ _ e)
theorem slim_own {x:St} (h:SLim x) {e:Ex} (he:own x e):Lim e:=by
 obtain ⟨k,t,n,r,cols,cons,names,rows,wh,sets,order,limit,priv,opt,kids⟩:=x
 obtain ⟨⟨-, -,h1, -,h2,h3,h4,h5⟩, -⟩:=(sLim_mk _ _ _ _ _ _ _ _ _ _ _ _ _ _ _).1 h
 rcases he with ⟨x,hx,rfl⟩|⟨x,hx,he⟩|rfl|⟨x,hx,rfl⟩|⟨x,hx,rfl⟩
 · exact (h1 x hx).2.2.2.2
 · exact h2 x hx _ he
 · exact h3
 · exact (h4 x hx).2
 · exact h5 x hx
theorem slim_kid {x y:St} (h:SLim x) (hy:y∈kidsS x):SLim y:=by
 obtain ⟨k,t,n,r,cols,cons,names,rows,wh,sets,order,limit,priv,opt,kids⟩:=x
 exact ((sLim_mk _ _ _ _ _ _ _ _ _ _ _ _ _ _ _).1 h).2 y hy
def Txs (x:St):Prop:=(∀e,own x e→Lo e→(tx (pcs e)).length≤1000000)∧∀y∈kidsS x,∀e,own y e→Lo e→(tx (pcs e)).length≤1000000
theorem Ww.new (w:World):Ww w.heap.size [] false (w.alloc (.cells #[.pointer none, .slice none 0 0, .bool false] tW)):=
 ⟨_,_, .inl rfl,heap_alloc_new w _,World.ownsRowF_nil _ _ _ _⟩
set_option maxRecDepth 100000 in
set_option maxHeartbeats 4000000 in
theorem sprint_any (x:St) (cs:List Value) (w:World) (hx:DtIn w (fun b=>b<w.heap.size) (stDt x) cs) (hE:WrE w w.heap.size) (hf:fSt x) (hl:SLim x) (ht:Txs x) (hlen:OkS x→(tx (stP x)).length≤1000000000):
    Calls Tryz.prog 12 #[.agg cs.toArray] w fun e w' =>∃s q,e= .returned (.tuple #[.string (Ep.txt s), .int .i64 q])∧SPr x s q∧Below w.heap.size w w' :=by
  obtain ⟨f,rfl⟩:=fl_of hx
  obtain ⟨V1,hV1⟩:∃W1,w.alloc (.cells f.cells.toArray tSt)=W1:=⟨_,rfl⟩
  have hb:Below w.heap.size w V1:=by rw [←hV1];exact al (Below.refl _ _) _
  have hsz:V1.heap.size=w.heap.size+1:=by rw [←hV1];simp
  have x0:Cel V1 w.heap.size tSt f.cells.toArray:=by rw [←hV1];exact Cel.new _ _ _ rfl
  have HC:=Lib.hid (check_st x f.cells V1 (DtIn.to (w:=w) (w' :=V1) (S:=fun b=>b<w.heap.size) (S' :=fun b=>b<V1.heap.size) (fun b g=>by omega) (fun p hp=>hb.cell hp) _ _ hx) ((hE.below hb).1.1) hf hl)
  have HX0:=Lib.hid x0
  have HN:=Lib.hid (show ∀w1,Below V1.heap.size V1 w1→OkS x→∀W,w1.alloc (.cells #[.pointer none, .slice none 0 0, .bool false] tW)=W→Cel W w.heap.size tSt f.cells.toArray∧
      Calls Tryz.prog 27 #[.pointer (some ⟨w1.heap.size,0,none⟩), .agg f.cells.toArray] W (fun e w' =>e= .returned (.tuple #[])∧∃l' lg',Ww w1.heap.size l' lg' w' ∧Below w.heap.size w w' ∧((lg' =false∧l' =tx (stP x)) ∨ (lg' =true∧400<(tx (stP x)).length))) from fun w1 g1 hok W hW=>by
    have hbw:Below w1.heap.size w1 W:=by rw [←hW];exact al (Below.refl _ _) _
    have hs1:=g1.size
    have b1:Below w.heap.size w W:=(hb.trans (g1.mono (by omega))).trans (hbw.mono (by omega))
    have hww:Ww w1.heap.size [] false W:=by rw [←hW];exact Ww.new w1
    have hE2:WrE W w1.heap.size:=⟨⟨(hE.below b1).1.1,by have:=(hE.below b1).1.2;omega⟩,⟨(hE.below b1).2.1.1,by have:=(hE.below b1).2.1.2;omega⟩,⟨(hE.below b1).2.2.1,by have:=(hE.below b1).2.2.2;omega⟩⟩
    refine ⟨((g1.trans (hbw.mono hs1)).block _ (by omega)).trans x0,?_⟩
    have hin:FlIn W w1.heap.size f x:=DtIn.to (w:=w) (w' :=W) (S:=fun b=>b<w.heap.size) (S' :=fun b=>b<w1.heap.size) (fun b g=>by omega) (fun p hp=>b1.cell hp) _ _ hx
    refine (wstmt_any hok hE2 hin (fun e he hlo=>exw e hlo (slim_own hl he) hE2 (ht.1 e he hlo)) hww (by simpa using hlen hok) (fun y hy e he hlo=>exw e hlo (slim_own (slim_kid hl hy) he) hE2 (ht.2 y hy e he hlo))).mono fun e w' d=>?_
    obtain ⟨d1,l',lg',d2,d3,d4⟩:=d
    refine ⟨d1,l',lg',d2,b1.trans (d3.1.mono (by omega)),?_⟩
    rcases d4 with ⟨d4,d5⟩|⟨d4,d5, -⟩
    · exact .inl ⟨d4,by simpa using d5⟩
    · exact .inr ⟨d4,d5⟩)
  have HB1:=Lib.hid hb
  have HSZ:=Lib.hid hsz
  have HNE:=Lib.hid (fun h=>tx_ne (x:=x) h)
  clear hx hE hf hl ht hlen x0
  by_cases hok:OkS x
  · have HOK:=Lib.hid hok
    clear hok
    have HEND:=Lib.hid (show ∀b l' lg' w2,Ww b l' lg' w2→Below w.heap.size w w2→w.heap.size≤b→((lg' =false∧l' =tx (stP x)) ∨ (lg' =true∧400<(tx (stP x)).length))→∃n:Int,∃t u v:Bool,(lg' =t∧decide ((400:Int)<n)=u∧t.or u=v∧w2.cell? ⟨b,2,none⟩=some (.bool t))∧
        Calls Tryz.prog 28 #[.pointer (some ⟨b,0,none⟩)] w2 (fun e w' =>e= .returned (.int .i64 n)∧w' =w2)∧(v=true→SPr x [] 3∧Below w.heap.size w w2)∧
        (v=false→Calls Tryz.prog 29 #[.pointer (some ⟨b,0,none⟩)] w2 (fun e w' =>e= .returned (.string (Ep.txt (tx (stP x))))∧SPr x (tx (stP x)) 0∧Below w.heap.size w w')) from fun b l' lg' w2 d1 d2 hle d3=>by
      refine ⟨(l'.length:Int),lg',_,_,⟨rfl,rfl,rfl,d1.mark⟩,wlen_any d1,?_,?_⟩
      · intro hv
        refine ⟨.inr (.inl ⟨HOK.out,?_,rfl,rfl⟩),d2⟩
        rcases d3 with ⟨rfl,rfl⟩|⟨rfl,h4⟩
        · simp at hv;omega
        · exact h4
      · intro hv
        rcases d3 with ⟨rfl,rfl⟩|⟨rfl,h4⟩
        · simp at hv
          refine (wtold_any d1 (HNE.out HOK.out)).mono fun e w' g=>⟨g.1, .inr (.inr ⟨HOK.out,by omega,rfl,rfl⟩),d2.trans (g.2.mono hle)⟩
        · simp at hv)
    have HLE:=Lib.hid (show ∀w1,Below V1.heap.size V1 w1→w.heap.size≤w1.heap.size from fun w1 g=>by have:=g.size;omega)
    clear hb hsz
    go_enter Tryz.func12,Tryz.ntmps12
    go_wp2_with (first|(refine load_stmt rfl _ rfl w.heap.size 0 rfl f.cells (at_cel HX0.out) rfl ?_)|(go_at_call 20;(with_reducible refine HC.out.mono ?_);rintro e1 w1 ⟨q,rfl,hq,hb2⟩;obtain rfl:=hq.2 HOK.out;obtain ⟨hx2,hc2⟩:=HN.out w1 hb2 HOK.out _ rfl;have HX2:=Lib.hid hx2;have HC2:=Lib.hid hc2;have HLE1:=Lib.hid (HLE.out w1 hb2);clear hx2 hc2 hb2 hq)|(refine load_stmt rfl _ rfl w.heap.size 0 rfl f.cells (at_cel HX2.out) rfl ?_)|(go_at_call 27;(with_reducible refine HC2.out.mono ?_);rintro e2 w2 ⟨rfl,l',lg',d1,d2,d3⟩;obtain ⟨n,t,u,v,⟨-,tl,tv,c2⟩,hln,ht,hv⟩:=HEND.out _ l' lg' w2 d1 d2 HLE1.out d3;have HLN:=Lib.hid hln;have HTV:=Lib.hid tv;have HT:=Lib.hid ht;have HV:=Lib.hid hv;clear d1 d2 d3 hln tv ht hv)|(go_at_call 28;(with_reducible refine HLN.out.mono ?_);rintro e3 w3 ⟨rfl,rfl⟩)|(go_at_call 29;(with_reducible refine (HV.out (by have:=HTV.out;simp_all)).mono ?_);rintro e4 w4 ⟨rfl,hp,hb4⟩;have HP4:=Lib.hid hp;have HB4:=Lib.hid hb4;clear hp hb4))
    all_goals go_ret2
    all_goals first|exact ⟨[],3,rfl,HT.out (by have:=HTV.out;simp_all)⟩|exact ⟨_,0,rfl,HP4.out,HB4.out⟩
  · have HOK:=Lib.hid hok
    clear hok HN hb hsz
    go_enter Tryz.func12,Tryz.ntmps12
    go_wp2_with (first|(refine load_stmt rfl _ rfl w.heap.size 0 rfl f.cells (at_cel HX0.out) rfl ?_)|(go_at_call 20;(with_reducible refine HC.out.mono ?_);rintro e1 w1 ⟨q,rfl,hq,hb2⟩;have hq0:¬q=0:=(fun g=>HOK.out (hq.1 g));have tq:(q !=0)=true:=bne_yes hq0;have HQ:=Lib.hid hq0;have HB2:=Lib.hid hb2;clear hq hq0 hb2))
    go_ret2
    exact ⟨[],q,rfl, .inl ⟨HOK.out,HQ.out,rfl⟩,HB1.out.trans (HB2.out.mono (by have:=HSZ.out;omega))⟩
end Go.Proofs.YtiaomhdmllhmmaaGreatDoor.Sm
namespace Go.Proofs.YtiaomhdmllhmmaaGreatDoor.Sm
open Go.RowKit Mem Ep Right Lx
set_option linter.unusedVariables false
set_option linter.unusedSimpArgs false
def exF (e:Ex):Prop:=∃m,cnt e 60=some m
theorem exF_len {e:Ex} (h:exF e) (hr:Rt e):(tx (pcs e)).length≤12000:=by
 obtain ⟨m,h⟩:=h
 have h1:=cnt_size h
 have h2:=text_len hr
 omega
theorem exF_lim {e:Ex} (h:exF e):Lim e:=by
 obtain ⟨m,h⟩:=h
 exact cnt_lim h
theorem len_sep {α:Type} {g:α→List Pc} {c:Nat}:∀{l:List α},(∀x∈l,(tx (g x)).length≤c)→(tx (sep (l.map g))).length≤l.length*(c+2)
 | [],_=>by show (tx (sep [])).length≤_;simp [sep,tx]
 | [a],h=>by
   have:=h a (by simp)
   show (tx (g a)).length≤_
   simp;omega
 | a::b::l,h=>by
   have h1:=h a (by simp)
   have h2:=len_sep (l:=b::l) fun x hx=>h x (List.mem_cons_of_mem _ hx)
   show (tx (g a++(C 44::none::sep ((b::l).map g)))).length≤_
   rw [tx_app,List.length_append,show (tx (C 44::none::sep ((b::l).map g))).length=(tx (sep ((b::l).map g))).length+2 from rfl]
   have h3:(a::b::l).length*(c+2)=(b::l).length*(c+2)+(c+2):=by rw [List.length_cons (a:=a),Nat.succ_mul]
   omega
theorem len_brk (l:List Pc):(tx (brk l)).length=(tx l).length+2:=by
 unfold brk
 rw [show tx (C 40::(l++ [C 41]))=40::tx (l++ [C 41]) from rfl,tx_app,List.length_cons,List.length_append,show (tx [C 41]).length=1 from rfl]
theorem len_nms {l:List Bs} {a:Nat} (h:okNs l a 6):(tx (brk (nmsP l))).length≤100:=by
 have h1:=len_sep (g:=fun x=> [N x]) (c:=12) (l:=l) fun x hx=>by
   have:=name_len (h.2.2 x hx)
   rw [show tx [N x]=x from tx_one (1,x)];exact this
 have h2:=Nat.mul_le_mul_right (12+2) h.2.1
 rw [len_brk]
 unfold nmsP
 omega
theorem okNs_up {l:List Bs} {a b:Nat} (hb:b≤6) (h:okNs l a b):okNs l a 6:=⟨h.1,Nat.le_trans h.2.1 hb,h.2.2⟩
theorem len_ty (t:Int):(tyW t).length≤4:=by
 unfold tyW
 repeat' split
 all_goals decide
theorem len_pr (t:Int):(prW t).length≤6:=by
 unfold prW
 repeat' split
 all_goals decide
theorem len_co {x:Co} (h:okCo x):(tx (coP x)).length≤30:=by
 obtain ⟨nm,ty,nn⟩:=x
 have h1:nm.length≤12:=name_len h.1
 have h2:=len_ty ty
 cases nn
 · rw [tx_co0];simp only [List.flatten_cons,List.flatten_nil,List.append_nil,List.length_append,List.length_cons,List.length_nil];omega
 · rw [tx_co1];simp only [List.flatten_cons,List.flatten_nil,List.append_nil,List.length_append,List.length_cons,List.length_nil];omega
theorem len_rows {l:List Ex} (hl:l.length≤6) (h:∀e∈l,(tx (pcs e)).length≤12000):(tx (sep (l.map pcs))).length≤80000:=by
 have h1:=len_sep (g:=pcs) h
 have h2:=Nat.mul_le_mul_right (12000+2) hl
 omega
theorem len_row {l:List Ex} (hl:l.length≤6) (h:∀e∈l,(tx (pcs e)).length≤12000):(tx (rowP l)).length≤80002:=by
 have:=len_rows hl h
 rw [tx_row];simp only [List.flatten_cons,List.flatten_nil,List.append_nil,List.length_append,List.length_cons,List.length_nil];omega
theorem len_cn {x:Cn} (h:OkCn x) (hE:Lo x.chk→(tx (pcs x.chk)).length≤12000):(tx (cnP x)).length≤13000:=by
 cases h with
 | @unique nm cols h1 h2=>
   have h3:=name_len h1
   have h4:=len_nms (okNs_up (by omega) h2)
   rw [tx_cn1];simp only [List.flatten_cons,List.flatten_nil,List.append_nil,List.length_append,List.length_cons,List.length_nil,tx_none];omega
 | @check nm e h1 h2=>
   have h3:=name_len h1
   have h4:=hE h2
   simp only at h4
   rw [tx_cn2];simp only [List.flatten_cons,List.flatten_nil,List.append_nil,List.length_append,List.length_cons,List.length_nil,tx_none];omega
 | @foreign nm t cols refs h1 h2 h3 h4=>
   have h5:=name_len h1
   have h6:=name_len h3
   have h7:=len_nms (okNs_up (by omega) h2)
   have h8:=len_nms (okNs_up (by have:=h2.2.1;omega) h4)
   rw [tx_cn3];simp only [List.flatten_cons,List.flatten_nil,List.append_nil,List.length_append,List.length_cons,List.length_nil,tx_none];omega
theorem len_cs:∀{l:List Cn},(∀x∈l,(tx (cnP x)).length≤13000)→(tx (csP l)).length≤l.length*13002
 | [],_=>by show (tx []).length≤_;simp [tx]
 | x::l,h=>by
   have h1:=h x (by simp)
   have h2:=len_cs (l:=l) fun y hy=>h y (List.mem_cons_of_mem _ hy)
   show (tx ((C 44::none::cnP x)++csP l)).length≤_
   rw [tx_app,List.length_append,show (tx (C 44::none::cnP x)).length=(tx (cnP x)).length+2 from rfl,List.length_cons (a:=x),Nat.succ_mul]
   omega
theorem len_wh {e:Ex} (h:okWh e) (hE:Lo e→(tx (pcs e)).length≤12000):(tx (whP e)).length≤12010:=by
 rcases h with rfl|h
 · show (tx []).length≤_;simp [tx]
 · have h1:=hE h
   cases hn:isNo e with
   |true=>unfold whP;rw [if_pos hn];show (tx []).length≤_;simp [tx]
   |false=>rw [tx_wh hn];simp only [List.flatten_cons,List.flatten_nil,List.append_nil,List.length_append,List.length_cons,List.length_nil,tx_none];omega
theorem len_set {x:Bs × Ex} (h:isN x.1) (hE:(tx (pcs x.2)).length≤12000):(tx (setP x)).length≤12020:=by
 obtain ⟨xn,xe⟩:=x
 have h1:xn.length≤12:=name_len h
 simp only at hE
 rw [tx_set];simp only [List.flatten_cons,List.flatten_nil,List.append_nil,List.length_append,List.length_cons,List.length_nil,tx_none];omega
theorem len_ord {x:Ex × Bool} (hE:(tx (pcs x.1)).length≤12000):(tx (ordP x)).length≤12010:=by
 obtain ⟨xe,d⟩:=x
 simp only at hE
 cases d
 · rw [tx_od0];simp only [List.flatten_cons,List.flatten_nil,List.append_nil,List.length_append,List.length_cons,List.length_nil,tx_none];omega
 · rw [tx_od1];simp only [List.flatten_cons,List.flatten_nil,List.append_nil,List.length_append,List.length_cons,List.length_nil,tx_none];omega
theorem len_dgz {n:Int} (h0:0≤n) (h:n≤9999):(Num.dgz n).length≤20:=by
 have h1:=Num.dg_len19 (n:=n.natAbs) (by omega)
 unfold Num.dgz
 repeat' split
 all_goals first|omega|(simp only [List.flatten_cons,List.flatten_nil,List.append_nil,List.length_append,List.length_cons,List.length_nil,tx_none];omega)
def Sml (x:St):Prop:=∀e,own x e→Lo e→(tx (pcs e)).length≤12000
theorem len_rowsS {l:List (List Ex)} (hn:l.length≤8) (h:∀x∈l,(tx (rowP x)).length≤80002):(tx (sep (l.map rowP))).length≤700000:=by
 have h1:=len_sep (g:=rowP) h
 have h2:=Nat.mul_le_mul_right (80002+2) hn
 omega
theorem len_selw {rows:List (List Ex)} (hn:rows.length≤1) (hr:∀x∈rows,okEs x 6) (hE:∀x∈rows,∀e∈x,(tx (pcs e)).length≤12000):(tx (selX rows)).length≤80000:=by
 rcases rows with _|⟨x,q⟩
 · show (tx [C 42]).length≤_;rw [show (tx [C 42]).length=1 from rfl];omega
 · exact len_rows (hr x (by simp)).2.1 (hE x (by simp))
theorem len_okR {x:St} (h:OkR x) (hE:Sml x):(tx (stP x)).length≤1000000:=by
  cases h with
  | @insert t ns rows h1 h2 h3 h4 h5=>
    have g1:=name_len h1
    have g2:=len_rowsS h4 fun x hx=>len_row (h5 x hx).2.1 fun e he=>hE e (.inr (.inl ⟨x,hx,he⟩)) ((h5 x hx).2.2 e he)
    by_cases hn:ns= []
    · subst hn;rw [tx_winsert_none];simp only [List.flatten_cons,List.flatten_nil,List.append_nil,List.length_append,List.length_cons,List.length_nil,tx_none];omega
    · have g3:=len_nms h2
      rw [tx_winsert_some hn];simp only [List.flatten_cons,List.flatten_nil,List.append_nil,List.length_append,List.length_cons,List.length_nil,tx_none];omega
  | @update t sets wh h1 h2 h3 h4 h5=>
    have g1:=name_len h1
    have g2:=len_wh h5 fun g=>hE _ (.inr (.inr (.inl rfl))) g
    have g3:=len_sep (g:=setP) (c:=12020) (l:=sets) fun x hx=>len_set (h4 x hx).1 (hE _ (.inr (.inr (.inr (.inl ⟨x,hx,rfl⟩)))) (h4 x hx).2)
    have g4:=Nat.mul_le_mul_right (12020+2) h3
    rw [tx_wofRows_17];simp only [List.flatten_cons,List.flatten_nil,List.append_nil,List.length_append,List.length_cons,List.length_nil,tx_none];omega
  | @delete t wh h1 h2=>
    have g1:=name_len h1
    have g2:=len_wh h2 fun g=>hE _ (.inr (.inr (.inl rfl))) g
    rw [tx_wofRows_18];simp only [List.flatten_cons,List.flatten_nil,List.append_nil,List.length_append,List.length_cons,List.length_nil,tx_none];omega
  | @select t rows wh order limit h1 h2 h3 h4 h5 h6 h7 h8=>
    have g1:=name_len h1
    have g2:=len_wh h4 fun g=>hE _ (.inr (.inr (.inl rfl))) g
    have g3:=len_selw h2 h3 fun x hx e he=>hE e (.inr (.inl ⟨x,hx,he⟩)) ((h3 x hx).2.2 e he)
    have g4:=len_sep (g:=ordP) (c:=12010) (l:=order) fun x hx=>len_ord (hE _ (.inr (.inr (.inr (.inr ⟨x,hx,rfl⟩)))) (h6 x hx))
    have g5:=Nat.mul_le_mul_right (12010+2) h5
    have g6:(tx (if order.isEmpty=true then [] else none::K kORDER::none::K kBY::none::sep (order.map ordP))).length≤(tx (sep (order.map ordP))).length+10:=by
      split
      · show (tx []).length≤_;simp [tx]
      · exact Nat.le_refl _
    have g7:(tx (limP limit)).length≤30:=by
      by_cases hl:0≤limit
      · have:=len_dgz hl h8
        rw [tx_lim hl];simp only [List.flatten_cons,List.flatten_nil,List.append_nil,List.length_append,List.length_cons,List.length_nil,tx_none];omega
      · unfold limP;rw [if_neg hl];show (tx []).length≤_;simp [tx]
    rw [tx_sel];simp only [List.flatten_cons,List.flatten_nil,List.append_nil,List.length_append,List.length_cons,List.length_nil,tx_none];omega
theorem len_okS {x:St} (h:OkS x) (hE:Sml x) (hK:∀y∈kidsS x,Sml y):(tx (stP x)).length≤2000000:=by
 cases h with
 | @table t cols cons h1 h2 h3 h4 h5 h6=>
   have g1:=name_len h1
   have g2:=len_sep (g:=coP) (c:=30) (l:=cols) fun x hx=>len_co (h4 x hx)
   have g3:=Nat.mul_le_mul_right (30+2) h3
   have g4:=len_cs (l:=cons) fun x hx=>len_cn (h6 x hx) (hE _ (.inl ⟨x,hx,rfl⟩))
   have g5:=Nat.mul_le_mul_right 13002 h5
   rw [tx_wcreate (by intro e;rw [e] at h2;simp at h2)];simp only [List.flatten_cons,List.flatten_nil,List.append_nil,List.length_append,List.length_cons,List.length_nil,tx_none];omega
 | @dropTable t h1=>
   have g1:=name_len h1
   rw [tx_wofTable_2];simp only [List.flatten_cons,List.flatten_nil,List.append_nil,List.length_append,List.length_cons,List.length_nil,tx_none];omega
 | @addCol t x h1 h2=>
   have g1:=name_len h1
   have g2:=len_co h2
   rw [tx_wofTable_3];simp only [List.flatten_cons,List.flatten_nil,List.append_nil,List.length_append,List.length_cons,List.length_nil,tx_none];omega
 | @dropCol t n h1 h2=>
   have g1:=name_len h1
   have g2:=name_len h2
   rw [tx_wofTable_4];simp only [List.flatten_cons,List.flatten_nil,List.append_nil,List.length_append,List.length_cons,List.length_nil,tx_none];omega
 | @rename t n h1 h2=>
   have g1:=name_len h1
   have g2:=name_len h2
   rw [tx_wofTable_5];simp only [List.flatten_cons,List.flatten_nil,List.append_nil,List.length_append,List.length_cons,List.length_nil,tx_none];omega
 | @addCons t x h1 h2=>
   have g1:=name_len h1
   have g2:=len_cn h2 (hE _ (.inl ⟨x,by simp,rfl⟩))
   rw [tx_wofTable_6];simp only [List.flatten_cons,List.flatten_nil,List.append_nil,List.length_append,List.length_cons,List.length_nil,tx_none];omega
 | @dropCons t n h1 h2=>
   have g1:=name_len h1
   have g2:=name_len h2
   rw [tx_wofTable_7];simp only [List.flatten_cons,List.flatten_nil,List.append_nil,List.length_append,List.length_cons,List.length_nil,tx_none];omega
 | @index t n ns h1 h2 h3=>
   have g1:=name_len h1
   have g2:=name_len h2
   have g3:=len_nms (okNs_up (by omega) h3)
   rw [tx_wofTable_8];simp only [List.flatten_cons,List.flatten_nil,List.append_nil,List.length_append,List.length_cons,List.length_nil,tx_none];omega
 | @dropIndex t n h1 h2=>
   have g1:=name_len h1
   have g2:=name_len h2
   rw [tx_wofTable_9];simp only [List.flatten_cons,List.flatten_nil,List.append_nil,List.length_append,List.length_cons,List.length_nil,tx_none];omega
 | @role n h1=>
   have g1:=name_len h1
   rw [tx_wofRole_10];simp only [List.flatten_cons,List.flatten_nil,List.append_nil,List.length_append,List.length_cons,List.length_nil,tx_none];omega
 | @dropRole n h1=>
   have g1:=name_len h1
   rw [tx_wofRole_11];simp only [List.flatten_cons,List.flatten_nil,List.append_nil,List.length_append,List.length_cons,List.length_nil,tx_none];omega
 | @grantRole n r h1 h2=>
   have g1:=name_len h1
   have g2:=name_len h2
   rw [tx_wofRole_12];simp only [List.flatten_cons,List.flatten_nil,List.append_nil,List.length_append,List.length_cons,List.length_nil,tx_none];omega
 | @revokeRole n r h1 h2=>
   have g1:=name_len h1
   have g2:=name_len h2
   rw [tx_wofRole_13];simp only [List.flatten_cons,List.flatten_nil,List.append_nil,List.length_append,List.length_cons,List.length_nil,tx_none];omega
 | @grant t r p o h1 h2 h3 h4=>
   have g1:=name_len h1
   have g2:=name_len h2
   have g3:=len_pr p
   cases o
   · rw [tx_wofRole_14_false];simp only [List.flatten_cons,List.flatten_nil,List.append_nil,List.length_append,List.length_cons,List.length_nil,tx_none];omega
   · rw [tx_wofRole_14_true];simp only [List.flatten_cons,List.flatten_nil,List.append_nil,List.length_append,List.length_cons,List.length_nil,tx_none];omega
 | @revoke t r p h1 h2 h3 h4=>
   have g1:=name_len h1
   have g2:=name_len h2
   have g3:=len_pr p
   rw [tx_wofRole_15];simp only [List.flatten_cons,List.flatten_nil,List.append_nil,List.length_append,List.length_cons,List.length_nil,tx_none];omega
 |rows hr=>have:=len_okR hr hE;omega
 | @prepare n s h1 hr=>
   have g1:=name_len h1
   have g2:=len_okR hr (hK s (by simp [kidsS]))
   rw [tx_wprepare];simp only [List.flatten_cons,List.flatten_nil,List.append_nil,List.length_append,List.length_cons,List.length_nil,tx_none];omega
 | @execute n rows h1 h2 h3=>
   have g1:=name_len h1
   rcases rows with _|⟨x,_|⟨y,q⟩⟩
   · rw [tx_wexec_none];simp only [List.flatten_cons,List.flatten_nil,List.append_nil,List.length_append,List.length_cons,List.length_nil,tx_none];omega
   · have g2:=len_row (h3 x (by simp)).2.1 fun e he=>hE e (.inr (.inl ⟨x,by simp,he⟩)) ((h3 x (by simp)).2.2 e he)
     rw [tx_wexec_one];simp only [List.flatten_cons,List.flatten_nil,List.append_nil,List.length_append,List.length_cons,List.length_nil,tx_none];omega
   · simp at h2
 | @deallocate n h1=>
   have g1:=name_len h1
   rw [tx_wofPlan_22];simp only [List.flatten_cons,List.flatten_nil,List.append_nil,List.length_append,List.length_cons,List.length_nil,tx_none];omega
end Go.Proofs.YtiaomhdmllhmmaaGreatDoor.Sm
namespace Go.Proofs.YtiaomhdmllhmmaaGreatDoor.Sm
open Go.RowKit Mem Ep Right Lx
set_option linter.unusedVariables false
def str (s:Bs):Value:= .string (Ep.txt s)
theorem elemS:Elem Tryz.prog 24 tS 16:=Elem.of (z:= .string ⟨#[]⟩) (by kernel_rfl) (by kernel_rfl) rfl
structure TS (V:World) (v:Value) (L:List Bs) (w:World):Prop where
 own:w.ownsRow V.heap.size tS 1 v L.length (L.map str)
 low:Below V.heap.size V w
section
variable {V w w' :World} {v:Value} {L:List Bs}
theorem TS.call (h:TS V v L w) (hb:Below w.heap.size w w'):TS V v L w' :=
 ⟨h.own.kept (row:=none) ⟨hb.os,hb.tape,hb.output,hb.size,fun k hk _=>hb.block k hk⟩ (by cases hv:v.ownBlock with|none=>exact .inl rfl|some k=>exact .inr (by simp)),h.low.trans (hb.mono h.low.size)⟩
theorem TS.form (h:TS V v L w):∃A c,v= .slice A L.length c∧Row w w.heap.size A (L.map str):=by
 have ho:=h.own
 obtain ⟨A,n,c,rfl⟩:∃A n c,v= .slice A n c:=by
   rcases h.own.2 with ⟨hv,_⟩|⟨g,cap,cur,hv,_⟩
   · exact ⟨_,_,_,hv⟩
   · exact ⟨_,_,_,hv⟩
 have hn:n=L.length:=by
   rcases h.own.2 with ⟨hv,h0⟩|⟨g,cap,cur,hv,_⟩
   · injection hv with _ e _;omega
   · injection hv
 subst hn
 exact ⟨A,c,rfl,Row.own ho⟩
theorem TS.lt (h:TS V v L w) {k:Nat} (hk:v.ownBlock=some k):V.heap.size≤k∧k<w.heap.size:=h.own.lt k hk
theorem wp_app (h:TS V v L w) {ops:Array Oper} {rest:List Oper} {o:Oper} {a:Act} {Q:Exit→Act→World→Prop} (s y:Operand) (hgd:o.guard=none) (ho:o.op= .call {callee:= .builtin .append,args:= #[s,y],argTypes:= #[24,24]})
   (hs:a.eval s=v) {us:List Bs} {B m c:Nat} {A:Option Addr} (hy:a.eval y= .slice A m c) (hr:Row w B A (us.map str)) (hl:us.length=m) (hA:A=none→c=0) (hn:L.length+m≤100000)
   (hc:∀v' w',TS V v' (L++us) w' →(∀k,k<w.heap.size→v.ownBlock≠some k→w'.heap[k]?=w.heap[k]?)→(v'.ownBlock=v.ownBlock ∨ v'.ownBlock=some w.heap.size)→w.heap.size≤w'.heap.size→wpList Tryz.prog ops Q rest (a.put o.dst v') w'):
   wpList Tryz.prog ops Q (o::rest) a w:=by
 refine wp_many elemS V.heap.size s y hgd ho hs h.own hy hr (by simpa using hl) hA ?_ (by omega) (by omega) h.low.size fun v' w' g1 g2 g3=>?_
 · intro u hu
   obtain ⟨x,_,rfl⟩:=List.mem_map.1 hu
   rfl
 · refine hc v' w' ⟨by rw [List.length_append,hl,List.map_append];exact g1,h.low.trans ⟨g2.os,g2.tape,g2.output,g2.size,fun j hj=>g2.block j (by have:=h.low.size;omega) (fun e=>by have:=(h.own.lt j e.symm).1;omega)⟩⟩ (fun k hk hne=>g2.block k hk (fun e=>hne e.symm)) g3 g2.size
end
theorem row_str {w:World} {B:Nat} {A:Option Addr} {n c:Nat} {l:List Bs} (h:IsRow w (fun b=>b<B) 1 (l.map sDt) (.slice A n c)):Row w B A (l.map str)∧l.length=n∧(A=none→c=0):=by
 obtain ⟨A',c',e,h1,h2,h3,h4⟩:=h
 injection e with e1 e2 e3
 subst e1 e2 e3
 refine ⟨?_,by rw [List.length_map],h3⟩
 intro k u hu
 rw [List.getElem?_map] at hu
 obtain ⟨x,hx,rfl⟩:=Option.map_eq_some_iff.1 hu
 obtain ⟨b,o,cs,g1,g2,g3,g4,g5⟩:=RowIn.get h4 (show (l.map sDt)[k]?=some (sDt x) by rw [List.getElem?_map,hx];rfl)
 refine ⟨b,o,g1,g2,?_⟩
 have:=g4 0 (str x) (by rw [in_one.1 g5];rfl)
 simpa using this
def tF (l:Bs):Prop:=l.length≤100
def cnF (x:Cn):Prop:=x.cols.length≤12∧x.refs.length≤12∧exF x.chk
def cnT (x:Cn):List Bs:= [x.nm,x.tbl]++x.cols++x.refs
def Fw0 (t n r:Bs) (cols:List Co) (cons:List Cn) (names:List Bs) (rows:List (List Ex)) (wh:Ex) (sets:List (Bs × Ex)) (order:List (Ex × Bool)):Prop:=
 (tF t∧tF n∧tF r)∧(∀x∈cols,tF x.nm)∧(∀x∈cons,cnF x∧∀s∈cnT x,tF s)∧(∀x∈names,tF x)∧(∀x∈rows,∀e∈x,exF e)∧exF wh∧(∀x∈sets,tF x.1∧exF x.2)∧(∀x∈order,exF x.1)
def FwO (x:St):Prop:=
 match x with
 | .mk _ t n r cols cons names rows wh sets order _ _ _ _=>Fw0 t n r cols cons names rows wh sets order
def Fw (x:St):Prop:=FwO x∧∀y∈kidsS x,FwO y∧kidsS y= []
theorem fw0_slim {t n r:Bs} {cols:List Co} {cons:List Cn} {names:List Bs} {rows:List (List Ex)} {wh:Ex} {sets:List (Bs × Ex)} {order:List (Ex × Bool)} (h:Fw0 t n r cols cons names rows wh sets order):sLim0 t n r cols cons names rows wh sets order:=by
 obtain ⟨⟨h1,h2,h3⟩,h4,h5,h6,h7,h8,h9,h10⟩:=h
 have u:∀{l:Bs},tF l→tLim l:=fun g=>Nat.le_trans g (by omega)
 exact ⟨⟨u h1,u h2,u h3⟩,fun x hx=>u (h4 x hx),fun x hx=>⟨u ((h5 x hx).2 _ (by simp [cnT])),u ((h5 x hx).2 _ (by simp [cnT])),fun y hy=>u ((h5 x hx).2 _ (by simp [cnT,hy])),fun y hy=>u ((h5 x hx).2 _ (by simp [cnT,hy])),exF_lim (h5 x hx).1.2.2⟩,fun x hx=>u (h6 x hx),fun x hx e he=>exF_lim (h7 x hx e he),exF_lim h8,fun x hx=>⟨u (h9 x hx).1,exF_lim (h9 x hx).2⟩,fun x hx=>exF_lim (h10 x hx)⟩
theorem fwo_sml {x:St} (h:FwO x):Sml x:=by
 obtain ⟨k,t,n,r,cols,cons,names,rows,wh,sets,order,limit,priv,opt,kids⟩:=x
 obtain ⟨-, -,h5, -,h7,h8,h9,h10⟩:=h
 intro e he hl
 refine exF_len ?_ hl.1
 rcases he with ⟨x,hx,rfl⟩|⟨x,hx,he⟩|rfl|⟨x,hx,rfl⟩|⟨x,hx,rfl⟩
 · exact (h5 x hx).1.2.2
 · exact h7 x hx _ he
 · exact h8
 · exact (h9 x hx).2
 · exact h10 x hx
theorem fwo_slim {x:St} (h:FwO x) (hk:∀y∈kidsS x,SLim y):SLim x:=by
 obtain ⟨k,t,n,r,cols,cons,names,rows,wh,sets,order,limit,priv,opt,kids⟩:=x
 exact (sLim_mk _ _ _ _ _ _ _ _ _ _ _ _ _ _ _).2 ⟨fw0_slim h,hk⟩
theorem fw_slim {x:St} (h:Fw x):SLim x:=fwo_slim h.1 fun y hy=>fwo_slim (h.2 y hy).1 fun z hz=>by rw [(h.2 y hy).2] at hz;cases hz
theorem fw_txs {x:St} (h:Fw x):Txs x:=⟨fun e he hl=>Nat.le_trans (fwo_sml h.1 e he hl) (by omega),fun y hy e he hl=>Nat.le_trans (fwo_sml (h.2 y hy).1 e he hl) (by omega)⟩
theorem fw_len {x:St} (h:Fw x) (hk:OkS x):(tx (stP x)).length≤1000000000:=Nat.le_trans (len_okS hk (fwo_sml h.1) fun y hy=>fwo_sml (h.2 y hy).1) (by omega)
end Go.Proofs.YtiaomhdmllhmmaaGreatDoor.Sm
