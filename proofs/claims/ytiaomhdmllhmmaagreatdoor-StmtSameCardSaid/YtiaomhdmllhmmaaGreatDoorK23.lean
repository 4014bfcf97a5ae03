/- A whole statement, by value, out of its cells and into a new block: laws for the walk, its The items of a list are checked one by one: statements. What a checker asks of a row, of a set, of an order, and of lists of these. A checker's calls for lists whose items it asks by a closure: orders. A checker's calls for lists whose items it asks by a closure: sets. A checker's calls for lists whose items it asks by a closure: rows. What a checker asks of the statement that is prepared. -/
import Derived.Deep.MidRow
import Derived.Deep.WholeRow
import Derived.Deep.Quiet
import Derived.Test.YtiaomhdmllhmmaaGreatDoorK18
import Derived.Test.YtiaomhdmllhmmaaGreatDoorK19
import Derived.Deep.RegionWith
import Derived.Deep.CutRange
import Derived.Test.YtiaomhdmllhmmaaGreatDoorK21
import Derived.Deep.RegionHeld3
namespace Go.Proofs.YtiaomhdmllhmmaaGreatDoor.Sm
open Go.RowKit Mem Ep Right Go.ChangeShapes Go.WideShapes
set_option linter.unusedVariables false
theorem wpList_store_new {P:Program} {ops:Array Oper} {rest:List Oper} {op:Oper} {a:Act} {Q:Exit→Act→World→Prop} (hgd:op.guard=none) (ty:TypeId) (x y:Operand) (ho:op.op= .store ty x y)
   (w0:World) (c c' :Array Value) (hx:a.eval x= .pointer (some ⟨w0.heap.size,0,none⟩)) (hy:a.eval y= .agg c') (hi:(P.info? ty).map (·.size)=some c'.size) (hs:c.size=c'.size) (h1:c'.all (·.oneCell')=true)
   (h:wpList P ops Q rest (a.put op.dst undef) (w0.alloc (.cells c' ty))):wpList P ops Q (op::rest) a (w0.alloc (.cells c ty)):=
 wpList_plain hgd fun K hK=>by
   unfold Oper.wp execOp
   simp only [ho,hx,hy,Instr.storeAt,Instr.sureAddr,Sem.run_bind,Sem.run_pure,Result.andThen_ok,run_storeVar_new w0 ty c c' hi hs h1]
   exact hK _ _ h
theorem quiet_load_mid {P:Program} {C:World→Prop} {ops:Array Oper} {rest:List Oper} {Q:Act→Prop} {op:Oper} {a:Act} (hgd:op.guard=none) (ty:TypeId) (x:Operand) (ho:op.op= .load ty x)
   (b o:Nat) (hx:a.eval x= .pointer (some ⟨b,o,none⟩)) (cs:List Value) (d:TypeDesc) (hc:∀w,C w→w.rangeAt b o cs) (hu:P.underlying ty=some d) (hd:d.isRow=true) (hi:(P.info? ty).map (·.size)=some cs.length)
   (h:wpQuiet P ops C Q rest (a.put op.dst (.agg cs.toArray))):wpQuiet P ops C Q (op::rest) a:=by
 refine wpQuiet_step fun K hK=>?_
 have hw:Region.wanted op (yielded ops a.tmps)=true:=by simp [Region.wanted,hgd]
 rw [if_pos hw]
 refine ⟨_,fun w hw=>?_,hK _ h⟩
 unfold Oper.quietAt execOp
 simp only [ho,hx,Instr.loadAt,Instr.sureAddr,Sem.run_bind,Sem.run_pure,Result.andThen_ok,run_loadVar_mid w b o ty cs d (hc w hw) hu hd hi]
 exact ⟨rfl,rfl⟩
abbrev tSt:TypeId:=35
theorem stmt_size:(Tryz.prog.info? tSt).map (·.size)=some 21:=by kernel_rfl
section
variable {w:World} {S:Nat→Prop}
theorem st_one {x:St} {cs:List Value} (h:DtIn w S (stDt x) cs):cs.length=21∧∀v∈cs,v.oneCell' =true:=by
 obtain ⟨sk,tt,tn,tr,P1,p1,q1,P2,p2,q2,P3,p3,q3,P4,p4,q4,k,o,vk,vn,vs,ns,A,n,c,P5,p5,q5,P6,p6,q6,li,pr,op,P7,p7,q7,rfl⟩:=st_form h
 refine ⟨rfl,?_⟩
 simp [Value.oneCell']
theorem load_stmt {ops:Array Oper} {rest:List Oper} {op:Oper} {a:Act} {Q:Exit→Act→World→Prop} (hgd:op.guard=none) (x:Operand) (ho:op.op= .load tSt x)
   (b o:Nat) (hx:a.eval x= .pointer (some ⟨b,o,none⟩)) (cs:List Value) (hc:At w b o cs) (hl:cs.length=21) (h:wpList Tryz.prog ops Q rest (a.put op.dst (.agg cs.toArray)) w):wpList Tryz.prog ops Q (op::rest) a w:=
 wpList_load_mid hgd tSt x ho b o hx cs _ hc Tryz.underlying35 rfl (by rw [hl];exact stmt_size) h
theorem quiet_stmt {C:World→Prop} {ops:Array Oper} {rest:List Oper} {Q:Act→Prop} {op:Oper} {a:Act} (hgd:op.guard=none) (x:Operand) (ho:op.op= .load tSt x)
   (b o:Nat) (hx:a.eval x= .pointer (some ⟨b,o,none⟩)) (cs:List Value) (hc:∀w,C w→At w b o cs) (hl:cs.length=21) (h:wpQuiet Tryz.prog ops C Q rest (a.put op.dst (.agg cs.toArray))):wpQuiet Tryz.prog ops C Q (op::rest) a:=
 quiet_load_mid hgd tSt x ho b o hx cs _ hc Tryz.underlying35 rfl (by rw [hl];exact stmt_size) h
theorem store_stmt {ops:Array Oper} {rest:List Oper} {op:Oper} {a:Act} {Q:Exit→Act→World→Prop} (hgd:op.guard=none) (x y:Operand) (ho:op.op= .store tSt x y)
   (w0:World) (c:Array Value) (hx:a.eval x= .pointer (some ⟨w0.heap.size,0,none⟩)) (cs:List Value) (hy:a.eval y= .agg cs.toArray) (hl:cs.length=21) (hs:c.size=21) (h1:∀v∈cs,v.oneCell' =true)
   (h:wpList Tryz.prog ops Q rest (a.put op.dst undef) (w0.alloc (.cells cs.toArray tSt))):wpList Tryz.prog ops Q (op::rest) a (w0.alloc (.cells c tSt)):=
 wpList_store_new hgd tSt x y ho w0 c cs.toArray hx hy (by rw [List.size_toArray,hl];exact stmt_size) (hs.trans (by simp [hl])) (all_oneCell_toArray h1) h
end
end Go.Proofs.YtiaomhdmllhmmaaGreatDoor.Sm
namespace Go.Proofs.YtiaomhdmllhmmaaGreatDoor.Sm
open Go.RowKit Mem Ep Right Lx Go.ChangeShapes Go.WideShapes
set_option linter.unusedVariables false
section
variable {w w' :World} {B:Nat} {f:Fl} {m:Mk} {er:Int}
set_option maxRecDepth 100000 in
set_option maxHeartbeats 2000000 in
theorem each_st (pc:Value) {l:List (St)} {A:Option Addr} {n c:Nat} (least most:Nat) {P:St→Prop} (h:Cel w B tC (ckA f m er)) (hl:LsIn w B A n 21 (l.map stDt)) (hcb:∀x∈l,∀(W:World) (er:Int) (cs:List Value),Cel W B tC (ckA f m er)→Oth B w W→DtIn W (fun b=>b<B) (stDt x) cs→Calls Tryz.prog 178 #[.agg cs.toArray,pc] W (Did B f m er (P x) W)):
    Calls Tryz.prog 177 #[cP B, .slice A n c, .int .i64 (least:Int), .int .i64 (most:Int), .func (.func 178) #[] #[pc]] w (Did B f m er (okLn l least most P) w):=by
  have hn:n=l.length:=by rw [hl.1,List.length_map]
  obtain ⟨lo,hlo⟩:∃lo:Int,(least:Int)=lo:=⟨_,rfl⟩
  obtain ⟨hi,hhi⟩:∃hi:Int,(most:Int)=hi:=⟨_,rfl⟩
  have hmx:n≤2 ^ 63 - 1:=by have:=hl.2.1;unfold maxLen at this;omega
  rw [hlo,hhi]
  by_cases h1:(n:Int)<lo
  · have HM:=Lib.hid (show Calls Tryz.prog 37 #[cP B, .bool false] w (Did B f m er (okLn l least most P) w) from (must_any false h).mono fun _ _ g=>g.iff ⟨fun g=>(by cases g),fun g=>absurd g.1 (by omega)⟩)
    have t1:decide ((n:Int)<lo)=true:=decide_eq_true h1
    clear h hl hcb hn hlo hhi
    go_enter Tryz.func177,Tryz.ntmps177
    go_wp2_with (go_at_call 37;(with_reducible refine HM.out.mono ?_);rintro e1 w1 ⟨rfl,HD1⟩)
    go_end0
    exact ⟨rfl,HD1⟩
  have t1:decide ((n:Int)<lo)=false:=decide_eq_false h1
  by_cases h2:hi<(n:Int)
  · have HM:=Lib.hid (show Calls Tryz.prog 37 #[cP B, .bool false] w (Did B f m er (okLn l least most P) w) from (must_any false h).mono fun _ _ g=>g.iff ⟨fun g=>(by cases g),fun g=>absurd g.2.1 (by omega)⟩)
    have t2:decide (hi<(n:Int))=true:=decide_eq_true h2
    clear h hl hcb hn hlo hhi
    go_enter Tryz.func177,Tryz.ntmps177
    go_wp2_with (go_at_call 37;(with_reducible refine HM.out.mono ?_);rintro e1 w1 ⟨rfl,HD1⟩)
    go_end0
    exact ⟨rfl,HD1⟩
  have t2:decide (hi<(n:Int))=false:=decide_eq_false h2
  have HFIN:=Lib.hid (show ∀wr,EachI B f m er w l P n wr→Did B f m er (okLn l least most P) w (.returned (.tuple #[])) wr from fun wr hI=>by
    obtain ⟨er1,hC1,hO,hq⟩:=hI
    refine ⟨rfl,er1,hC1,hO,?_⟩
    rw [hq,hn,List.take_length]
    exact ⟨fun g=>⟨g.1,by omega,by omega,g.2⟩,fun g=>⟨g.1,g.2.2.2⟩⟩)
  have HL:=Lib.hid hl
  have HCB:=Lib.hid hcb
  have HN:=Lib.hid hn
  have HST:=Lib.hid (show EachI B f m er w l P 0 w from ⟨er,h,Oth.refl _ _,⟨fun g=>⟨g,fun x hx=>by simp at hx⟩,fun g=>g.1⟩⟩)
  clear h hl hcb hn hlo hhi
  go_enter Tryz.func177,Tryz.ntmps177
  go_wp2
  go_loopw [26] (fun i wr=>∃j:Nat,j≤n∧i= .int .i64 (j:Int)∧Hid (EachI B f m er w l P j wr)) (fun i _=>n+1 - (intOf i).toNat)
  case atStart=>exact ⟨0,Nat.zero_le _,rfl,HST⟩
  case round=>
    obtain ⟨j,hj,rfl,HE⟩:=hrel
    by_cases hlt:j<n
    · obtain ⟨er1,hC1,hO,hq⟩:=HE.out
      obtain ⟨x,hx⟩:=some_at HN.out.symm hlt
      have hxm:=List.mem_of_getElem? hx
      have hlB:=hC1.lt
      have HSTEP:=Lib.hid (show ∀w2 er2,Cel w2 B tC (ckA f m er2)→Oth B wr w2→(er2=0↔er1=0∧P x)→EachI B f m er w l P (j+1) w2 from fun w2 er2 g1 g2 g3=>⟨er2,g1,hO.trans g2,by
        rw [g3,hq,List.take_add_one,hx]
        simp only [Option.toList_some,List.mem_append,List.mem_singleton]
        exact ⟨fun g=>⟨g.1.1,fun y hy=>hy.elim (g.1.2 y) (fun e=>e▸g.2)⟩,fun g=>⟨⟨g.1,fun y hy=>g.2 y (.inl hy)⟩,g.2 x (.inr rfl)⟩⟩⟩)
      obtain ⟨b1,z1,cs1,rfl,hb1,at1,in1⟩:=kid_at (HL.out.below hO.1).2.2 hx
      obtain ⟨hlen,hone⟩:=st_one in1
      have HIN:=Lib.hid in1
      have HAT:=Lib.hid at1
      have HLEN:=Lib.hid hlen
      have HONE:=Lib.hid hone
      have HCC:=Lib.hid (show ∀W,Below wr.heap.size wr W→Calls Tryz.prog 178 #[.agg cs1.toArray,pc] W (Did B f m er1 (P x) W) from fun W hW=>HCB.out x hxm W er1 cs1 (hC1.below hW) (hO.trans (Oth.of hW (Nat.le_of_lt hlB))) (HIN.out.below (hW.mono (Nat.le_of_lt hlB))))
      have tl:decide ((j:Int)<(n:Int))=true:=decide_eq_true (by omega)
      have HLB:=Lib.hid hlB
      clear hx hxm hC1 hO hq hlB hb1 in1 HE
      go_wp2_with (first|(refine load_stmt rfl _ rfl b1 (z1+j*21) rfl cs1 HAT.out HLEN.out ?_)|(refine store_stmt rfl _ _ rfl wr _ rfl cs1 rfl HLEN.out rfl HONE.out ?_)|(refine load_stmt rfl _ rfl wr.heap.size 0 rfl cs1 (at_cel (Cel.new wr _ _ rfl)) HLEN.out ?_)|(go_at_call 178;(with_reducible refine (HCC.out _ (al (Below.refl _ _) _)).mono ?_);rintro e1 w2 ⟨rfl,er2,hC2,hO2,hq2⟩;have HR:=Lib.hid (HSTEP.out w2 er2 hC2 (Oth.trans (show Oth B wr _ from (Oth.of (al (Below.refl _ _) _) (Nat.le_of_lt HLB.out))) hO2) hq2);clear hC2 hO2 hq2))
      go_roundw
      case rel=>exact ⟨j+1,by omega,by go_num,HR⟩
      case measure=>simp [intOf];omega
    · have tl:decide ((j:Int)<(n:Int))=false:=decide_eq_false (by omega)
      obtain rfl:j=n:=by omega
      have HD:=Lib.hid (HFIN.out wr HE.out)
      clear HFIN HE
      go_wp2
      go_end0
      exact HD.out
end
end Go.Proofs.YtiaomhdmllhmmaaGreatDoor.Sm
namespace Go.Proofs.YtiaomhdmllhmmaaGreatDoor.Sm
open Go.RowKit Mem Ep Right Lx Go.ChangeShapes Go.WideShapes
set_option linter.unusedVariables false
section
variable {w w' :World} {B:Nat} {f:Fl} {m:Mk} {er:Int} {P:Prop}
abbrev tPC:TypeId:=102
def PcAt (w:World) (B g:Nat):Prop:=g≠B∧Cel w g tPC #[cP B]
theorem PcAt.oth {W:World} {g:Nat} (h:PcAt w B g) (ho:Oth B w W):PcAt W B g:=⟨h.1,Oth.cel ho h.1 h.2⟩
theorem PcAt.at_ {g:Nat} (h:PcAt w B g):w.cell? ⟨g,0,none⟩=some (cP B):=h.2.at_ 0
set_option maxRecDepth 100000 in
theorem row1_any {x:List Ex} {A:Option Addr} {n c g1 g2:Nat} (v:Nat) (hx:DtIn w (fun b=>b<B) (exsDt x) [.slice A n c]) (hf:∀e∈x,Fine e) (hl:∀e∈x,Lim e) (h:Cel w B tC (ckA f m er)) (hE:CkE w B) (hg1:PcAt w B g1) (hg2:w.cell? ⟨g2,0,none⟩=some (.int .i64 (v:Int))):
   Calls Tryz.prog 170 #[.slice A n c, .pointer (some ⟨g1,0,none⟩), .pointer (some ⟨g2,0,none⟩)] w (Did B f m er (okLn x 1 v Lo) w):=by
 obtain ⟨u,hu,hr⟩:=row_is.1 hx
 injection hu with hu
 subst hu
 have HI:=Lib.hid (show Calls Tryz.prog 171 #[cP B, .slice A n c, .int .i64 1, .int .i64 (v:Int), .func (.func 172) #[cP B] #[]] w (Did B f m er (okLn x 1 v Lo) w) from each_ex 1 v h (isRow_ls hr) fun e he W er2 cs g1 g2 g3=>isExpr_any g3 (hf e he) (hl e he) g1 (hE.below g2.1))
 have c1:=hg1.at_
 clear hx hf hl h hE hg1 hr
 go_enter Tryz.func170,Tryz.ntmps170
 go_wp2_with (go_at_call 171;(with_reducible refine HI.out.mono ?_);rintro e1 w1 ⟨rfl,HD1⟩)
 go_end0
 exact ⟨rfl,HD1⟩
set_option maxRecDepth 100000 in
set_option maxHeartbeats 1000000 in
theorem set1_any {x:Bs × Ex} {cs:List Value} {g1:Nat} (hx:DtIn w (fun b=>b<B) (seDt x) cs) (hl0:tLim x.1) (hf:Fine x.2) (hl:Lim x.2) (h:Cel w B tC (ckA f m er)) (hE:CkE w B) (hg1:PcAt w B g1):Calls Tryz.prog 174 #[.agg cs.toArray, .pointer (some ⟨g1,0,none⟩)] w (Did B f m er (okSe x) w):=by
 obtain ⟨e,rfl,h6⟩:=se_in.1 hx
 obtain ⟨kx,ox,vkx,vnx,vsx,nsx,Ax,nx,cx,rfl⟩:=ex_form h6
 obtain ⟨xn,xe⟩:=x
 simp only at hf hl h6 hl0
 show Calls Tryz.prog 174 #[.agg #[.string (txt xn), .int .i64 kx, .int .i64 ox, .int .i64 vkx, .int .i64 vnx, .string vsx, .string nsx, .slice Ax nx cx], .pointer (some ⟨g1,0,none⟩)] w _
 obtain ⟨W1,hW1⟩:∃W1,w.alloc (.cells #[.string (txt xn), .int .i64 kx, .int .i64 ox, .int .i64 vkx, .int .i64 vnx, .string vsx, .string nsx, .slice Ax nx cx] 58)=W1:=⟨_,rfl⟩
 have hb:Below w.heap.size w W1:=by rw [←hW1];exact al (Below.refl _ _) _
 have xw:Cel W1 w.heap.size 58 #[.string (txt xn), .int .i64 kx, .int .i64 ox, .int .i64 vkx, .int .i64 vnx, .string vsx, .string nsx, .slice Ax nx cx]:=by rw [←hW1];exact Cel.new _ _ _ rfl
 have hlB:=h.lt
 have ho:Oth B w W1:=Oth.of hb (Nat.le_of_lt hlB)
 have hp1:=hg1.oth ho
 have c1:=hp1.at_
 have v0:W1.cell? ⟨w.heap.size,0,none⟩=some (.string (txt xn)):=xw.at_ 0
 have HI:=Lib.hid (show Calls Tryz.prog 163 #[cP B, .string (txt xn)] W1 (Did B f m er (isN xn) W1) from isName_any _ hl0 (h.below hb) (hE.below ho.1))
 have HX:=Lib.hid (show ∀W2,Oth B W1 W2→Cel W2 w.heap.size 58 #[.string (txt xn), .int .i64 kx, .int .i64 ox, .int .i64 vkx, .int .i64 vnx, .string vsx, .string nsx, .slice Ax nx cx]∧W2.cell? ⟨g1,0,none⟩=some (cP B) from fun W2 g=>⟨Oth.cel g (by omega) xw,(hp1.oth g).at_⟩)
 have HE:=Lib.hid (show ∀W2 er2,Cel W2 B tC (ckA f m er2)→Oth B W1 W2→(er2=0↔er=0∧isN xn)→Calls Tryz.prog 172 #[cP B, .agg #[.int .i64 kx, .int .i64 ox, .int .i64 vkx, .int .i64 vnx, .string vsx, .string nsx, .slice Ax nx cx]] W2 (Did B f m er (okSe ⟨xn,xe⟩) w) from fun W2 er2 g1 g2 g3=>(isExpr_any (cs:= [.int .i64 kx, .int .i64 ox, .int .i64 vkx, .int .i64 vnx, .string vsx, .string nsx, .slice Ax nx cx]) (h6.below (ho.trans g2).1) hf hl g1 (hE.below (ho.trans g2).1)).mono fun _ _ g=>did_pre2 (ho.trans g2) g3 g)
 clear hx hf hl hl0 h hE hg1 hb xw hlB ho hp1 h6
 go_enter Tryz.func174,Tryz.ntmps174
 go_wp2_with (first|(go_at_call 163;(with_reducible refine HI.out.mono ?_);rintro e1 w1 ⟨rfl,er1,hC,hO,hq⟩;have hx2:=Lib.hid (HX.out w1 hO);have u1:=hx2.out.2;have e1:w1.cell? ⟨w.heap.size,1,none⟩=some (.int .i64 kx):=hx2.out.1.at_ 1;have e2:w1.cell? ⟨w.heap.size,2,none⟩=some (.int .i64 ox):=hx2.out.1.at_ 2;have e3:w1.cell? ⟨w.heap.size,3,none⟩=some (.int .i64 vkx):=hx2.out.1.at_ 3;have e4:w1.cell? ⟨w.heap.size,4,none⟩=some (.int .i64 vnx):=hx2.out.1.at_ 4;have e5:w1.cell? ⟨w.heap.size,5,none⟩=some (.string vsx):=hx2.out.1.at_ 5;have e6:w1.cell? ⟨w.heap.size,6,none⟩=some (.string nsx):=hx2.out.1.at_ 6;have e7:w1.cell? ⟨w.heap.size,7,none⟩=some (.slice Ax nx cx):=hx2.out.1.at_ 7;have HE2:=Lib.hid (HE.out w1 er1 hC hO hq);clear hC hO hq)|(go_at_call 172;(with_reducible refine HE2.out.mono ?_);rintro e1 w2 ⟨rfl,HD1⟩))
 go_end0
 exact ⟨rfl,HD1⟩
set_option maxRecDepth 100000 in
set_option maxHeartbeats 1000000 in
theorem ord1_any {x:Ex × Bool} {cs:List Value} {g1:Nat} (hx:DtIn w (fun b=>b<B) (orDt x) cs) (hf:Fine x.1) (hl:Lim x.1) (h:Cel w B tC (ckA f m er)) (hE:CkE w B) (hg1:PcAt w B g1):Calls Tryz.prog 176 #[.agg cs.toArray, .pointer (some ⟨g1,0,none⟩)] w (Did B f m er (okOd x) w):=by
 obtain ⟨e,rfl,h6⟩:=or_in.1 hx
 obtain ⟨kx,ox,vkx,vnx,vsx,nsx,Ax,nx,cx,rfl⟩:=ex_form h6
 obtain ⟨xe,xb⟩:=x
 simp only at hf hl h6
 show Calls Tryz.prog 176 #[.agg #[.int .i64 kx, .int .i64 ox, .int .i64 vkx, .int .i64 vnx, .string vsx, .string nsx, .slice Ax nx cx, .bool xb], .pointer (some ⟨g1,0,none⟩)] w _
 obtain ⟨W1,hW1⟩:∃W1,w.alloc (.cells #[.int .i64 kx, .int .i64 ox, .int .i64 vkx, .int .i64 vnx, .string vsx, .string nsx, .slice Ax nx cx, .bool xb] 60)=W1:=⟨_,rfl⟩
 have hb:Below w.heap.size w W1:=by rw [←hW1];exact al (Below.refl _ _) _
 have xw:Cel W1 w.heap.size 60 #[.int .i64 kx, .int .i64 ox, .int .i64 vkx, .int .i64 vnx, .string vsx, .string nsx, .slice Ax nx cx, .bool xb]:=by rw [←hW1];exact Cel.new _ _ _ rfl
 have hlB:=h.lt
 have ho:Oth B w W1:=Oth.of hb (Nat.le_of_lt hlB)
 have hp1:=hg1.oth ho
 have c1:=hp1.at_
 have v0:W1.cell? ⟨w.heap.size,0,none⟩=some (.int .i64 kx):=xw.at_ 0
 have v1:W1.cell? ⟨w.heap.size,1,none⟩=some (.int .i64 ox):=xw.at_ 1
 have v2:W1.cell? ⟨w.heap.size,2,none⟩=some (.int .i64 vkx):=xw.at_ 2
 have v3:W1.cell? ⟨w.heap.size,3,none⟩=some (.int .i64 vnx):=xw.at_ 3
 have v4:W1.cell? ⟨w.heap.size,4,none⟩=some (.string vsx):=xw.at_ 4
 have v5:W1.cell? ⟨w.heap.size,5,none⟩=some (.string nsx):=xw.at_ 5
 have v6:W1.cell? ⟨w.heap.size,6,none⟩=some (.slice Ax nx cx):=xw.at_ 6
 have HI:=Lib.hid (show Calls Tryz.prog 172 #[cP B, .agg #[.int .i64 kx, .int .i64 ox, .int .i64 vkx, .int .i64 vnx, .string vsx, .string nsx, .slice Ax nx cx]] W1 (Did B f m er (okOd ⟨xe,xb⟩) w) from (isExpr_any (cs:= [.int .i64 kx, .int .i64 ox, .int .i64 vkx, .int .i64 vnx, .string vsx, .string nsx, .slice Ax nx cx]) (h6.below ho.1) hf hl (h.below hb) (hE.below ho.1)).mono fun _ _ g=>did_pre ho g)
 clear hx hf hl h hE hg1 hb xw hlB ho hp1 h6
 go_enter Tryz.func176,Tryz.ntmps176
 go_wp2_with (go_at_call 172;(with_reducible refine HI.out.mono ?_);rintro e1 w1 ⟨rfl,HD1⟩)
 go_end0
 exact ⟨rfl,HD1⟩
end
end Go.Proofs.YtiaomhdmllhmmaaGreatDoor.Sm
namespace Go.Proofs.YtiaomhdmllhmmaaGreatDoor.Sm
open Go.RowKit Mem Ep Right Lx Go.ChangeShapes Go.WideShapes
set_option linter.unusedVariables false
section
variable {w w' :World} {B:Nat} {f:Fl} {m:Mk} {er:Int} {P:Prop}
set_option maxRecDepth 100000 in
set_option maxHeartbeats 2000000 in
theorem order_any {l:List (Ex × Bool)}  (hL:LsIn w B f.A10 f.n10 8 (l.map orDt)) (hf:∀x∈l,Fine x.1) (hl:∀x∈l,Lim x.1) (h:Cel w B tC (ckA f m er)) (hE:CkE w B):Calls Tryz.prog 125 #[cP B] w (Did B f {m with od:=true} er (okLn l 0 3 okOd) w):=by
 obtain ⟨W0,hW0⟩:∃W0,(w.alloc (.cells #[cP B] tPC))=W0:=⟨_,rfl⟩
 have hb:Below w.heap.size w W0:=by rw [←hW0];exact al (Below.refl _ _) _
 have hlB:=h.lt
 have ho:Oth B w W0:=Oth.of hb (Nat.le_of_lt hlB)
 have p0:Cel W0 w.heap.size tPC #[cP B]:=by rw [←hW0];exact Cel.new w _ _ rfl
 have q0:W0.cell? ⟨w.heap.size,0,none⟩=some (cP B):=p0.at_ 0
 have h0:=h.below hb
 obtain ⟨W1,hW1⟩:∃W1,W0.drew.setCell ⟨B,37,none⟩ (.slice f.A10 f.n10 f.a10)=W1:=⟨_,rfl⟩
 have h1:Cel W1 B tC (ckA f {m with od:=true} er):=by rw [←hW1];exact Cel.set (show Cel W0.drew B tC (ckA f m er) from h0) 37 (.slice f.A10 f.n10 f.a10)
 have ho1:Oth B W0 W1:=by rw [←hW1];exact (show Oth B W0 W0.drew from ⟨(Below.refl B W0).drew,fun _ _ _=>rfl⟩).set 37 (.slice f.A10 f.n10 f.a10)
 have c16:W0.cell? ⟨B,16,none⟩=some (.slice f.A10 f.n10 f.a10):=h0.at_ 16
 have c37:W0.cell? ⟨B,37,none⟩=some (sel m.od (.slice f.A10 f.n10 f.a10) zL):=h0.at_ 37
 have f37:=h0.open_ 37
 have d16:W1.cell? ⟨B,16,none⟩=some (.slice f.A10 f.n10 f.a10):=h1.at_ 16
 have hp:PcAt W1 B w.heap.size:=PcAt.oth ⟨by omega,p0⟩ ho1
 have d0:W1.cell? ⟨w.heap.size,0,none⟩=some (cP B):=hp.at_
 have HI:=Lib.hid (show ∀W2,W2.heap=W1.heap→Oth B W1 W2→Calls Tryz.prog 175 #[cP B, .slice f.A10 f.n10 f.a10, .int .i64 0, .int .i64 3, .func (.func 176) #[] #[.pointer (some ⟨w.heap.size,0,none⟩)]] W2 (Did B f {m with od:=true} er (okLn l 0 3 okOd) w) from fun W2 hh hoo=>by
   have h2:Cel W2 B tC (ckA f {m with od:=true} er):=by unfold Cel;rw [hh];exact h1
   have hoo2:=(ho.trans ho1).trans hoo
   exact (each_or (.pointer (some ⟨w.heap.size,0,none⟩)) 0 3 h2 (hL.below hoo2.1) fun x hx W er2 cs g1 g2 g3=>ord1_any g3 (hf x hx) (hl x hx) g1 (hE.below (hoo2.trans g2).1) (PcAt.oth (PcAt.oth hp hoo) g2)).mono fun _ _ g=>did_pre hoo2 g)
 clear hL h hE hb hlB ho p0 h0 h1 ho1 hp  hf hl
 go_enter Tryz.func125,Tryz.ntmps125
 go_wp2
 go_region
 go_wp2
 have HD0:=Lib.hid (HI.out W1.drew rfl ⟨(Below.refl B W1).drew,fun _ _ _=>rfl⟩)
 go_region_with ((go_at_call 175;(with_reducible refine HD0.out.mono ?_);rintro e1 w1 ⟨rfl,HD1⟩))
 all_goals
   go_wp2
   go_end0
   exact ⟨rfl,HD1⟩
end
end Go.Proofs.YtiaomhdmllhmmaaGreatDoor.Sm
namespace Go.Proofs.YtiaomhdmllhmmaaGreatDoor.Sm
open Go.RowKit Mem Ep Right Lx Go.ChangeShapes Go.WideShapes
set_option linter.unusedVariables false
section
variable {w w' :World} {B:Nat} {f:Fl} {m:Mk} {er:Int} {P:Prop}
set_option maxRecDepth 100000 in
set_option maxHeartbeats 2000000 in
theorem sets_any {l:List (Bs × Ex)}  (hL:LsIn w B f.A9 f.n9 8 (l.map seDt)) (hf:∀x∈l,Fine x.2) (hl:∀x∈l,tLim x.1∧Lim x.2) (h:Cel w B tC (ckA f m er)) (hE:CkE w B):Calls Tryz.prog 123 #[cP B] w (Did B f {m with se:=true} er (okLn l 1 6 okSe) w):=by
 obtain ⟨W0,hW0⟩:∃W0,(w.alloc (.cells #[cP B] tPC))=W0:=⟨_,rfl⟩
 have hb:Below w.heap.size w W0:=by rw [←hW0];exact al (Below.refl _ _) _
 have hlB:=h.lt
 have ho:Oth B w W0:=Oth.of hb (Nat.le_of_lt hlB)
 have p0:Cel W0 w.heap.size tPC #[cP B]:=by rw [←hW0];exact Cel.new w _ _ rfl
 have q0:W0.cell? ⟨w.heap.size,0,none⟩=some (cP B):=p0.at_ 0
 have h0:=h.below hb
 obtain ⟨W1,hW1⟩:∃W1,W0.drew.setCell ⟨B,36,none⟩ (.slice f.A9 f.n9 f.a9)=W1:=⟨_,rfl⟩
 have h1:Cel W1 B tC (ckA f {m with se:=true} er):=by rw [←hW1];exact Cel.set (show Cel W0.drew B tC (ckA f m er) from h0) 36 (.slice f.A9 f.n9 f.a9)
 have ho1:Oth B W0 W1:=by rw [←hW1];exact (show Oth B W0 W0.drew from ⟨(Below.refl B W0).drew,fun _ _ _=>rfl⟩).set 36 (.slice f.A9 f.n9 f.a9)
 have c15:W0.cell? ⟨B,15,none⟩=some (.slice f.A9 f.n9 f.a9):=h0.at_ 15
 have c36:W0.cell? ⟨B,36,none⟩=some (sel m.se (.slice f.A9 f.n9 f.a9) zL):=h0.at_ 36
 have f36:=h0.open_ 36
 have d15:W1.cell? ⟨B,15,none⟩=some (.slice f.A9 f.n9 f.a9):=h1.at_ 15
 have hp:PcAt W1 B w.heap.size:=PcAt.oth ⟨by omega,p0⟩ ho1
 have d0:W1.cell? ⟨w.heap.size,0,none⟩=some (cP B):=hp.at_
 have HI:=Lib.hid (show ∀W2,W2.heap=W1.heap→Oth B W1 W2→Calls Tryz.prog 173 #[cP B, .slice f.A9 f.n9 f.a9, .int .i64 1, .int .i64 6, .func (.func 174) #[] #[.pointer (some ⟨w.heap.size,0,none⟩)]] W2 (Did B f {m with se:=true} er (okLn l 1 6 okSe) w) from fun W2 hh hoo=>by
   have h2:Cel W2 B tC (ckA f {m with se:=true} er):=by unfold Cel;rw [hh];exact h1
   have hoo2:=(ho.trans ho1).trans hoo
   exact (each_se (.pointer (some ⟨w.heap.size,0,none⟩)) 1 6 h2 (hL.below hoo2.1) fun x hx W er2 cs g1 g2 g3=>set1_any g3 (hl x hx).1 (hf x hx) (hl x hx).2 g1 (hE.below (hoo2.trans g2).1) (PcAt.oth (PcAt.oth hp hoo) g2)).mono fun _ _ g=>did_pre hoo2 g)
 clear hL h hE hb hlB ho p0 h0 h1 ho1 hp  hf hl
 go_enter Tryz.func123,Tryz.ntmps123
 go_wp2
 go_region
 go_wp2
 have HD0:=Lib.hid (HI.out W1.drew rfl ⟨(Below.refl B W1).drew,fun _ _ _=>rfl⟩)
 go_region_with ((go_at_call 173;(with_reducible refine HD0.out.mono ?_);rintro e1 w1 ⟨rfl,HD1⟩))
 all_goals
   go_wp2
   go_end0
   exact ⟨rfl,HD1⟩
end
end Go.Proofs.YtiaomhdmllhmmaaGreatDoor.Sm
namespace Go.Proofs.YtiaomhdmllhmmaaGreatDoor.Sm
open Go.RowKit Mem Ep Right Lx Go.ChangeShapes Go.WideShapes
set_option linter.unusedVariables false
section
variable {w w' :World} {B:Nat} {f:Fl} {m:Mk} {er:Int} {P:Prop}
set_option maxRecDepth 100000 in
set_option maxHeartbeats 2000000 in
theorem rows_any {l:List (List Ex)} (lo hi vv:Nat) (hL:LsIn w B f.A7 f.n7 1 (l.map exsDt)) (hf:∀x∈l,∀e∈x,Fine e) (hl:∀x∈l,∀e∈x,Lim e) (h:Cel w B tC (ckA f m er)) (hE:CkE w B):Calls Tryz.prog 122 #[cP B, .int .i64 (lo:Int), .int .i64 (hi:Int), .int .i64 (vv:Int)] w (Did B f {m with rw_:=true} er (okLn l lo hi (fun x=>okLn x 1 vv Lo)) w):=by
 obtain ⟨W0,hW0⟩:∃W0,((w.alloc (.cells #[cP B] tPC)).alloc (.cells #[.int .i64 (vv:Int)] 3))=W0:=⟨_,rfl⟩
 have hb:Below w.heap.size w W0:=by rw [←hW0];exact al (al (Below.refl _ _) _) _
 have hlB:=h.lt
 have ho:Oth B w W0:=Oth.of hb (Nat.le_of_lt hlB)
 have p0:Cel W0 w.heap.size tPC #[cP B]:=by rw [←hW0];exact (Cel.new w _ _ rfl).alloc _
 have p1:Cel W0 (w.heap.size+1) 3 #[.int .i64 (vv:Int)]:=by rw [←hW0];exact Cel.new _ _ _ (by simp)
 have q0:W0.cell? ⟨w.heap.size,0,none⟩=some (cP B):=p0.at_ 0
 have h0:=h.below hb
 obtain ⟨W1,hW1⟩:∃W1,W0.drew.setCell ⟨B,28,none⟩ (.slice f.A7 f.n7 f.a7)=W1:=⟨_,rfl⟩
 have h1:Cel W1 B tC (ckA f {m with rw_:=true} er):=by rw [←hW1];exact Cel.set (show Cel W0.drew B tC (ckA f m er) from h0) 28 (.slice f.A7 f.n7 f.a7)
 have ho1:Oth B W0 W1:=by rw [←hW1];exact (show Oth B W0 W0.drew from ⟨(Below.refl B W0).drew,fun _ _ _=>rfl⟩).set 28 (.slice f.A7 f.n7 f.a7)
 have c7:W0.cell? ⟨B,7,none⟩=some (.slice f.A7 f.n7 f.a7):=h0.at_ 7
 have c28:W0.cell? ⟨B,28,none⟩=some (sel m.rw_ (.slice f.A7 f.n7 f.a7) zL):=h0.at_ 28
 have f28:=h0.open_ 28
 have d7:W1.cell? ⟨B,7,none⟩=some (.slice f.A7 f.n7 f.a7):=h1.at_ 7
 have hp:PcAt W1 B w.heap.size:=PcAt.oth ⟨by omega,p0⟩ ho1
 have d0:W1.cell? ⟨w.heap.size,0,none⟩=some (cP B):=hp.at_
 have hv:Cel W1 (w.heap.size+1) 3 #[.int .i64 (vv:Int)]:=Oth.cel ho1 (by omega) p1
 have HI:=Lib.hid (show ∀W2,W2.heap=W1.heap→Oth B W1 W2→Calls Tryz.prog 169 #[cP B, .slice f.A7 f.n7 f.a7, .int .i64 (lo:Int), .int .i64 (hi:Int), .func (.func 170) #[] #[.pointer (some ⟨w.heap.size,0,none⟩), .pointer (some ⟨(w.heap.size+1),0,none⟩)]] W2 (Did B f {m with rw_:=true} er (okLn l lo hi (fun x=>okLn x 1 vv Lo)) w) from fun W2 hh hoo=>by
   have h2:Cel W2 B tC (ckA f {m with rw_:=true} er):=by unfold Cel;rw [hh];exact h1
   have hoo2:=(ho.trans ho1).trans hoo
   exact (each_rw (.pointer (some ⟨w.heap.size,0,none⟩)) (.pointer (some ⟨w.heap.size+1,0,none⟩)) lo hi h2 (hL.below hoo2.1) fun x hx W er2 A n c g1 g2 g3=>row1_any vv g3 (hf x hx) (hl x hx) g1 (hE.below (hoo2.trans g2).1) (PcAt.oth (PcAt.oth hp hoo) g2) ((Oth.cel g2 (by omega) (Oth.cel hoo (by omega) hv)).at_ 0)).mono fun _ _ g=>did_pre hoo2 g)
 clear hL h hE hb hlB ho p0 h0 h1 ho1 hp p1 hv hf hl
 go_enter Tryz.func122,Tryz.ntmps122
 go_wp2
 go_region
 go_wp2
 have HD0:=Lib.hid (HI.out W1.drew rfl ⟨(Below.refl B W1).drew,fun _ _ _=>rfl⟩)
 go_region_with ((go_at_call 169;(with_reducible refine HD0.out.mono ?_);rintro e1 w1 ⟨rfl,HD1⟩))
 all_goals
   go_wp2
   go_end0
   exact ⟨rfl,HD1⟩
end
end Go.Proofs.YtiaomhdmllhmmaaGreatDoor.Sm
namespace Go.Proofs.YtiaomhdmllhmmaaGreatDoor.Sm
open Go.RowKit Mem Ep Right Lx Go.ChangeShapes Go.WideShapes
set_option linter.unusedVariables false
def CkPost (x:St) (w:World) (e:Ending) (w' :World):Prop:=∃q:Int,e= .returned (.int .i64 q)∧(q=0↔OkS x)∧Below w.heap.size w w'
def CheckC (x:St):Prop:=∀(cs:List Value) (w:World),DtIn w (fun b=>b<w.heap.size) (stDt x) cs→Signs w→fSt x→SLim x→Calls Tryz.prog 20 #[.agg cs.toArray] w (CkPost x w)
theorem st_kind {w:World} {S:Nat→Prop} {x:St} {cs:List Value} (h:DtIn w S (stDt x) cs):cs[0]?=some (.int .i64 (kindS x)):=by
 obtain ⟨k,t,n,r,cols,cons,names,rows,wh,sets,order,limit,priv,opt,kids⟩:=x
 obtain ⟨u4,u5,u6,u7,e,u9,u10,u14,rfl,_⟩:=st_in.1 h
 rfl
section
variable {w w' :World} {B:Nat} {f:Fl} {m:Mk} {er:Int} {P:Prop}
set_option maxRecDepth 100000 in
set_option maxHeartbeats 2000000 in
theorem kid1_any {x:St} {cs:List Value} {g1:Nat} (hx:DtIn w (fun b=>b<B) (stDt x) cs) (hck:CheckC x) (hf:fSt x) (hl:SLim x) (h:Cel w B tC (ckA f m er)) (hE:CkE w B) (hg1:PcAt w B g1):Calls Tryz.prog 178 #[.agg cs.toArray, .pointer (some ⟨g1,0,none⟩)] w (Did B f m er (okKid x) w):=by
 obtain ⟨hlen,hone⟩:=st_one hx
 have hk0:=st_kind hx
 obtain ⟨k,hk⟩:∃k,kindS x=k:=⟨_,rfl⟩
 rw [hk] at hk0
 obtain ⟨W1,hW1⟩:∃W1,w.alloc (.cells cs.toArray tSt)=W1:=⟨_,rfl⟩
 have hb:Below w.heap.size w W1:=by rw [←hW1];exact al (Below.refl _ _) _
 have hlB:=h.lt
 have ho:Oth B w W1:=Oth.of hb (Nat.le_of_lt hlB)
 have xw:Cel W1 w.heap.size tSt cs.toArray:=by rw [←hW1];exact Cel.new _ _ _ rfl
 have hp1:=hg1.oth ho
 have c1:=hp1.at_
 have c0:W1.cell? ⟨w.heap.size,0,none⟩=some (.int .i64 k):=(xw.at_ 0).trans (by simpa using hk0)
 have HMF:=Lib.hid (show ¬(16≤k∧k≤19)→Calls Tryz.prog 37 #[cP B, .bool false] W1 (Did B f m er (okKid x) w) from fun g=>(must_any false (h.below hb)).mono fun _ _ d=>(did_pre ho d).iff ⟨fun y=>(by cases y),fun y=>absurd ⟨hk▸y.1,hk▸y.2.1⟩ g⟩)
 have HD0:=Lib.hid (show Calls Tryz.prog 20 #[.agg cs.toArray] W1.drew (CkPost x W1.drew) from hck cs W1.drew (DtIn.to (w:=W1) (w' :=W1.drew) (S:=fun b=>b<B) (S' :=fun b=>b<W1.heap.size) (fun b g=>Nat.lt_trans g (Nat.lt_of_lt_of_le hlB hb.size)) (fun p hp=>rfl) _ _ (hx.below ho.1)) (show Signs W1 from hE.1.below ho.1 hE.2) hf hl)
 have HN:=Lib.hid (show 16≤k∧k≤19→∀W2 q,Below W1.heap.size W1.drew W2→(q=0↔OkS x)→Calls Tryz.prog 60 #[cP B, .int .i64 q] W2 (fun e w' =>Did B f m er (okKid x) w e w' ∧(w'.cell? ⟨g1,0,none⟩=some (cP B)∧w'.rangeAt w.heap.size 0 cs)) from fun g W2 q hw hq=>by
   have hw' :Below W1.heap.size W1 W2:=((Below.refl W1.heap.size W1).drew).trans hw
   have ho2:Oth B W1 W2:=Oth.of hw' (Nat.le_trans (Nat.le_of_lt hlB) hb.size)
   refine (note_any q ((h.below hb).below hw')).mono fun _ _ d=>⟨?_,?_⟩
   rotate_left
   · obtain ⟨-,er', -,d3, -⟩:=d
     exact ⟨(hp1.oth (ho2.trans d3)).at_,at_cel (Oth.cel (ho2.trans d3) (by omega) xw)⟩
   exact (did_pre (ho.trans (Oth.of hw' (Nat.le_trans (Nat.le_of_lt hlB) hb.size))) d).iff (by rw [hq];exact ⟨fun y=>⟨hk.symm▸g.1,hk.symm▸g.2,y⟩,fun y=>y.2.2⟩))
 have HX:=Lib.hid (show ∀W2,Below W1.heap.size W1.drew W2→W2.cell? ⟨g1,0,none⟩=some (cP B)∧W2.rangeAt w.heap.size 0 cs from fun W2 hw=>by
   have hw' :Below W1.heap.size W1 W2:=((Below.refl W1.heap.size W1).drew).trans hw
   exact ⟨(hp1.oth (Oth.of hw' (Nat.le_trans (Nat.le_of_lt hlB) hb.size))).at_,at_cel (xw.below hw')⟩)
 have kr:W1.rangeAt w.heap.size 0 cs:=at_cel xw
 have HLEN:=Lib.hid hlen
 have HONE:=Lib.hid hone
 clear hx hck hf hl h hE hg1 hlen hone hk0 hk hb hlB ho xw hp1
 by_cases a1:k<16
 · have t1:decide (k<16)=true:=decide_eq_true a1
   have HI:=Lib.hid (HMF.out (by omega))
   clear kr
   go_enter Tryz.func178,Tryz.ntmps178
   go_wp2_with (go_at_call 37;(with_reducible refine HI.out.mono ?_);rintro e1 w1 ⟨rfl,HD1⟩)
   go_end0
   exact ⟨rfl,HD1⟩
 have t1:decide (k<16)=false:=decide_eq_false a1
 by_cases a2:19<k
 · have t2:decide (19<k)=true:=decide_eq_true a2
   have HI:=Lib.hid (HMF.out (by omega))
   clear kr
   go_enter Tryz.func178,Tryz.ntmps178
   go_wp2_with (go_at_call 37;(with_reducible refine HI.out.mono ?_);rintro e1 w1 ⟨rfl,HD1⟩)
   go_end0
   exact ⟨rfl,HD1⟩
 have t2:decide (19<k)=false:=decide_eq_false a2
 have HN2:=Lib.hid (HN.out ⟨by omega,by omega⟩)
 clear HN HMF
 go_enter Tryz.func178,Tryz.ntmps178
 go_wp2
 refine wp_region_noPanic ?_
 refine wp_region_held_drew (S:=(fun w' =>w'.cell? ⟨g1,0,none⟩=some (cP B)∧w'.rangeAt w.heap.size 0 cs)) (by kernel_rfl) ?_ (fun hHeld=>?_)
 · exact ⟨c1,kr⟩
 refine wpAnyH_take (i:=0) (v:=?_) rfl (by kernel_rfl) (by kernel_rfl) (by kernel_rfl) (fun _ _ _ h=>h) (Or.inl ⟨by rfl,?_⟩) (by assumption) ?_
 rotate_left
 · intro w' hSw;(try dsimp only at hSw);(try simp only [List.getElem_toArray,List.getElem_cons_zero]);go_simp;(try with_reducible rfl)
 (try simp only [List.getElem_toArray,List.getElem_cons_zero,Act.put,List.setIfInBounds_toArray,List.set_cons_zero,List.set_cons_succ])
 refine wpAnyH_take (i:=1) (v:= .agg cs.toArray) rfl (by kernel_rfl) (by kernel_rfl) (by kernel_rfl) (fun _ _ _ h=>h) (yieldsIf_load_mid (by rfl) tSt _ rfl w.heap.size 0 rfl cs _ (fun _ h=>h.2) Tryz.underlying35 rfl (by rw [HLEN.out];exact stmt_size)) (by assumption) ?_
 (try simp only [List.getElem_toArray,List.getElem_cons_succ,List.getElem_cons_zero,Act.put,List.setIfInBounds_toArray,List.set_cons_zero,List.set_cons_succ])
 refine wpAnyH_ready (rs:= [2]) (by kernel_rfl) (by simp) ?_
 refine AllReadyH.cons rfl (fun K hK=>?_) AllReadyH.nil
 go_simp
 (go_at_call 20;(with_reducible refine HD0.out.mono ?_);rintro e1 w2 ⟨q,rfl,hq,hb⟩;have HS2:=Lib.hid (HX.out w2 hb);have HQ:=Lib.hid (HN2.out w2 q hb hq);clear hb hq)
 (try go_wp2_with fail)
 refine hK.out _ _ ?_ (fun hHeld=>?_)
 · exact HS2.out
 clear hK K
 (try simp only [List.getElem_toArray,List.getElem_cons_succ,List.getElem_cons_zero,Act.put,List.setIfInBounds_toArray,List.set_cons_zero,List.set_cons_succ])
 refine wpAnyH_ready (rs:= [3]) (by kernel_rfl) (by simp) ?_
 refine AllReadyH.cons rfl (fun K hK=>?_) AllReadyH.nil
 go_simp
 (go_at_call 60;(with_reducible refine HQ.out.mono ?_);rintro e1 w3 ⟨⟨rfl,HD1⟩,HS3⟩)
 (try go_wp2_with fail)
 refine hK.out _ _ ?_ (fun hHeld=>?_)
 · exact HS3
 clear hK K
 (try simp only [List.getElem_toArray,List.getElem_cons_succ,List.getElem_cons_zero,Act.put,List.setIfInBounds_toArray,List.set_cons_zero,List.set_cons_succ])
 refine wpAnyH_done (by kernel_rfl) ?_ _
 refine NoPanic.normal ?_
 go_wp2
 go_end0
 exact ⟨rfl,HD1⟩
end
end Go.Proofs.YtiaomhdmllhmmaaGreatDoor.Sm
