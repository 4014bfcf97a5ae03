/- A checker's calls for lists whose items it asks by a closure: statements. What a checker asks of lists of columns and of constraints. The copy of a statement that has some fields alone reads as that statement; a checker's ce A writer in memory: a text grown piece by piece, and whether an expression was too long; w What a writer's calls leave; its text at the end; an expression written; what it wants of  An expression is written; the text of a list, item by item. -/
import Derived.Test.YtiaomhdmllhmmaaGreatDoorK23
import Derived.Test.YtiaomhdmllhmmaaGreatDoorK21
import Derived.Test.YtiaomhdmllhmmaaGreatDoorK22
import Derived.Test.YtiaomhdmllhmmaaGreatDoorK11
import Derived.Test.YtiaomhdmllhmmaaGreatDoorK09
import Derived.Test.YtiaomhdmllhmmaaGreatDoorK07
import Derived.Shelf.Strconv.Itoa3
import Derived.Test.YtiaomhdmllhmmaaGreatDoorK08
import Derived.Test.YtiaomhdmllhmmaaGreatDoorK01
namespace Go.Proofs.YtiaomhdmllhmmaaGreatDoor.Sm
open Go.RowKit Mem Ep Right Lx Go.ChangeShapes Go.WideShapes
set_option linter.unusedVariables false
section
variable {w w' :World} {B:Nat} {f:Fl} {m:Mk} {er:Int} {P:Prop}
set_option maxRecDepth 100000 in
set_option maxHeartbeats 2000000 in
theorem kid_any {l:List (St)}  (hL:LsIn w B f.A14 f.n14 21 (l.map stDt)) (hck:∀x∈l,CheckC x) (hf:∀x∈l,fSt x) (hl:∀x∈l,SLim x) (h:Cel w B tC (ckA f m er)) (hE:CkE w B):Calls Tryz.prog 127 #[cP B] w (Did B f {m with kd:=true} er (okLn l 1 1 okKid) w):=by
 obtain ⟨W0,hW0⟩:∃W0,(w.alloc (.cells #[cP B] tPC))=W0:=⟨_,rfl⟩
 have hb:Below w.heap.size w W0:=by rw [←hW0];exact al (Below.refl _ _) _
 have hlB:=h.lt
 have ho:Oth B w W0:=Oth.of hb (Nat.le_of_lt hlB)
 have p0:Cel W0 w.heap.size tPC #[cP B]:=by rw [←hW0];exact Cel.new w _ _ rfl
 have q0:W0.cell? ⟨w.heap.size,0,none⟩=some (cP B):=p0.at_ 0
 have h0:=h.below hb
 obtain ⟨W1,hW1⟩:∃W1,W0.drew.setCell ⟨B,41,none⟩ (.slice f.A14 f.n14 f.a14)=W1:=⟨_,rfl⟩
 have h1:Cel W1 B tC (ckA f {m with kd:=true} er):=by rw [←hW1];exact Cel.set (show Cel W0.drew B tC (ckA f m er) from h0) 41 (.slice f.A14 f.n14 f.a14)
 have ho1:Oth B W0 W1:=by rw [←hW1];exact (show Oth B W0 W0.drew from ⟨(Below.refl B W0).drew,fun _ _ _=>rfl⟩).set 41 (.slice f.A14 f.n14 f.a14)
 have c20:W0.cell? ⟨B,20,none⟩=some (.slice f.A14 f.n14 f.a14):=h0.at_ 20
 have c41:W0.cell? ⟨B,41,none⟩=some (sel m.kd (.slice f.A14 f.n14 f.a14) zL):=h0.at_ 41
 have f41:=h0.open_ 41
 have d20:W1.cell? ⟨B,20,none⟩=some (.slice f.A14 f.n14 f.a14):=h1.at_ 20
 have hp:PcAt W1 B w.heap.size:=PcAt.oth ⟨by omega,p0⟩ ho1
 have d0:W1.cell? ⟨w.heap.size,0,none⟩=some (cP B):=hp.at_
 have HI:=Lib.hid (show ∀W2,W2.heap=W1.heap→Oth B W1 W2→Calls Tryz.prog 177 #[cP B, .slice f.A14 f.n14 f.a14, .int .i64 1, .int .i64 1, .func (.func 178) #[] #[.pointer (some ⟨w.heap.size,0,none⟩)]] W2 (Did B f {m with kd:=true} er (okLn l 1 1 okKid) w) from fun W2 hh hoo=>by
   have h2:Cel W2 B tC (ckA f {m with kd:=true} er):=by unfold Cel;rw [hh];exact h1
   have hoo2:=(ho.trans ho1).trans hoo
   exact (each_st (.pointer (some ⟨w.heap.size,0,none⟩)) 1 1 h2 (hL.below hoo2.1) fun x hx W er2 cs g1 g2 g3=>kid1_any g3 (hck x hx) (hf x hx) (hl x hx) g1 (hE.below (hoo2.trans g2).1) (PcAt.oth (PcAt.oth hp hoo) g2)).mono fun _ _ g=>did_pre hoo2 g)
 clear hL h hE hb hlB ho p0 h0 h1 ho1 hp  hck hf hl
 go_enter Tryz.func127,Tryz.ntmps127
 go_wp2
 go_region
 go_wp2
 have HD0:=Lib.hid (HI.out W1.drew rfl ⟨(Below.refl B W1).drew,fun _ _ _=>rfl⟩)
 go_region_with ((go_at_call 177;(with_reducible refine HD0.out.mono ?_);rintro e1 w1 ⟨rfl,HD1⟩))
 all_goals
   go_wp2
   go_end0
   exact ⟨rfl,HD1⟩
end
end Go.Proofs.YtiaomhdmllhmmaaGreatDoor.Sm
namespace Go.Proofs.YtiaomhdmllhmmaaGreatDoor.Sm
open Go.RowKit Mem Ep Right Lx Go.ChangeShapes Go.WideShapes
set_option linter.unusedVariables false
section
variable {w w' :World} {B:Nat} {f:Fl} {m:Mk} {er:Int} {P:Prop}
theorem constraint_any {x:Cn} {cs:List Value} (hx:DtIn w (fun b=>b<B) (cnDt x) cs) (hf:Fine x.chk) (hl:cnLim x) (h:Cel w B tC (ckA f m er)) (hE:CkE w B):Calls Tryz.prog 167 #[cP B, .agg cs.toArray] w (Did B f m er (OkCn x) w):=by
 obtain ⟨nm,kd,cols,chk,tbl,refs⟩:=x
 obtain ⟨u1,e,u2,rfl,g1,g2,g3⟩:=cn_in.1 hx
 obtain ⟨P,pn,pc,rfl⟩:=row_form g1
 obtain ⟨Q,qn,qc,rfl⟩:=row_form g3
 obtain ⟨ek,eo,vk,vn,vs,ns,A,n,c,rfl⟩:=ex_form g2
 by_cases k1:kd=1
 · subst k1;exact constraint_1 nm cols chk tbl refs g1 g2 g3 hf hl h hE
 by_cases k2:kd=2
 · subst k2;exact constraint_2 nm cols chk tbl refs g1 g2 g3 hf hl h hE
 by_cases k3:kd=3
 · subst k3;exact constraint_3 nm cols chk tbl refs g1 g2 g3 hf hl h hE
 exact constraint_no kd nm cols chk tbl refs g1 g2 g3 hf hl h hE k1 k2 k3
set_option maxRecDepth 100000 in
theorem cols_any {l:List Co} (most:Nat) (h:Cel w B tC (ckA f m er)) (hE:CkE w B) (hL:LsIn w B f.A4 f.n4 3 (l.map coDt)) (hI:∀x∈l,tLim x.nm):Calls Tryz.prog 116 #[cP B, .int .i64 (most:Int)] w (Did B f {m with co:=true} er (okLn l 1 most okCo) w):=by
 obtain ⟨W1,hW1⟩:∃W1,w.setCell ⟨B,25,none⟩ (.slice f.A4 f.n4 f.a4)=W1:=⟨_,rfl⟩
 have h1:Cel W1 B tC (ckA f {m with co:=true} er):=by rw [←hW1];exact Cel.set h 25 (.slice f.A4 f.n4 f.a4)
 have ho:Oth B w W1:=by rw [←hW1];exact (Oth.refl B w).set 25 (.slice f.A4 f.n4 f.a4)
 have c4:w.cell? ⟨B,4,none⟩=some (.slice f.A4 f.n4 f.a4):=h.at_ 4
 have c25:w.cell? ⟨B,25,none⟩=some (sel m.co (.slice f.A4 f.n4 f.a4) zL):=h.at_ 25
 have f25:=h.open_ 25
 have d4:W1.cell? ⟨B,4,none⟩=some (.slice f.A4 f.n4 f.a4):=h1.at_ 4
 have HI:=Lib.hid (show Calls Tryz.prog 164 #[cP B, .slice f.A4 f.n4 f.a4, .int .i64 1, .int .i64 (most:Int), .func (.func 165) #[cP B] #[]] W1 (Did B f {m with co:=true} er (okLn l 1 most okCo) w) from (each_co 1 most h1 (hL.below ho.1) fun x hx W er2 cs g1 g2 g3=>column_any g3 (hI x hx) g1 (hE.below (ho.trans g2).1)).mono fun _ _ g=>did_pre ho g)
 clear h h1 ho hE hL hI
 go_enter Tryz.func116,Tryz.ntmps116
 go_wp2_with (go_at_call 164;(with_reducible refine HI.out.mono ?_);rintro e1 w1 ⟨rfl,HD1⟩)
 go_end0
 exact ⟨rfl,HD1⟩
set_option maxRecDepth 100000 in
theorem cons_any {l:List Cn} (lo hi:Nat) (h:Cel w B tC (ckA f m er)) (hE:CkE w B) (hL:LsIn w B f.A5 f.n5 12 (l.map cnDt)) (hI:∀x∈l,Fine x.chk∧cnLim x):Calls Tryz.prog 117 #[cP B, .int .i64 (lo:Int), .int .i64 (hi:Int)] w (Did B f {m with cn:=true} er (okLn l lo hi OkCn) w):=by
 obtain ⟨W1,hW1⟩:∃W1,w.setCell ⟨B,26,none⟩ (.slice f.A5 f.n5 f.a5)=W1:=⟨_,rfl⟩
 have h1:Cel W1 B tC (ckA f {m with cn:=true} er):=by rw [←hW1];exact Cel.set h 26 (.slice f.A5 f.n5 f.a5)
 have ho:Oth B w W1:=by rw [←hW1];exact (Oth.refl B w).set 26 (.slice f.A5 f.n5 f.a5)
 have c5:w.cell? ⟨B,5,none⟩=some (.slice f.A5 f.n5 f.a5):=h.at_ 5
 have c26:w.cell? ⟨B,26,none⟩=some (sel m.cn (.slice f.A5 f.n5 f.a5) zL):=h.at_ 26
 have f26:=h.open_ 26
 have d5:W1.cell? ⟨B,5,none⟩=some (.slice f.A5 f.n5 f.a5):=h1.at_ 5
 have HI:=Lib.hid (show Calls Tryz.prog 166 #[cP B, .slice f.A5 f.n5 f.a5, .int .i64 (lo:Int), .int .i64 (hi:Int), .func (.func 167) #[cP B] #[]] W1 (Did B f {m with cn:=true} er (okLn l lo hi OkCn) w) from (each_cn lo hi h1 (hL.below ho.1) fun x hx W er2 cs g1 g2 g3=>constraint_any g3 (hI x hx).1 (hI x hx).2 g1 (hE.below (ho.trans g2).1)).mono fun _ _ g=>did_pre ho g)
 clear h h1 ho hE hL hI
 go_enter Tryz.func117,Tryz.ntmps117
 go_wp2_with (go_at_call 166;(with_reducible refine HI.out.mono ?_);rintro e1 w1 ⟨rfl,HD1⟩)
 go_end0
 exact ⟨rfl,HD1⟩
structure CkX (w:World) (B:Nat) (f:Fl) (k:Int) (t n r:Bs) (cols:List Co) (cons:List Cn) (names:List Bs) (rows:List (List Ex)) (wh:Ex) (sets:List (Bs × Ex)) (order:List (Ex × Bool)) (limit priv:Int) (opt:Bool) (kids:List St):Prop where
 env:CkE w B
 all:FlIn w B f (.mk k t n r cols cons names rows wh sets order limit priv opt kids)
 fine:fSt (.mk k t n r cols cons names rows wh sets order limit priv opt kids)
 lim:SLim (.mk k t n r cols cons names rows wh sets order limit priv opt kids)
 kids:∀x∈kids,CheckC x
theorem CkX.to {k:Int} {t n r:Bs} {cols:List Co} {cons:List Cn} {names:List Bs} {rows:List (List Ex)} {wh:Ex} {sets:List (Bs × Ex)} {order:List (Ex × Bool)} {limit priv:Int} {opt:Bool} {kids:List St}
   (h:CkX w B f k t n r cols cons names rows wh sets order limit priv opt kids) (ho:Oth B w w'):CkX w' B f k t n r cols cons names rows wh sets order limit priv opt kids:=
 ⟨h.env.below ho.1,h.all.below ho.1,h.fine,h.lim,h.kids⟩
end
end Go.Proofs.YtiaomhdmllhmmaaGreatDoor.Sm
namespace Go.Proofs.YtiaomhdmllhmmaaGreatDoor.Sm
open Go.RowKit Mem Ep Right Lx Go.ChangeShapes Go.WideShapes
set_option linter.unusedVariables false
section
variable {w:World} {S:Nat→Prop}
theorem sel_s (b:Bool) (l:Bs):sel b (.string (txt l)) zS= .string (txt (if b=true then l else [])):=by cases b<;>rfl
theorem sel_i (b:Bool) (n:Int):sel b (.int .i64 n) zI= .int .i64 (if b=true then n else 0):=by cases b<;>rfl
theorem sel_b (b c:Bool):sel b (.bool c) (.bool false)= .bool (if b=true then c else false):=by cases b<;>rfl
theorem sel_row {α:Type} {d:α→Dt} {k:Nat} {l:List α} {v:Value} (b:Bool) (h:IsRow w S k (l.map d) v):IsRow w S k ((if b=true then l else []).map d) (sel b v zL):=by
 cases b with
 |true=>exact h
 |false=>exact ⟨none,0,rfl,Nat.le_refl _,by decide,fun _=>rfl,row_nil⟩
theorem fl_of {x:St} {cs:List Value} (h:DtIn w S (stDt x) cs):∃f:Fl,cs=f.cells:=by
 obtain ⟨k,t,n,r,cols,cons,names,rows,wh,sets,order,limit,priv,opt,kids⟩:=x
 obtain ⟨u4,u5,u6,u7,e,u9,u10,u14,rfl,g4,g5,g6,g7,g8,g9,g10,g14⟩:=st_in.1 h
 obtain ⟨A4,n4,a4,rfl⟩:=row_form g4
 obtain ⟨A5,n5,a5,rfl⟩:=row_form g5
 obtain ⟨A6,n6,a6,rfl⟩:=row_form g6
 obtain ⟨A7,n7,a7,rfl⟩:=row_form g7
 obtain ⟨A9,n9,a9,rfl⟩:=row_form g9
 obtain ⟨A10,n10,a10,rfl⟩:=row_form g10
 obtain ⟨A14,n14,a14,rfl⟩:=row_form g14
 obtain ⟨ek,eo,vk,vn,vs,ns,A8,n8,a8,rfl⟩:=ex_form g8
 exact ⟨⟨k,t,n,r,A4,n4,a4,A5,n5,a5,A6,n6,a6,A7,n7,a7,ek,eo,vk,vn,vs,ns,A8,n8,a8,A9,n9,a9,A10,n10,a10,limit,priv,opt,A14,n14,a14⟩,rfl⟩
theorem keep_in {f:Fl} {x:St} (m:Mk) (h:DtIn w S (stDt x) f.cells):DtIn w S (stDt (keep m x)) (f.kept m):=by
 obtain ⟨k,t,n,r,cols,cons,names,rows,wh,sets,order,limit,priv,opt,kids⟩:=x
 obtain ⟨u4,u5,u6,u7,e,u9,u10,u14,hc,g4,g5,g6,g7,g8,g9,g10,g14⟩:=st_in.1 h
 obtain ⟨b0,b1,b2,b3,b4,b5,b6,b7,b8,rfl⟩:=ex_form g8
 unfold Fl.cells at hc
 simp only [List.cons_append,List.nil_append,List.cons.injEq,Value.int.injEq,Value.string.injEq,Value.slice.injEq,Value.bool.injEq,true_and,and_true] at hc
 obtain ⟨e0,e1,e2,e3,e4,e5,e6,e7,e8,e9,e10,e11,e12,e13,⟨e14,e15,e16⟩,e17,e18,e19,e20,e21,e22⟩:=hc
 subst e4 e5 e6 e7 e8 e9 e10 e11 e12 e13 e14 e15 e16 e17 e18 e22
 have e1:=txt_inj e1
 have e2:=txt_inj e2
 have e3:=txt_inj e3
 unfold keep
 refine st_in.2 ⟨sel m.co (.slice f.A4 f.n4 f.a4) zL,sel m.cn (.slice f.A5 f.n5 f.a5) zL,sel m.ns (.slice f.A6 f.n6 f.a6) zL,sel m.rw_ (.slice f.A7 f.n7 f.a7) zL, [sel m.wh (.int .i64 f.ek) zI,sel m.wh (.int .i64 f.eo) zI,sel m.wh (.int .i64 f.vk) zI,sel m.wh (.int .i64 f.vn) zI,sel m.wh (.string f.vs) zS,sel m.wh (.string f.ns) zS,sel m.wh (.slice f.A8 f.n8 f.a8) zL],sel m.se (.slice f.A9 f.n9 f.a9) zL,sel m.od (.slice f.A10 f.n10 f.a10) zL,sel m.kd (.slice f.A14 f.n14 f.a14) zL,?_,sel_row _ g4,sel_row _ g5,sel_row _ g6,sel_row _ g7,?_,sel_row _ g9,sel_row _ g10,sel_row _ g14⟩
 · unfold Fl.kept
   rw [sel_s,sel_s,sel_s,sel_i m.li,sel_i m.pr,sel_b,e0,e1,e2,e3,e19,e20,e21]
   rfl
 · cases m.wh with
   |true=>exact g8
   |false=>exact noEx_in
end
theorem ckA_list (f:Fl) (m:Mk) (er:Int):ckA f m er=(f.cells++(f.kept m++ [Value.int .i64 er])).toArray:=rfl
section
variable {w:World} {B:Nat} {f:Fl} {m:Mk} {er:Int}
theorem ck_from (h:Cel w B tC (ckA f m er)):At w B 0 f.cells:=fun i v hv=>by
 have hi:i<f.cells.length:=(List.getElem?_eq_some_iff.1 hv).1
 rw [ckA_list] at h
 rw [Nat.zero_add,h.at_ i,List.getElem?_toArray,List.getElem?_append_left hi,hv]
theorem ck_kept (h:Cel w B tC (ckA f m er)):At w B 21 (f.kept m):=fun i v hv=>by
 have hi:i<(f.kept m).length:=(List.getElem?_eq_some_iff.1 hv).1
 rw [ckA_list] at h
 have hl:f.cells.length=21:=rfl
 rw [h.at_ (21+i),List.getElem?_toArray,List.getElem?_append_right (by rw [hl];omega),hl,show 21+i - 21=i by omega,List.getElem?_append_left hi,hv]
end
theorem checker_size:(Tryz.prog.info? tC).map (·.size)=some 43:=by kernel_rfl
end Go.Proofs.YtiaomhdmllhmmaaGreatDoor.Sm
namespace Go.Proofs.YtiaomhdmllhmmaaGreatDoor.Sm
open Go.RowKit Mem Ep Right Lx
set_option linter.unusedVariables false
abbrev tW:TypeId:=72
def Ww (b:Nat) (l:List UInt8) (lg:Bool) (w:World):Prop:=
 ∃p v,(p= .pointer none ∨ p= .pointer (some ⟨b,0,none⟩))∧w.heap[b]?=some (.cells #[p,v, .bool lg] tW (0,0))∧w.ownsRowF b t8 1 v l.length (Lib.byteCells l)
section
variable {w w' :World} {b:Nat} {l:List UInt8} {lg:Bool}
theorem Ww.lt (h:Ww b l lg w):b<w.heap.size:=by
 obtain ⟨p,v,_,h2,_⟩:=h
 exact blk_lt h2
theorem Ww.mark (h:Ww b l lg w):w.cell? ⟨b,2,none⟩=some (.bool lg):=by
 obtain ⟨p,v,_,h2,_⟩:=h
 rw [Lib.cell_of_heap h2];rfl
theorem Ww.open_ (h:Ww b l lg w):w.frozen? ⟨b,2,none⟩=false:=by
 obtain ⟨p,v,_,h2,_⟩:=h
 exact Lib.frozen_of_heap h2 2
theorem Ww.below (h:Ww b l lg w) (hb:Below w.heap.size w w'):Ww b l lg w' :=by
 obtain ⟨p,v,h1,h2,h3⟩:=h
 refine ⟨p,v,h1,(hb.block b (blk_lt h2)).trans h2,h3.1,?_⟩
 rcases h3.2 with h5|⟨g,cap,cur,fz,hv,hg1,hg2,rest⟩
 · exact .inl h5
 · exact .inr ⟨g,cap,cur,fz,hv,hg1,(hb.block g (blk_lt hg2)).trans hg2,rest⟩
theorem Ww.drew (h:Ww b l lg w):Ww b l lg w.drew:=h
theorem Ww.set (h:Ww b l lg w) (m:Bool):Ww b l m (w.setCell ⟨b,2,none⟩ (.bool m)):=by
 obtain ⟨p,v,h1,h2,h3⟩:=h
 have hne:=Lib.ownBlock_neF h3 h2 (by decide)
 refine ⟨p,v,h1,?_,h3.kept (row:=some b) ⟨rfl,rfl,rfl,by simp [World.setCell],fun k _ hk=>Below.heap_setCell _ _ _ _ (fun e=>hk (by simp [e]))⟩ (Or.inr hne)⟩
 simp [World.setCell,Array.getElem?_modify,h2]
theorem Ww.wr (h:Ww b l lg w) (m:Bool):Wr b w (w.setCell ⟨b,2,none⟩ (.bool m)):=
 ⟨(Below.refl b w).setCell (p:=⟨b,2,none⟩) (Nat.le_refl _) _,(Lib.OthersKept.refl _ _ w).setCell ⟨b,2,none⟩ rfl _⟩
set_option maxRecDepth 100000 in
theorem wcopy_fresh (h0:w.cell? ⟨b,0,none⟩=some (.pointer none)) (hsh:w.shape? b=some (tW,3)) (hfz:w.frozen? ⟨b,0,none⟩=false):
   Calls Tryz.prog 179 #[.pointer (some ⟨b,0,none⟩)] w fun e w' =>e= .returned (.tuple #[])∧w' =w.setCell ⟨b,0,none⟩ (.pointer (some ⟨b,0,none⟩)):=by
 obtain ⟨j,hj,hjs⟩:=Option.map_eq_some_iff.1 (show (Tryz.prog.info? 70).map (·.size)=some 2 by kernel_rfl)
 go_enter Tryz.func179,Tryz.ntmps179
 go_wp2
 rw [Lib.run_to_unsafe w ⟨b,0,none⟩ Tryz.underlying67 Tryz.underlying168 hj (by rw [hjs];decide) hsh (Nat.zero_lt_succ 2)]
 simp only [Result.andThen]
 rw [Oper.upon_value]
 go_wp2
 rw [run_callFunc_extern Tryz.func193 (by kernel_rfl) (by kernel_rfl) (by kernel_rfl) (e:=Extern.AbiNoEscape.same) (by kernel_rfl)]
 rw [Lib.run_noEscape]
 simp only [Result.andThen]
 rw [Oper.upon_value]
 go_wp2
 rw [Lib.run_from_unsafe w ⟨b,0,none⟩ Tryz.underlying168 Tryz.underlying67 hj hsh (by kernel_rfl)]
 simp only [Result.andThen]
 rw [Oper.upon_value]
 go_wp2
 go_end0
 exact ⟨rfl,rfl⟩
def Used (b:Nat) (l:List UInt8) (lg:Bool) (w:World):Prop:=∃v,w.heap[b]?=some (.cells #[.pointer (some ⟨b,0,none⟩),v, .bool lg] tW (0,0))∧w.ownsRowF b t8 1 v l.length (Lib.byteCells l)
theorem wcopy_any (h:Ww b l lg w):
   Calls Tryz.prog 179 #[.pointer (some ⟨b,0,none⟩)] w fun e w' =>e= .returned (.tuple #[])∧Used b l lg w' ∧Wr b w w' :=by
 obtain ⟨p,v,h1,h2,h3⟩:=h
 have hne:=Lib.ownBlock_neF h3 h2 (by decide)
 rcases h1 with rfl|rfl
 · refine (wcopy_fresh (b:=b) (w:=w) (by rw [Lib.cell_of_heap h2];rfl) (by simp [World.shape?,h2]) (Lib.frozen_of_heap h2 0)).mono ?_
   rintro e w' ⟨rfl,rfl⟩
   refine ⟨rfl,⟨v,?_,h3.kept (row:=some b) ⟨rfl,rfl,rfl,by simp [World.setCell],fun k _ hk=>Below.heap_setCell _ _ _ _ (fun e=>hk (by simp [e]))⟩ (Or.inr hne)⟩,(Below.refl b w).setCell (p:=⟨b,0,none⟩) (Nat.le_refl _) _,(Lib.OthersKept.refl _ _ w).setCell ⟨b,0,none⟩ rfl _⟩
   simp [World.setCell,Array.getElem?_modify,h2]
 · refine (copy_used b w (by rw [Lib.cell_of_heap h2];rfl)).mono ?_
   rintro e w' ⟨rfl,rfl⟩
   exact ⟨rfl,⟨v,h2,h3⟩,Wr.refl _ _⟩
set_option maxHeartbeats 2000000 in
set_option maxRecDepth 100000 in
theorem wwrite_any (s:ByteArray) (h:Ww b l lg w) (hlen:l.length+s.size≤1000000000):
   Calls Tryz.prog 129 #[.pointer (some ⟨b,0,none⟩), .string s] w fun e w' =>e= .returned (.tuple #[.int .i64 s.size, .nilIface])∧Ww b (l++s.data.toList) lg w' ∧Wr b w w' :=by
 obtain ⟨i0,hi,hz0,hz1,hz2⟩:=info_parts (show (Tryz.prog.info? 5).map (fun i=>(i.zero,i.size,i.bytes))=some (some (.int .u8 0),1,1) by kernel_rfl)
 have hbw:=Nat.le_of_lt h.lt
 go_enter Tryz.func129,Tryz.ntmps129
 go_wp2_with (go_at_call 179;refine (wcopy_any h).mono ?_)
 rintro e w1 ⟨rfl,⟨v,hbk,hown⟩,hb1,hk1⟩
 have hne:=Lib.ownBlock_neF hown hbk (by decide)
 have c0:w1.cell? ⟨b,0,none⟩=some (.pointer (some ⟨b,0,none⟩)):=by rw [Lib.cell_of_heap hbk];rfl
 have c1:w1.cell? ⟨b,1,none⟩=some v:=by rw [Lib.cell_of_heap hbk];rfl
 go_wp2_with (at_builtin;refine Lib.wpList_append_own_stringF _ rfl _ _ 68 9 rfl b 5 i0 Tryz.underlying68 Tryz.underlying9 hi hz0 hz1 hz2 _ _ _ rfl hown s rfl ?c3 ?c4 ?c5 ?_)
 case c3=>unfold maxLen;omega
 case c4=>omega
 case c5=>have:=hb1.size;omega
 intro v' w2 hown' hgrow _
 have hlt:b<w1.heap.size:=blk_lt hbk
 have hb2:w2.heap[b]?=some (.cells #[.pointer (some ⟨b,0,none⟩),v, .bool lg] tW (0,0)):=by
   rw [hgrow.block b hlt (fun e=>hne e.symm)]
   exact hbk
 have d0:w2.cell? ⟨b,0,none⟩=some (.pointer (some ⟨b,0,none⟩)):=by rw [Lib.cell_of_heap hb2];rfl
 have d1:w2.cell? ⟨b,1,none⟩=some v:=by rw [Lib.cell_of_heap hb2];rfl
 have f1:w2.frozen? ⟨b,1,none⟩=false:=Lib.frozen_of_heap hb2 1
 obtain ⟨ao,n',cap,rfl⟩:∃ao n' cap,v' = .slice ao n' cap:=by
   rcases hown'.2 with ⟨hv,_⟩|⟨g,cap,cur,fz,hv,_⟩
   · exact ⟨_,_,_,hv⟩
   · exact ⟨_,_,_,hv⟩
 go_wp2
 go_ret2
 refine ⟨rfl,?_,⟨?_,(hk1.grown hgrow (Lib.ownsRowF_kind hown)).setCell ⟨b,1,none⟩ rfl _⟩⟩
 · have e:Lib.byteCells (l++s.data.toList)=Lib.byteCells l++Lib.strCells s:=by unfold Lib.byteCells;rw [List.map_append];rfl
   have hown'' :w2.ownsRowF b t8 1 (.slice ao n' cap) (l++s.data.toList).length (Lib.byteCells (l++s.data.toList)):=by
     rw [e,List.length_append]
     exact hown'
   have hne2:=Lib.ownBlock_neF hown'' hb2 (by decide)
   refine ⟨_,_, .inr rfl,?_,hown''.kept (row:=some b) ⟨rfl,rfl,rfl,by simp [World.setCell],fun k _ hk=>Below.heap_setCell _ _ _ _ (fun e=>hk (by simp [e]))⟩ (Or.inr hne2)⟩
   simp [World.setCell,Array.getElem?_modify,hb2]
 · exact (hb1.grown hgrow (by have:=hb1.size;omega) (fun k hk=>(hown.lt k hk).1)).setCell (p:=⟨b,1,none⟩) (Nat.le_refl _) _
theorem wlen_any (h:Ww b l lg w):
   Calls Tryz.prog 28 #[.pointer (some ⟨b,0,none⟩)] w fun e w' =>e= .returned (.int .i64 (l.length:Int))∧w' =w:=by
 obtain ⟨p,v,h1,h2,h3⟩:=h
 have c1:w.cell? ⟨b,1,none⟩=some v:=by rw [Lib.cell_of_heap h2];rfl
 obtain ⟨ao,cap,rfl⟩:∃ao cap,v= .slice ao l.length cap:=by
   rcases h3.2 with ⟨hv,hn⟩|⟨g,cap,cur,fz,hv,_⟩
   · exact ⟨none,0,by rw [hn];exact hv⟩
   · exact ⟨_,_,hv⟩
 clear h2 h3 h1
 go_enter Tryz.func28,Tryz.ntmps28
 go_wp2
 go_ret
 exact ⟨rfl,rfl⟩
abbrev tS:TypeId:=9
def tsA (ts:List Bs):Array Value:=(ts.map fun t=>Value.string (Ep.txt t)).toArray
theorem tsA_at {ts:List Bs} {j:Nat} {x:Bs} (h:ts[j]?=some x):(tsA ts)[j]?=some (.string (Ep.txt x)):=by
 unfold tsA
 rw [List.getElem?_toArray,List.getElem?_map,h]
 rfl
theorem flat_on {ts:List Bs} {j:Nat} {x:Bs} (h:ts[j]?=some x):(ts.take (j+1)).flatten=(ts.take j).flatten++x:=by
 rw [List.take_add_one,h]
 simp
theorem flat_le {ts:List Bs} {j:Nat}:(ts.take j).flatten.length≤ts.flatten.length:=by
 conv=>rhs;rw [←List.take_append_drop j ts]
 rw [List.flatten_append,List.length_append]
 omega
set_option maxHeartbeats 2000000 in
theorem say_any (ts:List Bs) {g c:Nat} (h:Ww b l lg w) (hg:Cel w g tS (tsA ts)) (hgb:g≠b) (hn:ts.length≤1000) (hlen:l.length+ts.flatten.length≤1000000000):
    Calls Tryz.prog 73 #[.pointer (some ⟨b,0,none⟩), .slice (some ⟨g,0,none⟩) ts.length c] w fun e w' =>e= .returned (.tuple #[])∧Ww b (l++ts.flatten) lg w' ∧Wr b w w' :=by
  obtain ⟨n,hnn⟩:∃n,ts.length=n:=⟨_,rfl⟩
  rw [hnn] at hn ⊢
  have HG:=Lib.hid hg
  have HN:=Lib.hid hnn
  have HL:=Lib.hid hlen
  have HGB:=Lib.hid hgb
  have HS:=Lib.hid (show Ww b (l++(ts.take 0).flatten) lg w∧Wr b w w from ⟨by simpa using h,Wr.refl _ _⟩)
  clear h hg hgb hlen hnn
  go_enter Tryz.func73,Tryz.ntmps73
  go_wp2
  go_loopw [8] (fun i wr=>∃j:Nat,j≤n∧i= .int .i64 (j:Int)∧Hid (Ww b (l++(ts.take j).flatten) lg wr∧Wr b w wr)) (fun i _=>n+1 - (intOf i).toNat)
  case atStart=>exact ⟨0,Nat.zero_le _,rfl,HS⟩
  case round=>
    obtain ⟨j,hj,rfl,HW⟩:=hrel
    by_cases hlt:j<n
    · obtain ⟨x,hx⟩:=some_at HN.out hlt
      have c0:wr.cell? ⟨g,j,none⟩=some (.string (Ep.txt x)):=((HW.out.2.cel HGB.out (by decide) HG.out).at_ j).trans (tsA_at hx)
      have tl:decide ((j:Int)<(n:Int))=true:=decide_eq_true (by omega)
      have HC:=Lib.hid (show Calls Tryz.prog 129 #[.pointer (some ⟨b,0,none⟩), .string (Ep.txt x)] wr fun e w' =>(∃m,e= .returned (.tuple #[.int .i64 m, .nilIface]))∧(Ww b (l++(ts.take (j+1)).flatten) lg w' ∧Wr b w w') from by
        have hx1:(Ep.txt x).data.toList=x:=by simp [Ep.txt]
        have hl2:(l++(ts.take j).flatten).length+(Ep.txt x).size≤1000000000:=by
          have h1:=flat_on hx
          have h2:=flat_le (ts:=ts) (j:=j+1)
          have h3:=HL.out
          have h4:(Ep.txt x).size=x.length:=by simp [Ep.txt,ByteArray.size]
          rw [h1,List.length_append] at h2
          rw [List.length_append,h4]
          omega
        refine (wwrite_any (Ep.txt x) HW.out.1 hl2).mono ?_
        rintro e w' ⟨rfl,g1,g2⟩
        refine ⟨⟨_,rfl⟩,?_,HW.out.2.trans g2⟩
        rw [flat_on hx,←List.append_assoc]
        rw [hx1] at g1
        exact g1)
      clear hx
      go_wp2_with (go_at_call 129;(with_reducible refine HC.out.mono ?_);rintro e1 w2 ⟨⟨m,rfl⟩,hw2⟩;have HW2:=Lib.hid hw2;clear hw2)
      go_roundw
      case rel=>exact ⟨j+1,by omega,by go_num,HW2⟩
      case measure=>simp [intOf];omega
    · have tl:decide ((j:Int)<(n:Int))=false:=decide_eq_false (by omega)
      obtain rfl:j=n:=by omega
      have HF:=Lib.hid (show Ww b (l++ts.flatten) lg wr∧Wr b w wr from by
        have:=HW.out
        rwa [←HN.out,List.take_length] at this)
      go_wp2
      go_end0
      exact ⟨rfl,HF.out⟩
end
end Go.Proofs.YtiaomhdmllhmmaaGreatDoor.Sm
namespace Go.Proofs.YtiaomhdmllhmmaaGreatDoor.Sm
open Go.RowKit Mem Ep Right Lx
set_option linter.unusedVariables false
def Wt (lg:Bool) (l T:List UInt8) (lg' :Bool) (l' :List UInt8):Prop:=(lg' =lg∧l' =l++T) ∨ (lg' =true∧400<T.length∧l'.length≤l.length+T.length)
theorem Wt.trans {lg lg1 lg2:Bool} {l l1 l2 T1 T2:List UInt8} (h:Wt lg l T1 lg1 l1) (k:Wt lg1 l1 T2 lg2 l2):Wt lg l (T1++T2) lg2 l2:=by
 unfold Wt at*
 rcases h with ⟨rfl,rfl⟩|⟨rfl,h2,h3⟩
 · rcases k with ⟨rfl,rfl⟩|⟨rfl,k2,k3⟩
   · exact .inl ⟨rfl,List.append_assoc _ _ _⟩
   · refine .inr ⟨rfl,?_,?_⟩
     · rw [List.length_append];omega
     · rw [List.length_append] at k3 ⊢;omega
 · rcases k with ⟨rfl,rfl⟩|⟨rfl,k2,k3⟩
   · refine .inr ⟨rfl,?_,?_⟩
     · rw [List.length_append];omega
     · rw [List.length_append,List.length_append];omega
   · refine .inr ⟨rfl,?_,?_⟩
     · rw [List.length_append];omega
     · rw [List.length_append];omega
theorem Wt.len {lg lg1:Bool} {l l1 T:List UInt8} (h:Wt lg l T lg1 l1):l1.length≤l.length+T.length:=by
 rcases h with ⟨-,rfl⟩|⟨-, -,h⟩
 · rw [List.length_append];omega
 · exact h
theorem Wt.lit (lg:Bool) (l T:List UInt8):Wt lg l T lg (l++T):= .inl ⟨rfl,rfl⟩
def WDid (b:Nat) (l:List UInt8) (lg:Bool) (T:List UInt8) (w:World) (e:Ending) (w' :World):Prop:=e= .returned (.tuple #[])∧∃l' lg',Ww b l' lg' w' ∧Wr b w w' ∧Wt lg l T lg' l'
section
variable {w w' :World} {b:Nat} {l l0:List UInt8} {lg lg0:Bool} {T T0:List UInt8}
def WrE (w:World) (b:Nat):Prop:=(Signs w∧0<b)∧(Osg w∧gTop<b)∧(Lib.TabIs Tryz.prog w "internal/strconv.uint64pow10" .u64 Lib.pow10Tab∧4<b)
theorem tab_below {B:Nat} (h:Lib.TabIs Tryz.prog w "internal/strconv.uint64pow10" .u64 Lib.pow10Tab) (hb:Below B w w') (hB:4<B):Lib.TabIs Tryz.prog w' "internal/strconv.uint64pow10" .u64 Lib.pow10Tab:=by
 have hg:Tryz.prog.globalNamed "internal/strconv.uint64pow10"=some 4:=by kernel_rfl
 unfold Lib.TabIs World.var? at*
 rw [hg] at h ⊢
 simp only [Option.bind_some] at h ⊢
 rw [hb.block _ hB]
 exact h
theorem WrE.below (h:WrE w b) (hb:Below b w w'):WrE w' b:=⟨⟨h.1.1.below hb h.1.2,h.1.2⟩,⟨h.2.1.1.below hb h.2.1.2,h.2.1.2⟩,⟨tab_below h.2.2.1 hb h.2.2.2,h.2.2.2⟩⟩
theorem saying (ts:List Bs) (h:Ww b l lg w) (hn:ts.length≤1000) (hlen:l.length+ts.flatten.length≤1000000000):
   Calls Tryz.prog 73 #[.pointer (some ⟨b,0,none⟩), .slice (some ⟨w.heap.size,0,none⟩) ts.length ts.length] (w.alloc (.cells (tsA ts) tS)) (WDid b l lg ts.flatten w):=by
 have hb:=Nat.le_of_lt h.lt
 have hB:Below w.heap.size w (w.alloc (.cells (tsA ts) tS)):=al (Below.refl _ _) _
 refine (say_any ts (c:=ts.length) (h.below hB) (Cel.new w _ _ rfl) (by have:=h.lt;omega) hn hlen).mono ?_
 rintro e w' ⟨rfl,h1,h2⟩
 exact ⟨rfl,_,_,h1,(Wr.of hB hb).trans h2,Wt.lit _ _ _⟩
set_option maxHeartbeats 2000000 in
set_option maxRecDepth 100000 in
theorem wtold_any (h:Ww b l lg w) (h0:l≠ []):
   Calls Tryz.prog 29 #[.pointer (some ⟨b,0,none⟩)] w fun e w' =>e= .returned (.string (Ep.txt l))∧Below b w w' :=by
 obtain ⟨p,v,hp,hbk,hown⟩:=h
 have hl0:l.length≠0:=by simpa using h0
 obtain ⟨g,cap,cur,fz,rfl,hbg,hg,hfz,hnc,hcm,hcs,htake⟩:∃g cap cur fz,v= .slice (some ⟨g,0,none⟩) l.length cap∧b≤g∧w.heap[g]?=some (.cells cur t8 fz)∧fz.2≤l.length*1∧l.length≤cap∧cap≤maxLen∧cur.size=cap*1∧cur.toList.take (l.length*1)=Lib.byteCells l:=by
   rcases hown.2 with ⟨_,hz⟩|⟨g,cap,cur,fz,hv,r⟩
   · exact absurd hz hl0
   · exact ⟨g,cap,cur,fz,hv,r⟩
 have c1:w.drew.cell? ⟨b,1,none⟩=some (.slice (some ⟨g,0,none⟩) l.length cap):=by
   have:w.drew.heap[b]?=some (.cells #[p, .slice (some ⟨g,0,none⟩) l.length cap, .bool lg] tW (0,0)):=hbk
   rw [Lib.cell_of_heap this];rfl
 have hSD:(Builtin.unsafeSliceData_ #[68] 96 #[.slice (some ⟨g,0,none⟩) l.length cap]).run Tryz.prog w.drew= .ok (.pointer (some ⟨g,0,none⟩)) w.drew:=
   Lib.run_unsafeSliceData_row _ _ _ _ _ _ (by omega)
 have hUS:(Builtin.unsafeString_ #[96,3] 9 #[.pointer (some ⟨g,0,none⟩), .int .i64 l.length]).run Tryz.prog w.drew= .ok (.string ⟨l.toArray⟩) (w.drew.freeze ⟨g,0,none⟩ l.length):=by
   refine Lib.run_unsafeString_row w.drew 96 3 9 t8 Tryz.underlying96 (by kernel_rfl) g cur.size (by have hg' :w.drew.heap[g]?=some (.cells cur t8 fz):=hg;simp [World.shape?,hg']) l h0 (by omega) (by unfold maxLen at hcm;omega) ?_
   intro j x hx
   have:=hown.cells (g:=g) rfl j (.int .u8 x.toNat) (by simp [Lib.byteCells,hx])
   exact this
 have HB:=Lib.hid (show Below b w (w.drew.freeze ⟨g,0,none⟩ l.length) from Lib.below_freeze (Below.drew (Below.refl b w)) (p:=⟨g,0,none⟩) hbg _)
 clear hbk hown hg hfz hnc hcm hcs htake hbg hp
 have mixed:Tryz.prog.follows .mixedOrders=true:=by kernel_rfl
 go_enter Tryz.func29,Tryz.ntmps29
 go_wp2
 go_region_o
 all_goals (go_wp2;go_ret;exact ⟨rfl,HB.out⟩)
theorem dg_dec:∀n:Nat,Lib.decDigits n=Num.dg n:=by
 intro n
 induction n using Nat.strongRecOn with
 | _ n ih=>
   rw [Lib.decDigits,Num.dg]
   by_cases h:n<10
   · rw [dif_pos h,if_pos h]
     unfold Num.dc
     rw [Nat.mod_eq_of_lt h]
   · rw [dif_neg h,if_neg h,ih (n / 10) (by omega)]
     rfl
theorem itoa_any (n:Int) (h0:0≤n) (h1:n≤9223372036854775807) (hT:Lib.TabIs Tryz.prog w "internal/strconv.uint64pow10" .u64 Lib.pow10Tab):
   Calls Tryz.prog 136 #[.int .i64 n] w fun e w' =>e= .returned (.string (Ep.txt (Num.dgz n)))∧Below w.heap.size w w' :=by
 refine (Tryz.strconv_Itoa n (by omega) h1 w hT).mono ?_
 rintro e w' ⟨rfl,k,os,rfl⟩
 refine ⟨?_,?_⟩
 · have:Lib.itoa n=Num.dgz n:=by
     unfold Lib.itoa Num.dgz
     rw [if_neg (by omega),if_neg (by omega),dg_dec,show n.toNat=n.natAbs by omega]
   rw [this]
   rfl
 · exact ⟨rfl,rfl,rfl,by show w.heap.size≤(w.heap++os).size;rw [Array.size_append];omega,fun j hj=>by show (w.heap++os)[j]?=_;exact Array.getElem?_append_left hj⟩
end
end Go.Proofs.YtiaomhdmllhmmaaGreatDoor.Sm
namespace Go.Proofs.YtiaomhdmllhmmaaGreatDoor.Sm
open Go.RowKit Mem Ep Right Lx Go.ChangeShapes Go.WideShapes
set_option linter.unusedVariables false
theorem sep_snoc:∀(a:List (List Pc)) (x:List Pc),a≠ []→sep (a++ [x])=sep a++(C 44::none::x)
 | [],_,h=>absurd rfl h
 | [a],x,_=>rfl
 | a::c::r,x,_=>by
   rw [List.cons_append,List.cons_append,sep,sep,←List.cons_append,sep_snoc (c::r) x (by simp)]
   simp
section
variable {α:Type} {l:List α} {P:α→List Pc} {j:Nat} {x:α}
theorem tsep_zero (hx:l[0]?=some x):tx (sep ((l.take 1).map P))=tx (P x):=by
 match l,hx with
 | y::r,hx=>
   simp at hx
   subst hx
   rfl
theorem tsep_on (hx:l[j]?=some x) (hj:0<j):tx (sep ((l.take (j+1)).map P))=tx (sep ((l.take j).map P))++([44,32]++tx (P x)):=by
 rw [List.take_add_one,hx,List.map_append,Option.toList_some,List.map_cons,List.map_nil,sep_snoc _ _ ?_,tx_app]
 · rfl
 · intro e
   have:=congrArg List.length e
   have hl:=(List.getElem?_eq_some_iff.1 hx).1
   rw [List.length_map,List.length_take,List.length_nil] at this
   omega
theorem tsep_app:∀(c a:List (List Pc)),(tx (sep a)).length≤(tx (sep (a++c))).length
 | [],a=>by rw [List.append_nil];exact Nat.le_refl _
 | y::c,a=>by
   have h:=tsep_app c (a++ [y])
   rw [List.append_assoc,List.singleton_append] at h
   refine Nat.le_trans ?_ h
   by_cases ha:a= []
   · subst ha;exact Nat.zero_le _
   · rw [sep_snoc a y ha,tx_app,List.length_append];omega
theorem tsep_le:(tx (sep ((l.take j).map P))).length≤(tx (sep (l.map P))).length:=by
 have:=tsep_app ((l.drop j).map P) ((l.take j).map P)
 rwa [←List.map_append,List.take_append_drop] at this
end
section
variable {w w' :World} {b:Nat} {l:List UInt8} {lg:Bool}
set_option maxRecDepth 100000 in
set_option maxHeartbeats 2000000 in
theorem wexpr_any {x:Ex} {cs:List Value} (hx:DtIn w (fun c=>c<b) (exDt x) cs) (hL:Lo x) (hl:Lim x) (h:Ww b l lg w) (hE:WrE w b) (htx:(tx (pcs x)).length≤1000000) (hlen:l.length+(tx (pcs x)).length≤1000000000):
    Calls Tryz.prog 130 #[.pointer (some ⟨b,0,none⟩), .agg cs.toArray] w (WDid b l lg (tx (pcs x)) w):=by
  obtain ⟨kx,ox,vkx,vnx,vsx,nsx,Ax,nx,cx,rfl⟩:=ex_form hx
  obtain ⟨W1,hW1⟩:∃W1,w.alloc (.cells #[.int .i64 kx, .int .i64 ox, .int .i64 vkx, .int .i64 vnx, .string vsx, .string nsx, .slice Ax nx cx] 30)=W1:=⟨_,rfl⟩
  have hb:Below w.heap.size w W1:=by rw [←hW1];exact al (Below.refl _ _) _
  have xw:Cel W1 w.heap.size 30 #[.int .i64 kx, .int .i64 ox, .int .i64 vkx, .int .i64 vnx, .string vsx, .string nsx, .slice Ax nx cx]:=by rw [←hW1];exact Cel.new _ _ _ rfl
  have v0:W1.cell? ⟨w.heap.size,0,none⟩=some (.int .i64 kx):=xw.at_ 0
  have v1:W1.cell? ⟨w.heap.size,1,none⟩=some (.int .i64 ox):=xw.at_ 1
  have v2:W1.cell? ⟨w.heap.size,2,none⟩=some (.int .i64 vkx):=xw.at_ 2
  have v3:W1.cell? ⟨w.heap.size,3,none⟩=some (.int .i64 vnx):=xw.at_ 3
  have v4:W1.cell? ⟨w.heap.size,4,none⟩=some (.string vsx):=xw.at_ 4
  have v5:W1.cell? ⟨w.heap.size,5,none⟩=some (.string nsx):=xw.at_ 5
  have v6:W1.cell? ⟨w.heap.size,6,none⟩=some (.slice Ax nx cx):=xw.at_ 6
  have hlb:=h.lt
  have hw1:=h.below hb
  have hr1:Wr b w W1:=Wr.of hb (Nat.le_of_lt hlb)
  have hh:high x=false:=by unfold high;exact decide_eq_false (by rw [hgt_ht];have:=hL.2;omega)
  obtain ⟨s,n,hpv⟩:∃s n,printV x=(s,n):=⟨_,_,rfl⟩
  have HP:=Lib.hid (show Calls Tryz.prog 180 #[.agg #[.int .i64 kx, .int .i64 ox, .int .i64 vkx, .int .i64 vnx, .string vsx, .string nsx, .slice Ax nx cx]] W1 fun e w' =>e= .returned (.tuple #[.string (Ep.txt s), .int .i64 n])∧Below W1.heap.size W1 w' by
    have:=print_any x (kid_all hL.1) [.int .i64 kx, .int .i64 ox, .int .i64 vkx, .int .i64 vnx, .string vsx, .string nsx, .slice Ax nx cx] W1 (DtIn.to (w:=W1) (w' :=W1) (S:=fun c=>c<b) (S' :=fun c=>c<W1.heap.size) (fun c g=>Nat.lt_trans g hw1.lt) (fun p hp=>rfl) _ _ (hx.below hr1.1)) ((hE.below hr1.1).1.1) ((hE.below hr1.1).2.1.1) hl htx
    rw [hpv] at this
    exact this)
  rw [printV_rt hL.1 hh] at hpv
  by_cases h4:400<(tx (pcs x)).length
  · rw [if_pos h4] at hpv
    injection hpv with e1 e2
    subst e1 e2
    have HF:=Lib.hid (show ∀w2,Below W1.heap.size W1 w2→w2.cell? ⟨b,2,none⟩=some (.bool lg)∧w2.frozen? ⟨b,2,none⟩=false∧∀W3,w2.setCell ⟨b,2,none⟩ (.bool true)=W3→Calls Tryz.prog 73 #[.pointer (some ⟨b,0,none⟩), .slice (some ⟨W3.heap.size,0,none⟩) 1 1] (W3.alloc (.cells #[.string (Ep.txt [])] tS)) (WDid b l lg (tx (pcs x)) w) from fun w2 hw=>by
      have g1:=hw1.below hw
      refine ⟨g1.mark,g1.open_,?_⟩
      rintro W3 rfl
      refine (saying [[]] (g1.set true) (by simp) (by simp;omega)).mono fun e w' d=>?_
      obtain ⟨d1,l',lg',d2,d3,d4⟩:=d
      have d5:lg' =true∧l' =l:=by
        rcases d4 with ⟨d4,d5⟩|⟨d4,d5,d6⟩
        · exact ⟨d4,by simpa using d5⟩
        · simp at d5
      refine ⟨d1,l',lg',d2,((hr1.trans (Wr.of hw (Nat.le_of_lt hw1.lt))).trans (g1.wr true)).trans d3, .inr ⟨d5.1,h4,by rw [d5.2];omega⟩⟩)
    clear hx hL hl h hE htx hlen hb xw hlb hw1 hr1 hh h4
    cases lg<;>
    · go_enter Tryz.func130,Tryz.ntmps130
      go_wp2_with (first|(go_at_call 180;(with_reducible refine HP.out.mono ?_);rintro e1 w1 ⟨rfl,hb2⟩;obtain ⟨m2,f2,hs2⟩:=HF.out w1 hb2;obtain ⟨W3,hW3⟩:∃W,w1.setCell ⟨b,2,none⟩ (.bool true)=W:=⟨_,rfl⟩;have HS:=Lib.hid (hs2 W3 hW3);clear hs2 hb2)|(go_at_call 73;(with_reducible refine HS.out.mono ?_);rintro e1 w2 ⟨rfl,HD1⟩))
      go_end0
      exact ⟨rfl,HD1⟩
  · rw [if_neg h4] at hpv
    injection hpv with e1 e2
    subst e1 e2
    have HF:=Lib.hid (show ∀w2,Below W1.heap.size W1 w2→w2.cell? ⟨b,2,none⟩=some (.bool lg)∧w2.frozen? ⟨b,2,none⟩=false∧∀W3,w2.setCell ⟨b,2,none⟩ (.bool lg)=W3→Calls Tryz.prog 73 #[.pointer (some ⟨b,0,none⟩), .slice (some ⟨W3.heap.size,0,none⟩) 1 1] (W3.alloc (.cells #[.string (Ep.txt (tx (pcs x)))] tS)) (WDid b l lg (tx (pcs x)) w) from fun w2 hw=>by
      have g1:=hw1.below hw
      refine ⟨g1.mark,g1.open_,?_⟩
      rintro W3 rfl
      refine (saying [tx (pcs x)] (g1.set lg) (by simp) (by simp;omega)).mono fun e w' d=>?_
      obtain ⟨d1,l',lg',d2,d3,d4⟩:=d
      refine ⟨d1,l',lg',d2,((hr1.trans (Wr.of hw (Nat.le_of_lt hw1.lt))).trans (g1.wr lg)).trans d3,?_⟩
      simpa using d4)
    clear hx hL hl h hE htx hlen hb xw hlb hw1 hr1 hh h4
    cases lg with
    | true=>
      go_enter Tryz.func130,Tryz.ntmps130
      go_wp2_with (first|(go_at_call 180;(with_reducible refine HP.out.mono ?_);rintro e1 w1 ⟨rfl,hb2⟩;obtain ⟨m2,f2,hs2⟩:=HF.out w1 hb2;obtain ⟨W3,hW3⟩:∃W,w1.setCell ⟨b,2,none⟩ (.bool true)=W:=⟨_,rfl⟩;have HS:=Lib.hid (hs2 W3 hW3);clear hs2 hb2)|(go_at_call 73;(with_reducible refine HS.out.mono ?_);rintro e1 w2 ⟨rfl,HD1⟩))
      go_end0
      exact ⟨rfl,HD1⟩
    | false=>
      go_enter Tryz.func130,Tryz.ntmps130
      go_wp2_with (first|(go_at_call 180;(with_reducible refine HP.out.mono ?_);rintro e1 w1 ⟨rfl,hb2⟩;obtain ⟨m2,f2,hs2⟩:=HF.out w1 hb2;obtain ⟨W3,hW3⟩:∃W,w1.setCell ⟨b,2,none⟩ (.bool false)=W:=⟨_,rfl⟩;have HS:=Lib.hid (hs2 W3 hW3);clear hs2 hb2)|(go_at_call 73;(with_reducible refine HS.out.mono ?_);rintro e1 w2 ⟨rfl,HD1⟩))
      go_end0
      exact ⟨rfl,HD1⟩
end
end Go.Proofs.YtiaomhdmllhmmaaGreatDoor.Sm
