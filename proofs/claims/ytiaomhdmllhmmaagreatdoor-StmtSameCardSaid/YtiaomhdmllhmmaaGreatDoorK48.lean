/- StmtSame. -/
import Derived.Test.YtiaomhdmllhmmaaGreatDoorK43
import Derived.Test.YtiaomhdmllhmmaaGreatDoorK47
namespace Go.Proofs.YtiaomhdmllhmmaaGreatDoor.Sm
open Go.RowKit Mem Ep Right Lx Go.ChangeShapes Go.WideShapes
set_option linter.unusedVariables false
theorem signs_same {W:World} (h:laidMetH Tryz.prog Rows.stmtSameRow.laid W) (hsh:W.ShapedOpen Tryz.prog):WrE W W.heap.size:=
 wre_of_laid h hsh (by kernel_rfl) (by repeat (first|exact List.Mem.head _|apply List.Mem.tail)) (by repeat (first|exact List.Mem.head _|apply List.Mem.tail)) (by repeat (first|exact List.Mem.head _|apply List.Mem.tail))
theorem WrE.up {w w' :World} (h:WrE w w.heap.size) (hb:Below w.heap.size w w'):WrE w' w'.heap.size:=by
 have:=h.below hb
 have hs:=hb.size
 exact ⟨⟨this.1.1,by have:=this.1.2;omega⟩,⟨this.2.1.1,by have:=this.2.1.2;omega⟩,⟨this.2.2.1,by have:=this.2.2.2;omega⟩⟩
theorem eqB_self {α:Type} (x:α):eqB x x=true:=by unfold eqB;simp
theorem quiet_load_on {P:Program} {C:World→Prop} {ops:Array Oper} {rest:List Oper} {Q:Act→Prop} {op:Oper} {a:Act} (hw:Region.wanted op (yielded ops a.tmps)=true) (ty:TypeId) (x:Operand) (ho:op.op= .load ty x)
   (b o:Nat) (hx:a.eval x= .pointer (some ⟨b,o,none⟩)) (cs:List Value) (d:TypeDesc) (hc:∀w,C w→w.rangeAt b o cs) (hu:P.underlying ty=some d) (hd:d.isRow=true) (hi:(P.info? ty).map (·.size)=some cs.length)
   (h:wpQuiet P ops C Q rest (a.put op.dst (.agg cs.toArray))):wpQuiet P ops C Q (op::rest) a:=by
 refine wpQuiet_step fun K hK=>?_
 rw [if_pos hw]
 refine ⟨_,fun w hw=>?_,hK _ h⟩
 unfold Oper.quietAt execOp
 simp only [ho,hx,Instr.loadAt,Instr.sureAddr,Sem.run_bind,Sem.run_pure,Result.andThen_ok,run_loadVar_mid w b o ty cs d (hc w hw) hu hd hi]
 exact ⟨rfl,rfl⟩
theorem quiet_stmt_on {C:World→Prop} {ops:Array Oper} {rest:List Oper} {Q:Act→Prop} {op:Oper} {a:Act} (hw:Region.wanted op (yielded ops a.tmps)=true) (x:Operand) (ho:op.op= .load tSt x)
   (b o:Nat) (hx:a.eval x= .pointer (some ⟨b,o,none⟩)) (cs:List Value) (hc:∀w,C w→At w b o cs) (hl:cs.length=21) (h:wpQuiet Tryz.prog ops C Q rest (a.put op.dst (.agg cs.toArray))):wpQuiet Tryz.prog ops C Q (op::rest) a:=
 quiet_load_on hw tSt x ho b o hx cs _ hc Tryz.underlying35 rfl (by rw [hl];exact stmt_size) h
set_option maxRecDepth 100000 in
set_option maxHeartbeats 4000000 in
theorem walk_same (cs1:List Value) (a:St) (cs2:List Value) (b:St) (w:World) (h1:DtIn w (fun b=>b<w.heap.size) (stDt a) cs1) (hf1:fSt a) (h2:DtIn w (fun b=>b<w.heap.size) (stDt b) cs2) (hf2:fSt b) (hfact:WrE w w.heap.size):
   Calls Tryz.prog 3 #[.agg cs1.toArray, .agg cs2.toArray] w fun x w' =>x= .returned (.bool true)∧Below w.heap.size w w' :=by
 have hl1:=Lib.hid (st_one h1).1
 have hl2:=Lib.hid (st_one h2).1
 obtain ⟨V,hV⟩:∃W,(w.alloc (.cells cs1.toArray tSt)).alloc (.cells cs2.toArray tSt)=W:=⟨_,rfl⟩
 have hb:Below w.heap.size w V:=by rw [←hV];exact al (al (Below.refl _ _) _) _
 have hsz:V.heap.size=w.heap.size+2:=by rw [←hV];simp
 have x1:Cel V w.heap.size tSt cs1.toArray:=by rw [←hV];exact (Cel.new _ _ _ rfl).alloc _
 have x2:Cel V (w.heap.size+1) tSt cs2.toArray:=by rw [←hV];exact Cel.new _ _ _ (by simp)
 have d1:=DtIn.on h1 hb
 have d2:=DtIn.on h2 hb
 have HA:=Lib.hid (show ∀W,Below V.heap.size V W→At W w.heap.size 0 cs1∧At W (w.heap.size+1) 0 cs2 from fun W g=>⟨at_cel ((g.block _ (by omega)).trans x1),at_cel ((g.block _ (by omega)).trans x2)⟩)
 have HF1:=Lib.hid (show ∀W,Below V.heap.size V W→Calls Tryz.prog 8 #[.agg cs1.toArray] W (FewL a W) from fun W g=>few_st a cs1 W (DtIn.on d1 g))
 have HF2:=Lib.hid (show ∀W,Below V.heap.size V W→Calls Tryz.prog 8 #[.agg cs2.toArray] W (FewL b W) from fun W g=>few_st b cs2 W (DtIn.on d2 g))
 have HW:=Lib.hid (show ∀W,Below V.heap.size V W→Calls Tryz.prog 9 #[] W fun e w' =>e= .returned (.bool true)∧Below W.heap.size W w' from fun W g=>works_any W ((hfact.up hb).up g))
 have HS:=Lib.hid (show ∀W,Below V.heap.size V W→Calls Tryz.prog 10 #[.agg cs1.toArray, .agg cs2.toArray] W fun e w' =>e= .returned (.bool (eqB a b))∧Below W.heap.size W w' from fun W g=>stSame_any a b cs1 cs2 W (DtIn.on d1 g) (DtIn.on d2 g))
 have HR:=Lib.hid (show ∀W,Below V.heap.size V W→Calls Tryz.prog 11 #[.agg cs1.toArray, .agg cs2.toArray] W fun e w' =>e= .returned (.bool (eqB a b))∧Below W.heap.size W w' from fun W g=>refSame_st a b cs1 cs2 W (DtIn.on d1 g) (DtIn.on d2 g))
 have HS1:=Lib.hid (show ∀W,Below V.heap.size V W→Calls Tryz.prog 10 #[.agg cs1.toArray, .agg cs1.toArray] W fun e w' =>e= .returned (.bool true)∧Below W.heap.size W w' from fun W g=>by have:=stSame_any a a cs1 cs1 W (DtIn.on d1 g) (DtIn.on d1 g);rwa [eqB_self] at this)
 have HS2:=Lib.hid (show ∀W,Below V.heap.size V W→Calls Tryz.prog 10 #[.agg cs2.toArray, .agg cs2.toArray] W fun e w' =>e= .returned (.bool true)∧Below W.heap.size W w' from fun W g=>by have:=stSame_any b b cs2 cs2 W (DtIn.on d2 g) (DtIn.on d2 g);rwa [eqB_self] at this)
 have HE:=Lib.hid (show ∀W,Below V.heap.size V W→Below w.heap.size w W from fun W g=>Mem.on hb g)
 obtain ⟨q,hq⟩:∃q,eqB a b=q:=⟨_,rfl⟩
 rw [hq] at HS HR
 clear h1 hf1 h2 hf2 hfact hb hsz x1 x2 d1 d2 hq
 go_enter Tryz.func3,Tryz.ntmps3
 go_wp2_with (refine load_stmt rfl _ rfl w.heap.size 0 rfl cs1 (HA.out _ (Below.refl _ _)).1 hl1.out ?_)
 go_at_call 8
 with_reducible refine (HF1.out _ (Below.refl _ _)).mono ?_
 rintro e1 w1 ⟨b1,rfl, -,hb1⟩
 have HB1:=Lib.hid hb1
 clear hb1
 cases b1 with
 | false=>
   go_wp2_with (go_at_call 9;(with_reducible refine (HW.out _ HB1.out).mono ?_);rintro e2 w2 ⟨rfl,hb2⟩;have HB2:=Lib.hid (HE.out _ (Mem.on HB1.out hb2));clear hb2)
   go_ret
   exact ⟨rfl,HB2.out⟩
 | true=>
   go_wp2_with (refine load_stmt_on (by rfl) _ rfl (w.heap.size+1) 0 rfl cs2 (HA.out _ HB1.out).2 hl2.out ?_)
   go_at_call 8
   with_reducible refine (HF2.out _ HB1.out).mono ?_
   rintro e2 w2 ⟨b2,rfl, -,hb2⟩
   have HB2:=Lib.hid (Mem.on HB1.out hb2)
   clear hb2
   cases b2 with
   | false=>
     go_wp2_with (go_at_call 9;(with_reducible refine (HW.out _ HB2.out).mono ?_);rintro e3 w3 ⟨rfl,hb3⟩;have HB3:=Lib.hid (HE.out _ (Mem.on HB2.out hb3));clear hb3)
     go_ret
     exact ⟨rfl,HB3.out⟩
   | true=>
     go_wp2
     have HBD:=Lib.hid (show Below V.heap.size V w2.drew from HB2.out.drew)
     refine wp_region_class (w₀:=V) HBD.out (by kernel_rfl) (by kernel_rfl) ?_
     have HA1:=Lib.hid (show ∀s:CW V,At s.val w.heap.size 0 cs1 from fun s=>(HA.out _ s.h).1)
     have HA2:=Lib.hid (show ∀s:CW V,At s.val (w.heap.size+1) 0 cs2 from fun s=>(HA.out _ s.h).2)
     repeat (first|(refine quiet_stmt_on (by rfl) _ rfl w.heap.size 0 rfl cs1 (by rintro _ ⟨s,rfl⟩;exact HA1.out s) hl1.out ?_;simp only [Act.put,List.setIfInBounds_toArray,List.set_cons_zero,List.set_cons_succ])|(refine quiet_stmt_on (by rfl) _ rfl (w.heap.size+1) 0 rfl cs2 (by rintro _ ⟨s,rfl⟩;exact HA2.out s) hl2.out ?_;simp only [Act.put,List.setIfInBounds_toArray,List.set_cons_zero,List.set_cons_succ])|(go_big_quiet_step ((first|(go_at_call 10;first|exact CW.calls (HS.out _ (CW.h _))|exact CW.calls (HS1.out _ (CW.h _))|exact CW.calls (HS2.out _ (CW.h _)))|(go_at_call 11;exact CW.calls (HR.out _ (CW.h _)))|(go_at_call 9;exact CW.calls (HW.out _ (CW.h _)))))))
     refine wpQuiet_nil ?_
     rintro _ ⟨s,rfl⟩
     have HB3:=Lib.hid (HE.out _ s.h)
     generalize s.val=W4 at HB3 ⊢
     go_wp2
     go_ret
     exact ⟨by cases q<;>rfl,HB3.out⟩
end Go.Proofs.YtiaomhdmllhmmaaGreatDoor.Sm
