/- What a checker asks of a constraint. What a checker asks of a constraint. What a checker asks of a constraint. -/
import Derived.Test.YtiaomhdmllhmmaaGreatDoorK21
namespace Go.Proofs.YtiaomhdmllhmmaaGreatDoor.Sm
open Go.RowKit Mem Ep Right Lx Go.ChangeShapes Go.WideShapes
set_option linter.unusedVariables false
section
variable {w w' :World} {B:Nat} {f:Fl} {m:Mk} {er:Int}
set_option maxRecDepth 100000 in
set_option maxHeartbeats 4000000 in
theorem constraint_2 (nm:Bs) (cols:List Bs) (chk:Ex) (tbl:Bs) (refs:List Bs) {P Q:Option Addr} {pn pc qn qc:Nat} {ek eo vk vn:Int} {vs ns:ByteArray} {A:Option Addr} {n c:Nat} (h1:IsRow w (fun b=>b<B) 1 (cols.map sDt) (.slice P pn pc)) (h2:ExIn w (fun b=>b<B) chk [.int .i64 ek, .int .i64 eo, .int .i64 vk, .int .i64 vn, .string vs, .string ns, .slice A n c]) (h3:IsRow w (fun b=>b<B) 1 (refs.map sDt) (.slice Q qn qc))
   (hf:Fine chk) (hl:cnLim ⟨nm,2,cols,chk,tbl,refs⟩) (h:Cel w B tC (ckA f m er)) (hE:CkE w B):Calls Tryz.prog 167 #[cP B, .agg #[.string (txt nm), .int .i64 2, .slice P pn pc, .int .i64 ek, .int .i64 eo, .int .i64 vk, .int .i64 vn, .string vs, .string ns, .slice A n c, .string (txt tbl), .slice Q qn qc]] w (Did B f m er (OkCn ⟨nm,2,cols,chk,tbl,refs⟩) w):=by
 have hlB:=h.lt
 obtain ⟨W1,hW1⟩:∃W1,(w.alloc (.cells #[.string (txt nm), .int .i64 2, .slice P pn pc, .int .i64 ek, .int .i64 eo, .int .i64 vk, .int .i64 vn, .string vs, .string ns, .slice A n c, .string (txt tbl), .slice Q qn qc] 56)).alloc (.cells #[.string (txt nm), .int .i64 2, .slice none 0 0, .int .i64 0, .int .i64 0, .int .i64 0, .int .i64 0, .string ⟨#[]⟩, .string ⟨#[]⟩, .slice none 0 0, .string ⟨#[]⟩, .slice none 0 0] 56)=W1:=⟨_,rfl⟩
 have hb:Below w.heap.size w W1:=by rw [←hW1];exact al (al (Below.refl _ _) _) _
 have x1:Cel W1 w.heap.size 56 #[.string (txt nm), .int .i64 2, .slice P pn pc, .int .i64 ek, .int .i64 eo, .int .i64 vk, .int .i64 vn, .string vs, .string ns, .slice A n c, .string (txt tbl), .slice Q qn qc]:=by rw [←hW1];exact (Cel.new w _ _ rfl).alloc _
 have x2:Cel W1 (w.heap.size+1) 56 #[.string (txt nm), .int .i64 2, .slice none 0 0, .int .i64 0, .int .i64 0, .int .i64 0, .int .i64 0, .string ⟨#[]⟩, .string ⟨#[]⟩, .slice none 0 0, .string ⟨#[]⟩, .slice none 0 0]:=by rw [←hW1];exact Cel.new _ _ _ (by simp)
 have C0:=Lib.hid (h.below hb)
 have O0:=Lib.hid (show Oth B w W1 from Oth.of hb (Nat.le_of_lt hlB))
 have Y0:=Lib.hid x1
 have Z0:=Lib.hid x2
 have HE:=Lib.hid (show ∀W2,Oth B w W2→CkE W2 B from fun W2 g=>hE.below g.1)
 have H1:=Lib.hid h1
 have H2:=Lib.hid h2
 have H3:=Lib.hid h3
 have HL:=Lib.hid hl
 have HF:=Lib.hid hf
 have cx0:W1.cell? ⟨w.heap.size,0,none⟩=some (.string (txt nm)):=x1.at_ 0
 have HI:=Lib.hid (show Calls Tryz.prog 163 #[cP B, .string (txt nm)] W1 (Did B f m er (isN nm) W1) from isName_any nm hl.1 C0.out (HE.out _ O0.out))
 have HW1:=Lib.hid hW1
 clear h1 h2 h3 hf hl h hE x1 x2 hb hW1
 go_enter Tryz.func167,Tryz.ntmps167
 go_upto_region 2 with fail
 rw [HW1.out]
 go_wp2_with (go_at_call 163;(with_reducible refine HI.out.mono ?_))
 rintro e1 w1 ⟨rfl,er1,hC,hO,hq⟩
 have C1:=Lib.hid hC
 have O1:=Lib.hid (O0.out.trans hO)
 have Q1:=Lib.hid (show er1=0↔er=0∧(isN nm) by rw [hq])
 have Y1:=Lib.hid (Oth.cel hO (by omega) Y0.out)
 have Z1:=Lib.hid (Oth.cel hO (by omega) Z0.out)
 clear hC hO hq
 have a1_1:w1.cell? ⟨w.heap.size,1,none⟩=some (.int .i64 2):=Y1.out.at_ 1
 have a1_3:w1.cell? ⟨w.heap.size,3,none⟩=some (.int .i64 ek):=Y1.out.at_ 3
 have a1_4:w1.cell? ⟨w.heap.size,4,none⟩=some (.int .i64 eo):=Y1.out.at_ 4
 have a1_5:w1.cell? ⟨w.heap.size,5,none⟩=some (.int .i64 vk):=Y1.out.at_ 5
 have a1_6:w1.cell? ⟨w.heap.size,6,none⟩=some (.int .i64 vn):=Y1.out.at_ 6
 have a1_7:w1.cell? ⟨w.heap.size,7,none⟩=some (.string vs):=Y1.out.at_ 7
 have a1_8:w1.cell? ⟨w.heap.size,8,none⟩=some (.string ns):=Y1.out.at_ 8
 have a1_9:w1.cell? ⟨w.heap.size,9,none⟩=some (.slice A n c):=Y1.out.at_ 9
 have z1_3:w1.cell? ⟨w.heap.size+1,3,none⟩=some (.int .i64 0):=Z1.out.at_ 3
 have z1_4:w1.cell? ⟨w.heap.size+1,4,none⟩=some (.int .i64 0):=Z1.out.at_ 4
 have z1_5:w1.cell? ⟨w.heap.size+1,5,none⟩=some (.int .i64 0):=Z1.out.at_ 5
 have z1_6:w1.cell? ⟨w.heap.size+1,6,none⟩=some (.int .i64 0):=Z1.out.at_ 6
 have z1_7:w1.cell? ⟨w.heap.size+1,7,none⟩=some (.string ⟨#[]⟩):=Z1.out.at_ 7
 have z1_8:w1.cell? ⟨w.heap.size+1,8,none⟩=some (.string ⟨#[]⟩):=Z1.out.at_ 8
 have z1_9:w1.cell? ⟨w.heap.size+1,9,none⟩=some (.slice none 0 0):=Z1.out.at_ 9
 have f1_3:=Z1.out.open_ 3
 have f1_4:=Z1.out.open_ 4
 have f1_5:=Z1.out.open_ 5
 have f1_6:=Z1.out.open_ 6
 have f1_7:=Z1.out.open_ 7
 have f1_8:=Z1.out.open_ 8
 have f1_9:=Z1.out.open_ 9
 obtain ⟨w2,hw2⟩:∃W,(((((((w1.setCell ⟨w.heap.size+1,3,none⟩ (.int .i64 ek)).setCell ⟨w.heap.size+1,4,none⟩ (.int .i64 eo)).setCell ⟨w.heap.size+1,5,none⟩ (.int .i64 vk)).setCell ⟨w.heap.size+1,6,none⟩ (.int .i64 vn)).setCell ⟨w.heap.size+1,7,none⟩ (.string vs)).setCell ⟨w.heap.size+1,8,none⟩ (.string ns)).setCell ⟨w.heap.size+1,9,none⟩ (.slice A n c))=W:=⟨_,rfl⟩
 have Z2:=Lib.hid (show Cel w2 (w.heap.size+1) 56 #[.string (txt nm), .int .i64 2, .slice none 0 0, .int .i64 ek, .int .i64 eo, .int .i64 vk, .int .i64 vn, .string vs, .string ns, .slice A n c, .string ⟨#[]⟩, .slice none 0 0] by rw [←hw2];exact (Cel.set (Cel.set (Cel.set (Cel.set (Cel.set (Cel.set (Cel.set Z1.out 3 (.int .i64 ek)) 4 (.int .i64 eo)) 5 (.int .i64 vk)) 6 (.int .i64 vn)) 7 (.string vs)) 8 (.string ns)) 9 (.slice A n c)))
 have Y2:=Lib.hid (show Cel w2 w.heap.size 56 #[.string (txt nm), .int .i64 2, .slice P pn pc, .int .i64 ek, .int .i64 eo, .int .i64 vk, .int .i64 vn, .string vs, .string ns, .slice A n c, .string (txt tbl), .slice Q qn qc] by rw [←hw2];exact (Cel.other (Cel.other (Cel.other (Cel.other (Cel.other (Cel.other (Cel.other Y1.out (by omega) 3 (.int .i64 ek)) (by omega) 4 (.int .i64 eo)) (by omega) 5 (.int .i64 vk)) (by omega) 6 (.int .i64 vn)) (by omega) 7 (.string vs)) (by omega) 8 (.string ns)) (by omega) 9 (.slice A n c)))
 have O2:=Lib.hid (show Oth B w w2 by rw [←hw2];exact (oth_new (oth_new (oth_new (oth_new (oth_new (oth_new (oth_new O1.out (by omega) (by omega) 3 (.int .i64 ek)) (by omega) (by omega) 4 (.int .i64 eo)) (by omega) (by omega) 5 (.int .i64 vk)) (by omega) (by omega) 6 (.int .i64 vn)) (by omega) (by omega) 7 (.string vs)) (by omega) (by omega) 8 (.string ns)) (by omega) (by omega) 9 (.slice A n c)))
 have C2:=Lib.hid (show Cel w2 B tC (ckA f m er1) by rw [←hw2];exact (Cel.other (Cel.other (Cel.other (Cel.other (Cel.other (Cel.other (Cel.other C1.out (by omega) 3 (.int .i64 ek)) (by omega) 4 (.int .i64 eo)) (by omega) 5 (.int .i64 vk)) (by omega) 6 (.int .i64 vn)) (by omega) 7 (.string vs)) (by omega) 8 (.string ns)) (by omega) 9 (.slice A n c)))
 have Q2:=Q1
 have a2_3:w2.cell? ⟨w.heap.size,3,none⟩=some (.int .i64 ek):=Y2.out.at_ 3
 have a2_4:w2.cell? ⟨w.heap.size,4,none⟩=some (.int .i64 eo):=Y2.out.at_ 4
 have a2_5:w2.cell? ⟨w.heap.size,5,none⟩=some (.int .i64 vk):=Y2.out.at_ 5
 have a2_6:w2.cell? ⟨w.heap.size,6,none⟩=some (.int .i64 vn):=Y2.out.at_ 6
 have a2_7:w2.cell? ⟨w.heap.size,7,none⟩=some (.string vs):=Y2.out.at_ 7
 have a2_8:w2.cell? ⟨w.heap.size,8,none⟩=some (.string ns):=Y2.out.at_ 8
 have a2_9:w2.cell? ⟨w.heap.size,9,none⟩=some (.slice A n c):=Y2.out.at_ 9
 have HK:=Lib.hid (show Calls Tryz.prog 172 #[cP B, .agg #[.int .i64 ek, .int .i64 eo, .int .i64 vk, .int .i64 vn, .string vs, .string ns, .slice A n c]] w2 (Did B f m er1 (Lo chk) w2) from isExpr_any (cs:= [.int .i64 ek, .int .i64 eo, .int .i64 vk, .int .i64 vn, .string vs, .string ns, .slice A n c]) (DtIn.below H2.out O2.out.1) HF.out HL.out.2.2.2.2 C2.out (HE.out _ O2.out))
 go_wp2_with (go_at_call 172;(with_reducible refine HK.out.mono ?_))
 rintro e3 w3 ⟨rfl,er3,hC,hO,hq⟩
 have C3:=Lib.hid hC
 have O3:=Lib.hid (O2.out.trans hO)
 have Q3:=Lib.hid (show er3=0↔er=0∧(isN nm∧Lo chk) by rw [hq,Q2.out,and_assoc])
 have Y3:=Lib.hid (Oth.cel hO (by omega) Y2.out)
 have Z3:=Lib.hid (Oth.cel hO (by omega) Z2.out)
 clear hC hO hq
 have a3_0:w3.cell? ⟨w.heap.size,0,none⟩=some (.string (txt nm)):=Y3.out.at_ 0
 have a3_1:w3.cell? ⟨w.heap.size,1,none⟩=some (.int .i64 2):=Y3.out.at_ 1
 have a3_2:w3.cell? ⟨w.heap.size,2,none⟩=some (.slice P pn pc):=Y3.out.at_ 2
 have a3_3:w3.cell? ⟨w.heap.size,3,none⟩=some (.int .i64 ek):=Y3.out.at_ 3
 have a3_4:w3.cell? ⟨w.heap.size,4,none⟩=some (.int .i64 eo):=Y3.out.at_ 4
 have a3_5:w3.cell? ⟨w.heap.size,5,none⟩=some (.int .i64 vk):=Y3.out.at_ 5
 have a3_6:w3.cell? ⟨w.heap.size,6,none⟩=some (.int .i64 vn):=Y3.out.at_ 6
 have a3_7:w3.cell? ⟨w.heap.size,7,none⟩=some (.string vs):=Y3.out.at_ 7
 have a3_8:w3.cell? ⟨w.heap.size,8,none⟩=some (.string ns):=Y3.out.at_ 8
 have a3_9:w3.cell? ⟨w.heap.size,9,none⟩=some (.slice A n c):=Y3.out.at_ 9
 have a3_10:w3.cell? ⟨w.heap.size,10,none⟩=some (.string (txt tbl)):=Y3.out.at_ 10
 have a3_11:w3.cell? ⟨w.heap.size,11,none⟩=some (.slice Q qn qc):=Y3.out.at_ 11
 have z3_0:w3.cell? ⟨w.heap.size+1,0,none⟩=some (.string (txt nm)):=Z3.out.at_ 0
 have z3_1:w3.cell? ⟨w.heap.size+1,1,none⟩=some (.int .i64 2):=Z3.out.at_ 1
 have z3_2:w3.cell? ⟨w.heap.size+1,2,none⟩=some (.slice none 0 0):=Z3.out.at_ 2
 have z3_3:w3.cell? ⟨w.heap.size+1,3,none⟩=some (.int .i64 ek):=Z3.out.at_ 3
 have z3_4:w3.cell? ⟨w.heap.size+1,4,none⟩=some (.int .i64 eo):=Z3.out.at_ 4
 have z3_5:w3.cell? ⟨w.heap.size+1,5,none⟩=some (.int .i64 vk):=Z3.out.at_ 5
 have z3_6:w3.cell? ⟨w.heap.size+1,6,none⟩=some (.int .i64 vn):=Z3.out.at_ 6
 have z3_7:w3.cell? ⟨w.heap.size+1,7,none⟩=some (.string vs):=Z3.out.at_ 7
 have z3_8:w3.cell? ⟨w.heap.size+1,8,none⟩=some (.string ns):=Z3.out.at_ 8
 have z3_9:w3.cell? ⟨w.heap.size+1,9,none⟩=some (.slice A n c):=Z3.out.at_ 9
 have z3_10:w3.cell? ⟨w.heap.size+1,10,none⟩=some (.string ⟨#[]⟩):=Z3.out.at_ 10
 have z3_11:w3.cell? ⟨w.heap.size+1,11,none⟩=some (.slice none 0 0):=Z3.out.at_ 11
 obtain ⟨s,hs⟩:∃s,eqB (⟨nm,2,cols,chk,tbl,refs⟩:Cn) ⟨nm,2, [],chk, [], []⟩=s:=⟨_,rfl⟩
 have HS:=Lib.hid (show Calls Tryz.prog 63 #[.agg #[.string (txt nm), .int .i64 2, .slice P pn pc, .int .i64 ek, .int .i64 eo, .int .i64 vk, .int .i64 vn, .string vs, .string ns, .slice A n c, .string (txt tbl), .slice Q qn qc], .agg #[.string (txt nm), .int .i64 2, .slice none 0 0, .int .i64 ek, .int .i64 eo, .int .i64 vk, .int .i64 vn, .string vs, .string ns, .slice A n c, .string ⟨#[]⟩, .slice none 0 0]] w3 fun e w' =>e= .returned (.bool s)∧Below w3.heap.size w3 w' by
   rw [←hs]
   exact same_cons (⟨nm,2,cols,chk,tbl,refs⟩:Cn) ⟨nm,2, [],chk, [], []⟩ [.string (txt nm), .int .i64 2, .slice P pn pc, .int .i64 ek, .int .i64 eo, .int .i64 vk, .int .i64 vn, .string vs, .string ns, .slice A n c, .string (txt tbl), .slice Q qn qc] [.string (txt nm), .int .i64 2, .slice none 0 0, .int .i64 ek, .int .i64 eo, .int .i64 vk, .int .i64 vn, .string vs, .string ns, .slice A n c, .string ⟨#[]⟩, .slice none 0 0] w3 (cn_in.2 ⟨.slice P pn pc, [.int .i64 ek, .int .i64 eo, .int .i64 vk, .int .i64 vn, .string vs, .string ns, .slice A n c], .slice Q qn qc,rfl,IsRow.to (fun b g=>Nat.lt_trans g C3.out.lt) (fun p hp=>O3.out.1.cell hp) H1.out,(DtIn.to (fun b g=>Nat.lt_trans g C3.out.lt) (fun p hp=>O3.out.1.cell hp) _ _ H2.out),IsRow.to (fun b g=>Nat.lt_trans g C3.out.lt) (fun p hp=>O3.out.1.cell hp) H3.out⟩) (cn_in.2 ⟨.slice none 0 0, [.int .i64 ek, .int .i64 eo, .int .i64 vk, .int .i64 vn, .string vs, .string ns, .slice A n c], .slice none 0 0,rfl,(show IsRow w3 (fun b=>b<w3.heap.size) 1 (List.map sDt []) (.slice none 0 0) from ⟨none,0,rfl,Nat.le_refl _,by decide,fun _=>rfl,row_nil⟩),(DtIn.to (fun b g=>Nat.lt_trans g C3.out.lt) (fun p hp=>O3.out.1.cell hp) _ _ H2.out),(show IsRow w3 (fun b=>b<w3.heap.size) 1 (List.map sDt []) (.slice none 0 0) from ⟨none,0,rfl,Nat.le_refl _,by decide,fun _=>rfl,row_nil⟩)⟩))
 have HM9:=Lib.hid (show ∀W2,Below w3.heap.size w3 W2→Calls Tryz.prog 37 #[cP B, .bool s] W2 (Did B f m er (OkCn ⟨nm,2,cols,chk,tbl,refs⟩) w) from fun W2 hw=>(must_any s (C3.out.below hw)).mono fun _ _ g=>(did_pre2 (O3.out.trans (Oth.of hw (Nat.le_of_lt C3.out.lt))) Q3.out g).iff (⟨fun g=>okCn_iff.2 ⟨g.1.1,g.1.2,eqB_iff.1 (hs.trans g.2)⟩,fun g=>⟨⟨(okCn_iff.1 g).1,(okCn_iff.1 g).2.1⟩,hs.symm.trans (eqB_yes (okCn_iff.1 g).2.2)⟩⟩))
 clear hs
 go_wp2_with (first|(go_at_call 63;(with_reducible refine HS.out.mono ?_);rintro e9 w9 ⟨rfl,hb9⟩;have HM8:=Lib.hid (HM9.out w9 hb9);clear hb9)|(go_at_call 37;(with_reducible refine HM8.out.mono ?_);rintro e8 w8 ⟨rfl,HD1⟩))
 go_end0
 exact ⟨rfl,HD1⟩
end
end Go.Proofs.YtiaomhdmllhmmaaGreatDoor.Sm
namespace Go.Proofs.YtiaomhdmllhmmaaGreatDoor.Sm
open Go.RowKit Mem Ep Right Lx Go.ChangeShapes Go.WideShapes
set_option linter.unusedVariables false
section
variable {w w' :World} {B:Nat} {f:Fl} {m:Mk} {er:Int}
set_option maxRecDepth 100000 in
set_option maxHeartbeats 4000000 in
theorem constraint_3 (nm:Bs) (cols:List Bs) (chk:Ex) (tbl:Bs) (refs:List Bs) {P Q:Option Addr} {pn pc qn qc:Nat} {ek eo vk vn:Int} {vs ns:ByteArray} {A:Option Addr} {n c:Nat} (h1:IsRow w (fun b=>b<B) 1 (cols.map sDt) (.slice P pn pc)) (h2:ExIn w (fun b=>b<B) chk [.int .i64 ek, .int .i64 eo, .int .i64 vk, .int .i64 vn, .string vs, .string ns, .slice A n c]) (h3:IsRow w (fun b=>b<B) 1 (refs.map sDt) (.slice Q qn qc))
   (hf:Fine chk) (hl:cnLim ⟨nm,3,cols,chk,tbl,refs⟩) (h:Cel w B tC (ckA f m er)) (hE:CkE w B):Calls Tryz.prog 167 #[cP B, .agg #[.string (txt nm), .int .i64 3, .slice P pn pc, .int .i64 ek, .int .i64 eo, .int .i64 vk, .int .i64 vn, .string vs, .string ns, .slice A n c, .string (txt tbl), .slice Q qn qc]] w (Did B f m er (OkCn ⟨nm,3,cols,chk,tbl,refs⟩) w):=by
 have hlB:=h.lt
 obtain ⟨W1,hW1⟩:∃W1,(w.alloc (.cells #[.string (txt nm), .int .i64 3, .slice P pn pc, .int .i64 ek, .int .i64 eo, .int .i64 vk, .int .i64 vn, .string vs, .string ns, .slice A n c, .string (txt tbl), .slice Q qn qc] 56)).alloc (.cells #[.string (txt nm), .int .i64 3, .slice none 0 0, .int .i64 0, .int .i64 0, .int .i64 0, .int .i64 0, .string ⟨#[]⟩, .string ⟨#[]⟩, .slice none 0 0, .string ⟨#[]⟩, .slice none 0 0] 56)=W1:=⟨_,rfl⟩
 have hb:Below w.heap.size w W1:=by rw [←hW1];exact al (al (Below.refl _ _) _) _
 have x1:Cel W1 w.heap.size 56 #[.string (txt nm), .int .i64 3, .slice P pn pc, .int .i64 ek, .int .i64 eo, .int .i64 vk, .int .i64 vn, .string vs, .string ns, .slice A n c, .string (txt tbl), .slice Q qn qc]:=by rw [←hW1];exact (Cel.new w _ _ rfl).alloc _
 have x2:Cel W1 (w.heap.size+1) 56 #[.string (txt nm), .int .i64 3, .slice none 0 0, .int .i64 0, .int .i64 0, .int .i64 0, .int .i64 0, .string ⟨#[]⟩, .string ⟨#[]⟩, .slice none 0 0, .string ⟨#[]⟩, .slice none 0 0]:=by rw [←hW1];exact Cel.new _ _ _ (by simp)
 have C0:=Lib.hid (h.below hb)
 have O0:=Lib.hid (show Oth B w W1 from Oth.of hb (Nat.le_of_lt hlB))
 have Y0:=Lib.hid x1
 have Z0:=Lib.hid x2
 have HE:=Lib.hid (show ∀W2,Oth B w W2→CkE W2 B from fun W2 g=>hE.below g.1)
 have H1:=Lib.hid h1
 have H2:=Lib.hid h2
 have H3:=Lib.hid h3
 have HL:=Lib.hid hl
 have HF:=Lib.hid hf
 have cx0:W1.cell? ⟨w.heap.size,0,none⟩=some (.string (txt nm)):=x1.at_ 0
 have HI:=Lib.hid (show Calls Tryz.prog 163 #[cP B, .string (txt nm)] W1 (Did B f m er (isN nm) W1) from isName_any nm hl.1 C0.out (HE.out _ O0.out))
 have HW1:=Lib.hid hW1
 clear h1 h2 h3 hf hl h hE x1 x2 hb hW1
 go_enter Tryz.func167,Tryz.ntmps167
 go_upto_region 2 with fail
 rw [HW1.out]
 go_wp2_with (go_at_call 163;(with_reducible refine HI.out.mono ?_))
 rintro e1 w1 ⟨rfl,er1,hC,hO,hq⟩
 have C1:=Lib.hid hC
 have O1:=Lib.hid (O0.out.trans hO)
 have Q1:=Lib.hid (show er1=0↔er=0∧(isN nm) by rw [hq])
 have Y1:=Lib.hid (Oth.cel hO (by omega) Y0.out)
 have Z1:=Lib.hid (Oth.cel hO (by omega) Z0.out)
 clear hC hO hq
 have a1_1:w1.cell? ⟨w.heap.size,1,none⟩=some (.int .i64 3):=Y1.out.at_ 1
 have a1_2:w1.cell? ⟨w.heap.size,2,none⟩=some (.slice P pn pc):=Y1.out.at_ 2
 have a1_10:w1.cell? ⟨w.heap.size,10,none⟩=some (.string (txt tbl)):=Y1.out.at_ 10
 have a1_11:w1.cell? ⟨w.heap.size,11,none⟩=some (.slice Q qn qc):=Y1.out.at_ 11
 have z1_2:w1.cell? ⟨w.heap.size+1,2,none⟩=some (.slice none 0 0):=Z1.out.at_ 2
 have z1_10:w1.cell? ⟨w.heap.size+1,10,none⟩=some (.string ⟨#[]⟩):=Z1.out.at_ 10
 have z1_11:w1.cell? ⟨w.heap.size+1,11,none⟩=some (.slice none 0 0):=Z1.out.at_ 11
 have f1_2:=Z1.out.open_ 2
 have f1_10:=Z1.out.open_ 10
 have f1_11:=Z1.out.open_ 11
 obtain ⟨w2,hw2⟩:∃W,(((w1.setCell ⟨w.heap.size+1,2,none⟩ (.slice P pn pc)).setCell ⟨w.heap.size+1,10,none⟩ (.string (txt tbl))).setCell ⟨w.heap.size+1,11,none⟩ (.slice Q qn qc)).drew=W:=⟨_,rfl⟩
 have Z2:=Lib.hid (show Cel w2 (w.heap.size+1) 56 #[.string (txt nm), .int .i64 3, .slice P pn pc, .int .i64 0, .int .i64 0, .int .i64 0, .int .i64 0, .string ⟨#[]⟩, .string ⟨#[]⟩, .slice none 0 0, .string (txt tbl), .slice Q qn qc] by rw [←hw2];exact (Cel.set (Cel.set (Cel.set Z1.out 2 (.slice P pn pc)) 10 (.string (txt tbl))) 11 (.slice Q qn qc)))
 have Y2:=Lib.hid (show Cel w2 w.heap.size 56 #[.string (txt nm), .int .i64 3, .slice P pn pc, .int .i64 ek, .int .i64 eo, .int .i64 vk, .int .i64 vn, .string vs, .string ns, .slice A n c, .string (txt tbl), .slice Q qn qc] by rw [←hw2];exact (Cel.other (Cel.other (Cel.other Y1.out (by omega) 2 (.slice P pn pc)) (by omega) 10 (.string (txt tbl))) (by omega) 11 (.slice Q qn qc)))
 have O2:=Lib.hid (show Oth B w w2 by rw [←hw2];exact (Oth.trans (oth_new (oth_new (oth_new O1.out (by omega) (by omega) 2 (.slice P pn pc)) (by omega) (by omega) 10 (.string (txt tbl))) (by omega) (by omega) 11 (.slice Q qn qc)) (show Oth B (((w1.setCell ⟨w.heap.size+1,2,none⟩ (.slice P pn pc)).setCell ⟨w.heap.size+1,10,none⟩ (.string (txt tbl))).setCell ⟨w.heap.size+1,11,none⟩ (.slice Q qn qc)) (((w1.setCell ⟨w.heap.size+1,2,none⟩ (.slice P pn pc)).setCell ⟨w.heap.size+1,10,none⟩ (.string (txt tbl))).setCell ⟨w.heap.size+1,11,none⟩ (.slice Q qn qc)).drew from ⟨(Below.refl B (((w1.setCell ⟨w.heap.size+1,2,none⟩ (.slice P pn pc)).setCell ⟨w.heap.size+1,10,none⟩ (.string (txt tbl))).setCell ⟨w.heap.size+1,11,none⟩ (.slice Q qn qc))).drew,fun _ _ _=>rfl⟩)))
 have C2:=Lib.hid (show Cel w2 B tC (ckA f m er1) by rw [←hw2];exact (Cel.other (Cel.other (Cel.other C1.out (by omega) 2 (.slice P pn pc)) (by omega) 10 (.string (txt tbl))) (by omega) 11 (.slice Q qn qc)))
 have Q2:=Q1
 have a2_2:w2.cell? ⟨w.heap.size,2,none⟩=some (.slice P pn pc):=Y2.out.at_ 2
 go_wp2
 go_region
 have HK:=Lib.hid (show Calls Tryz.prog 191 #[cP B, .slice P pn pc] w2 (Did B f m er1 (okLn cols 1 3 isN) w2) from key_any C2.out (HE.out _ O2.out) ((isRow_ls H1.out).below O2.out.1) HL.out.2.2.1)
 go_wp2_with (go_at_call 191;(with_reducible refine HK.out.mono ?_))
 rintro e3 w3 ⟨rfl,er3,hC,hO,hq⟩
 have C3:=Lib.hid hC
 have O3:=Lib.hid (O2.out.trans hO)
 have Q3:=Lib.hid (show er3=0↔er=0∧(isN nm∧okLn cols 1 3 isN) by rw [hq,Q2.out,and_assoc])
 have Y3:=Lib.hid (Oth.cel hO (by omega) Y2.out)
 have Z3:=Lib.hid (Oth.cel hO (by omega) Z2.out)
 clear hC hO hq
 have a3_10:w3.cell? ⟨w.heap.size,10,none⟩=some (.string (txt tbl)):=Y3.out.at_ 10
 have HT:=Lib.hid (show Calls Tryz.prog 163 #[cP B, .string (txt tbl)] w3 (Did B f m er3 (isN tbl) w3) from isName_any tbl HL.out.2.1 C3.out (HE.out _ O3.out))
 go_wp2_with (go_at_call 163;(with_reducible refine HT.out.mono ?_))
 rintro e4 w4 ⟨rfl,er4,hC,hO,hq⟩
 have C4:=Lib.hid hC
 have O4:=Lib.hid (O3.out.trans hO)
 have Q4:=Lib.hid (show er4=0↔er=0∧((isN nm∧okLn cols 1 3 isN)∧isN tbl) by rw [hq,Q3.out,and_assoc])
 have Y4:=Lib.hid (Oth.cel hO (by omega) Y3.out)
 have Z4:=Lib.hid (Oth.cel hO (by omega) Z3.out)
 clear hC hO hq
 have a4_11:w4.cell? ⟨w.heap.size,11,none⟩=some (.slice Q qn qc):=Y4.out.at_ 11
 have HR:=Lib.hid (show Calls Tryz.prog 191 #[cP B, .slice Q qn qc] w4 (Did B f m er4 (okLn refs 1 3 isN) w4) from key_any C4.out (HE.out _ O4.out) ((isRow_ls H3.out).below O4.out.1) HL.out.2.2.2.1)
 go_wp2_with (go_at_call 191;(with_reducible refine HR.out.mono ?_))
 rintro e5 w5 ⟨rfl,er5,hC,hO,hq⟩
 have C5:=Lib.hid hC
 have O5:=Lib.hid (O4.out.trans hO)
 have Q5:=Lib.hid (show er5=0↔er=0∧(((isN nm∧okLn cols 1 3 isN)∧isN tbl)∧okLn refs 1 3 isN) by rw [hq,Q4.out,and_assoc])
 have Y5:=Lib.hid (Oth.cel hO (by omega) Y4.out)
 have Z5:=Lib.hid (Oth.cel hO (by omega) Z4.out)
 clear hC hO hq
 have a5_2:w5.cell? ⟨w.heap.size,2,none⟩=some (.slice P pn pc):=Y5.out.at_ 2
 have a5_11:w5.cell? ⟨w.heap.size,11,none⟩=some (.slice Q qn qc):=Y5.out.at_ 11
 obtain ⟨q,hq0⟩:∃q,((pn:Int)==(qn:Int))=q:=⟨_,rfl⟩
 have HM:=Lib.hid (show Calls Tryz.prog 37 #[cP B, .bool q] w5 (Did B f m er5 (cols.length=refs.length) w5) from (must_any q C5.out).mono fun _ _ g=>g.iff (by rw [←hq0,beq_iff_eq,(isRow_ls H1.out).1,(isRow_ls H3.out).1,List.length_map,List.length_map];omega))
 go_wp2_with (go_at_call 37;(with_reducible refine HM.out.mono ?_))
 rintro e6 w6 ⟨rfl,er6,hC,hO,hq⟩
 have C6:=Lib.hid hC
 have O6:=Lib.hid (O5.out.trans hO)
 have Q6:=Lib.hid (show er6=0↔er=0∧((((isN nm∧okLn cols 1 3 isN)∧isN tbl)∧okLn refs 1 3 isN)∧cols.length=refs.length) by rw [hq,Q5.out,and_assoc])
 have Y6:=Lib.hid (Oth.cel hO (by omega) Y5.out)
 have Z6:=Lib.hid (Oth.cel hO (by omega) Z5.out)
 clear hC hO hq
 clear hq0
 have a6_0:w6.cell? ⟨w.heap.size,0,none⟩=some (.string (txt nm)):=Y6.out.at_ 0
 have a6_1:w6.cell? ⟨w.heap.size,1,none⟩=some (.int .i64 3):=Y6.out.at_ 1
 have a6_2:w6.cell? ⟨w.heap.size,2,none⟩=some (.slice P pn pc):=Y6.out.at_ 2
 have a6_3:w6.cell? ⟨w.heap.size,3,none⟩=some (.int .i64 ek):=Y6.out.at_ 3
 have a6_4:w6.cell? ⟨w.heap.size,4,none⟩=some (.int .i64 eo):=Y6.out.at_ 4
 have a6_5:w6.cell? ⟨w.heap.size,5,none⟩=some (.int .i64 vk):=Y6.out.at_ 5
 have a6_6:w6.cell? ⟨w.heap.size,6,none⟩=some (.int .i64 vn):=Y6.out.at_ 6
 have a6_7:w6.cell? ⟨w.heap.size,7,none⟩=some (.string vs):=Y6.out.at_ 7
 have a6_8:w6.cell? ⟨w.heap.size,8,none⟩=some (.string ns):=Y6.out.at_ 8
 have a6_9:w6.cell? ⟨w.heap.size,9,none⟩=some (.slice A n c):=Y6.out.at_ 9
 have a6_10:w6.cell? ⟨w.heap.size,10,none⟩=some (.string (txt tbl)):=Y6.out.at_ 10
 have a6_11:w6.cell? ⟨w.heap.size,11,none⟩=some (.slice Q qn qc):=Y6.out.at_ 11
 have z6_0:w6.cell? ⟨w.heap.size+1,0,none⟩=some (.string (txt nm)):=Z6.out.at_ 0
 have z6_1:w6.cell? ⟨w.heap.size+1,1,none⟩=some (.int .i64 3):=Z6.out.at_ 1
 have z6_2:w6.cell? ⟨w.heap.size+1,2,none⟩=some (.slice P pn pc):=Z6.out.at_ 2
 have z6_3:w6.cell? ⟨w.heap.size+1,3,none⟩=some (.int .i64 0):=Z6.out.at_ 3
 have z6_4:w6.cell? ⟨w.heap.size+1,4,none⟩=some (.int .i64 0):=Z6.out.at_ 4
 have z6_5:w6.cell? ⟨w.heap.size+1,5,none⟩=some (.int .i64 0):=Z6.out.at_ 5
 have z6_6:w6.cell? ⟨w.heap.size+1,6,none⟩=some (.int .i64 0):=Z6.out.at_ 6
 have z6_7:w6.cell? ⟨w.heap.size+1,7,none⟩=some (.string ⟨#[]⟩):=Z6.out.at_ 7
 have z6_8:w6.cell? ⟨w.heap.size+1,8,none⟩=some (.string ⟨#[]⟩):=Z6.out.at_ 8
 have z6_9:w6.cell? ⟨w.heap.size+1,9,none⟩=some (.slice none 0 0):=Z6.out.at_ 9
 have z6_10:w6.cell? ⟨w.heap.size+1,10,none⟩=some (.string (txt tbl)):=Z6.out.at_ 10
 have z6_11:w6.cell? ⟨w.heap.size+1,11,none⟩=some (.slice Q qn qc):=Z6.out.at_ 11
 obtain ⟨s,hs⟩:∃s,eqB (⟨nm,3,cols,chk,tbl,refs⟩:Cn) ⟨nm,3,cols,noEx,tbl,refs⟩=s:=⟨_,rfl⟩
 have HS:=Lib.hid (show Calls Tryz.prog 63 #[.agg #[.string (txt nm), .int .i64 3, .slice P pn pc, .int .i64 ek, .int .i64 eo, .int .i64 vk, .int .i64 vn, .string vs, .string ns, .slice A n c, .string (txt tbl), .slice Q qn qc], .agg #[.string (txt nm), .int .i64 3, .slice P pn pc, .int .i64 0, .int .i64 0, .int .i64 0, .int .i64 0, .string ⟨#[]⟩, .string ⟨#[]⟩, .slice none 0 0, .string (txt tbl), .slice Q qn qc]] w6 fun e w' =>e= .returned (.bool s)∧Below w6.heap.size w6 w' by
   rw [←hs]
   exact same_cons (⟨nm,3,cols,chk,tbl,refs⟩:Cn) ⟨nm,3,cols,noEx,tbl,refs⟩ [.string (txt nm), .int .i64 3, .slice P pn pc, .int .i64 ek, .int .i64 eo, .int .i64 vk, .int .i64 vn, .string vs, .string ns, .slice A n c, .string (txt tbl), .slice Q qn qc] [.string (txt nm), .int .i64 3, .slice P pn pc, .int .i64 0, .int .i64 0, .int .i64 0, .int .i64 0, .string ⟨#[]⟩, .string ⟨#[]⟩, .slice none 0 0, .string (txt tbl), .slice Q qn qc] w6 (cn_in.2 ⟨.slice P pn pc, [.int .i64 ek, .int .i64 eo, .int .i64 vk, .int .i64 vn, .string vs, .string ns, .slice A n c], .slice Q qn qc,rfl,IsRow.to (fun b g=>Nat.lt_trans g C6.out.lt) (fun p hp=>O6.out.1.cell hp) H1.out,(DtIn.to (fun b g=>Nat.lt_trans g C6.out.lt) (fun p hp=>O6.out.1.cell hp) _ _ H2.out),IsRow.to (fun b g=>Nat.lt_trans g C6.out.lt) (fun p hp=>O6.out.1.cell hp) H3.out⟩) (cn_in.2 ⟨.slice P pn pc, [.int .i64 0, .int .i64 0, .int .i64 0, .int .i64 0, .string ⟨#[]⟩, .string ⟨#[]⟩, .slice none 0 0], .slice Q qn qc,rfl,(show IsRow w6 (fun b=>b<w6.heap.size) 1 (List.map sDt cols) (.slice P pn pc) from IsRow.to (fun b g=>Nat.lt_trans g C6.out.lt) (fun p hp=>O6.out.1.cell hp) H1.out),noEx_in,(show IsRow w6 (fun b=>b<w6.heap.size) 1 (List.map sDt refs) (.slice Q qn qc) from IsRow.to (fun b g=>Nat.lt_trans g C6.out.lt) (fun p hp=>O6.out.1.cell hp) H3.out)⟩))
 have HM9:=Lib.hid (show ∀W2,Below w6.heap.size w6 W2→Calls Tryz.prog 37 #[cP B, .bool s] W2 (Did B f m er (OkCn ⟨nm,3,cols,chk,tbl,refs⟩) w) from fun W2 hw=>(must_any s (C6.out.below hw)).mono fun _ _ g=>(did_pre2 (O6.out.trans (Oth.of hw (Nat.le_of_lt C6.out.lt))) Q6.out g).iff (⟨fun g=>okCn_iff.2 ⟨g.1.1.1.1.1,⟨g.1.1.1.1.2,g.1.1.1.2,g.1.1.2,g.1.2⟩,eqB_iff.1 (hs.trans g.2)⟩,fun g=>(by obtain ⟨y1,y2,y3⟩:=okCn_iff.1 g;obtain ⟨y4,y5,y6,y7⟩:=y2;exact ⟨⟨⟨⟨⟨y1,y4⟩,y5⟩,y6⟩,y7⟩,hs.symm.trans (eqB_yes y3)⟩)⟩))
 clear hs
 go_wp2_with (first|(go_at_call 63;(with_reducible refine HS.out.mono ?_);rintro e9 w9 ⟨rfl,hb9⟩;have HM8:=Lib.hid (HM9.out w9 hb9);clear hb9)|(go_at_call 37;(with_reducible refine HM8.out.mono ?_);rintro e8 w8 ⟨rfl,HD1⟩))
 go_end0
 exact ⟨rfl,HD1⟩
end
end Go.Proofs.YtiaomhdmllhmmaaGreatDoor.Sm
namespace Go.Proofs.YtiaomhdmllhmmaaGreatDoor.Sm
open Go.RowKit Mem Ep Right Lx Go.ChangeShapes Go.WideShapes
set_option linter.unusedVariables false
section
variable {w w' :World} {B:Nat} {f:Fl} {m:Mk} {er:Int}
set_option maxRecDepth 100000 in
set_option maxHeartbeats 4000000 in
theorem constraint_no (kd:Int) (nm:Bs) (cols:List Bs) (chk:Ex) (tbl:Bs) (refs:List Bs) {P Q:Option Addr} {pn pc qn qc:Nat} {ek eo vk vn:Int} {vs ns:ByteArray} {A:Option Addr} {n c:Nat} (h1:IsRow w (fun b=>b<B) 1 (cols.map sDt) (.slice P pn pc)) (h2:ExIn w (fun b=>b<B) chk [.int .i64 ek, .int .i64 eo, .int .i64 vk, .int .i64 vn, .string vs, .string ns, .slice A n c]) (h3:IsRow w (fun b=>b<B) 1 (refs.map sDt) (.slice Q qn qc))
   (hf:Fine chk) (hl:cnLim ⟨nm,kd,cols,chk,tbl,refs⟩) (h:Cel w B tC (ckA f m er)) (hE:CkE w B) (e1:kd≠1) (e2:kd≠2) (e3:kd≠3):Calls Tryz.prog 167 #[cP B, .agg #[.string (txt nm), .int .i64 kd, .slice P pn pc, .int .i64 ek, .int .i64 eo, .int .i64 vk, .int .i64 vn, .string vs, .string ns, .slice A n c, .string (txt tbl), .slice Q qn qc]] w (Did B f m er (OkCn ⟨nm,kd,cols,chk,tbl,refs⟩) w):=by
 have hlB:=h.lt
 obtain ⟨W1,hW1⟩:∃W1,(w.alloc (.cells #[.string (txt nm), .int .i64 kd, .slice P pn pc, .int .i64 ek, .int .i64 eo, .int .i64 vk, .int .i64 vn, .string vs, .string ns, .slice A n c, .string (txt tbl), .slice Q qn qc] 56)).alloc (.cells #[.string (txt nm), .int .i64 kd, .slice none 0 0, .int .i64 0, .int .i64 0, .int .i64 0, .int .i64 0, .string ⟨#[]⟩, .string ⟨#[]⟩, .slice none 0 0, .string ⟨#[]⟩, .slice none 0 0] 56)=W1:=⟨_,rfl⟩
 have hb:Below w.heap.size w W1:=by rw [←hW1];exact al (al (Below.refl _ _) _) _
 have x1:Cel W1 w.heap.size 56 #[.string (txt nm), .int .i64 kd, .slice P pn pc, .int .i64 ek, .int .i64 eo, .int .i64 vk, .int .i64 vn, .string vs, .string ns, .slice A n c, .string (txt tbl), .slice Q qn qc]:=by rw [←hW1];exact (Cel.new w _ _ rfl).alloc _
 have x2:Cel W1 (w.heap.size+1) 56 #[.string (txt nm), .int .i64 kd, .slice none 0 0, .int .i64 0, .int .i64 0, .int .i64 0, .int .i64 0, .string ⟨#[]⟩, .string ⟨#[]⟩, .slice none 0 0, .string ⟨#[]⟩, .slice none 0 0]:=by rw [←hW1];exact Cel.new _ _ _ (by simp)
 have C0:=Lib.hid (h.below hb)
 have O0:=Lib.hid (show Oth B w W1 from Oth.of hb (Nat.le_of_lt hlB))
 have Y0:=Lib.hid x1
 have Z0:=Lib.hid x2
 have HE:=Lib.hid (show ∀W2,Oth B w W2→CkE W2 B from fun W2 g=>hE.below g.1)
 have H1:=Lib.hid h1
 have H2:=Lib.hid h2
 have H3:=Lib.hid h3
 have HL:=Lib.hid hl
 have HF:=Lib.hid hf
 have cx0:W1.cell? ⟨w.heap.size,0,none⟩=some (.string (txt nm)):=x1.at_ 0
 have HI:=Lib.hid (show Calls Tryz.prog 163 #[cP B, .string (txt nm)] W1 (Did B f m er (isN nm) W1) from isName_any nm hl.1 C0.out (HE.out _ O0.out))
 have HW1:=Lib.hid hW1
 clear h1 h2 h3 hf hl h hE x1 x2 hb hW1
 go_enter Tryz.func167,Tryz.ntmps167
 go_upto_region 2 with fail
 rw [HW1.out]
 go_wp2_with (go_at_call 163;(with_reducible refine HI.out.mono ?_))
 rintro e1 w1 ⟨rfl,er1,hC,hO,hq⟩
 have C1:=Lib.hid hC
 have O1:=Lib.hid (O0.out.trans hO)
 have Q1:=Lib.hid (show er1=0↔er=0∧(isN nm) by rw [hq])
 have Y1:=Lib.hid (Oth.cel hO (by omega) Y0.out)
 have Z1:=Lib.hid (Oth.cel hO (by omega) Z0.out)
 clear hC hO hq
 have a1_1:w1.cell? ⟨w.heap.size,1,none⟩=some (.int .i64 kd):=Y1.out.at_ 1
 have t1:(kd==1)=false:=beq_no e1
 have t2:(kd==2)=false:=beq_no e2
 have t3:(kd==3)=false:=beq_no e3
 have HM:=Lib.hid (show Calls Tryz.prog 37 #[cP B, .bool false] w1 (Did B f m er1 (false=true) w1) from must_any false C1.out)
 go_wp2_with (go_at_call 37;(with_reducible refine HM.out.mono ?_))
 rintro e2 w2 ⟨rfl,er2,hC,hO,hq⟩
 have C2:=Lib.hid hC
 have O2:=Lib.hid (O1.out.trans hO)
 have Q2:=Lib.hid (show er2=0↔er=0∧(isN nm∧(false=true)) by rw [hq,Q1.out,and_assoc])
 have Y2:=Lib.hid (Oth.cel hO (by omega) Y1.out)
 have Z2:=Lib.hid (Oth.cel hO (by omega) Z1.out)
 clear hC hO hq
 have a2_0:w2.cell? ⟨w.heap.size,0,none⟩=some (.string (txt nm)):=Y2.out.at_ 0
 have a2_1:w2.cell? ⟨w.heap.size,1,none⟩=some (.int .i64 kd):=Y2.out.at_ 1
 have a2_2:w2.cell? ⟨w.heap.size,2,none⟩=some (.slice P pn pc):=Y2.out.at_ 2
 have a2_3:w2.cell? ⟨w.heap.size,3,none⟩=some (.int .i64 ek):=Y2.out.at_ 3
 have a2_4:w2.cell? ⟨w.heap.size,4,none⟩=some (.int .i64 eo):=Y2.out.at_ 4
 have a2_5:w2.cell? ⟨w.heap.size,5,none⟩=some (.int .i64 vk):=Y2.out.at_ 5
 have a2_6:w2.cell? ⟨w.heap.size,6,none⟩=some (.int .i64 vn):=Y2.out.at_ 6
 have a2_7:w2.cell? ⟨w.heap.size,7,none⟩=some (.string vs):=Y2.out.at_ 7
 have a2_8:w2.cell? ⟨w.heap.size,8,none⟩=some (.string ns):=Y2.out.at_ 8
 have a2_9:w2.cell? ⟨w.heap.size,9,none⟩=some (.slice A n c):=Y2.out.at_ 9
 have a2_10:w2.cell? ⟨w.heap.size,10,none⟩=some (.string (txt tbl)):=Y2.out.at_ 10
 have a2_11:w2.cell? ⟨w.heap.size,11,none⟩=some (.slice Q qn qc):=Y2.out.at_ 11
 have z2_0:w2.cell? ⟨w.heap.size+1,0,none⟩=some (.string (txt nm)):=Z2.out.at_ 0
 have z2_1:w2.cell? ⟨w.heap.size+1,1,none⟩=some (.int .i64 kd):=Z2.out.at_ 1
 have z2_2:w2.cell? ⟨w.heap.size+1,2,none⟩=some (.slice none 0 0):=Z2.out.at_ 2
 have z2_3:w2.cell? ⟨w.heap.size+1,3,none⟩=some (.int .i64 0):=Z2.out.at_ 3
 have z2_4:w2.cell? ⟨w.heap.size+1,4,none⟩=some (.int .i64 0):=Z2.out.at_ 4
 have z2_5:w2.cell? ⟨w.heap.size+1,5,none⟩=some (.int .i64 0):=Z2.out.at_ 5
 have z2_6:w2.cell? ⟨w.heap.size+1,6,none⟩=some (.int .i64 0):=Z2.out.at_ 6
 have z2_7:w2.cell? ⟨w.heap.size+1,7,none⟩=some (.string ⟨#[]⟩):=Z2.out.at_ 7
 have z2_8:w2.cell? ⟨w.heap.size+1,8,none⟩=some (.string ⟨#[]⟩):=Z2.out.at_ 8
 have z2_9:w2.cell? ⟨w.heap.size+1,9,none⟩=some (.slice none 0 0):=Z2.out.at_ 9
 have z2_10:w2.cell? ⟨w.heap.size+1,10,none⟩=some (.string ⟨#[]⟩):=Z2.out.at_ 10
 have z2_11:w2.cell? ⟨w.heap.size+1,11,none⟩=some (.slice none 0 0):=Z2.out.at_ 11
 obtain ⟨s,hs⟩:∃s,eqB (⟨nm,kd,cols,chk,tbl,refs⟩:Cn) ⟨nm,kd, [],noEx, [], []⟩=s:=⟨_,rfl⟩
 have HS:=Lib.hid (show Calls Tryz.prog 63 #[.agg #[.string (txt nm), .int .i64 kd, .slice P pn pc, .int .i64 ek, .int .i64 eo, .int .i64 vk, .int .i64 vn, .string vs, .string ns, .slice A n c, .string (txt tbl), .slice Q qn qc], .agg #[.string (txt nm), .int .i64 kd, .slice none 0 0, .int .i64 0, .int .i64 0, .int .i64 0, .int .i64 0, .string ⟨#[]⟩, .string ⟨#[]⟩, .slice none 0 0, .string ⟨#[]⟩, .slice none 0 0]] w2 fun e w' =>e= .returned (.bool s)∧Below w2.heap.size w2 w' by
   rw [←hs]
   exact same_cons (⟨nm,kd,cols,chk,tbl,refs⟩:Cn) ⟨nm,kd, [],noEx, [], []⟩ [.string (txt nm), .int .i64 kd, .slice P pn pc, .int .i64 ek, .int .i64 eo, .int .i64 vk, .int .i64 vn, .string vs, .string ns, .slice A n c, .string (txt tbl), .slice Q qn qc] [.string (txt nm), .int .i64 kd, .slice none 0 0, .int .i64 0, .int .i64 0, .int .i64 0, .int .i64 0, .string ⟨#[]⟩, .string ⟨#[]⟩, .slice none 0 0, .string ⟨#[]⟩, .slice none 0 0] w2 (cn_in.2 ⟨.slice P pn pc, [.int .i64 ek, .int .i64 eo, .int .i64 vk, .int .i64 vn, .string vs, .string ns, .slice A n c], .slice Q qn qc,rfl,IsRow.to (fun b g=>Nat.lt_trans g C2.out.lt) (fun p hp=>O2.out.1.cell hp) H1.out,(DtIn.to (fun b g=>Nat.lt_trans g C2.out.lt) (fun p hp=>O2.out.1.cell hp) _ _ H2.out),IsRow.to (fun b g=>Nat.lt_trans g C2.out.lt) (fun p hp=>O2.out.1.cell hp) H3.out⟩) (cn_in.2 ⟨.slice none 0 0, [.int .i64 0, .int .i64 0, .int .i64 0, .int .i64 0, .string ⟨#[]⟩, .string ⟨#[]⟩, .slice none 0 0], .slice none 0 0,rfl,(show IsRow w2 (fun b=>b<w2.heap.size) 1 (List.map sDt []) (.slice none 0 0) from ⟨none,0,rfl,Nat.le_refl _,by decide,fun _=>rfl,row_nil⟩),noEx_in,(show IsRow w2 (fun b=>b<w2.heap.size) 1 (List.map sDt []) (.slice none 0 0) from ⟨none,0,rfl,Nat.le_refl _,by decide,fun _=>rfl,row_nil⟩)⟩))
 have HM9:=Lib.hid (show ∀W2,Below w2.heap.size w2 W2→Calls Tryz.prog 37 #[cP B, .bool s] W2 (Did B f m er (OkCn ⟨nm,kd,cols,chk,tbl,refs⟩) w) from fun W2 hw=>(must_any s (C2.out.below hw)).mono fun _ _ g=>(did_pre2 (O2.out.trans (Oth.of hw (Nat.le_of_lt C2.out.lt))) Q2.out g).iff (⟨fun g=>(by cases g.1.2),fun g=>absurd g (by intro g;cases g<;>omega)⟩))
 clear hs
 go_wp2_with (first|(go_at_call 63;(with_reducible refine HS.out.mono ?_);rintro e9 w9 ⟨rfl,hb9⟩;have HM8:=Lib.hid (HM9.out w9 hb9);clear hb9)|(go_at_call 37;(with_reducible refine HM8.out.mono ?_);rintro e8 w8 ⟨rfl,HD1⟩))
 go_end0
 exact ⟨rfl,HD1⟩
end
end Go.Proofs.YtiaomhdmllhmmaaGreatDoor.Sm
