/- What a checker asks, kind by kind: tables. What a checker asks, kind by kind: tables. -/
import Derived.Test.YtiaomhdmllhmmaaGreatDoorK24
namespace Go.Proofs.YtiaomhdmllhmmaaGreatDoor.Sm
open Go.RowKit Mem Ep Right Lx Go.ChangeShapes Go.WideShapes
set_option linter.unusedVariables false
section
variable {w w' :World} {B:Nat} {f:Fl} {m:Mk} {er:Int} {P:Prop}
set_option maxRecDepth 100000 in
set_option maxHeartbeats 4000000 in
theorem ofTable_1 {t n r:Bs} {cols:List Co} {cons:List Cn} {names:List Bs} {rows:List (List Ex)} {wh:Ex} {sets:List (Bs × Ex)} {order:List (Ex × Bool)} {limit priv:Int} {opt:Bool} {kids:List St} (hx:CkX w B f 1 t n r cols cons names rows wh sets order limit priv opt kids) (h:Cel w B tC (ckA f m0 er)):Calls Tryz.prog 56 #[cP B] w (Did B f (mOf 1) er (pOf 1 (.mk 1 t n r cols cons names rows wh sets order limit priv opt kids)) w):=by
 have hlB:=h.lt
 have C0:=Lib.hid h
 have O0:=Lib.hid (Oth.refl B w)
 have X0:=Lib.hid hx
 have HK:=Lib.hid (show f.sk=1 from hx.all.all.1.1)
 have k0:w.cell? ⟨B,0,none⟩=some (.int .i64 1):=(show w.cell? ⟨B,0,none⟩=some (.int .i64 f.sk) from h.at_ 0).trans (by rw [HK.out])
 clear h hx
 go_enter Tryz.func56,Tryz.ntmps56
 have H0:=Lib.hid (show Calls Tryz.prog 115 #[cP B] w (Did B f {m0 with t:=true} er (isN f.tt) w) from table_any C0.out X0.out.env (X0.out.all.all.1.2.1.symm▸((sLim_mk _ _ _ _ _ _ _ _ _ _ _ _ _ _ _).1 X0.out.lim).1.1.1))
 go_wp2_with (go_at_call 115;(with_reducible refine H0.out.mono ?_))
 rintro e1 w1 ⟨rfl,er1,hC,hO,hq⟩
 have C1:=Lib.hid hC
 have O1:=Lib.hid (O0.out.trans hO)
 have X1:=Lib.hid (X0.out.to hO)
 have Q1:=Lib.hid (show er1=0↔er=0∧(isN f.tt) by rw [hq])
 have k1:w1.cell? ⟨B,0,none⟩=some (.int .i64 1):=(show w1.cell? ⟨B,0,none⟩=some (.int .i64 f.sk) from hC.at_ 0).trans (by rw [HK.out])
 clear hC hO hq
 have H1:=Lib.hid (show Calls Tryz.prog 116 #[cP B, .int .i64 6] w1 (Did B f { {m0 with t:=true} with co:=true} er1 (okLn cols 1 6 okCo) w1) from cols_any 6 C1.out X1.out.env X1.out.all.all.2.1 ((sLim_mk _ _ _ _ _ _ _ _ _ _ _ _ _ _ _).1 X1.out.lim).1.2.1)
 go_wp2_with (go_at_call 116;(with_reducible refine H1.out.mono ?_))
 rintro e2 w2 ⟨rfl,er2,hC,hO,hq⟩
 have C2:=Lib.hid hC
 have O2:=Lib.hid (O1.out.trans hO)
 have X2:=Lib.hid (X1.out.to hO)
 have Q2:=Lib.hid (show er2=0↔er=0∧((isN f.tt)∧(okLn cols 1 6 okCo)) by rw [hq,Q1.out,and_assoc])
 have k2:w2.cell? ⟨B,0,none⟩=some (.int .i64 1):=(show w2.cell? ⟨B,0,none⟩=some (.int .i64 f.sk) from hC.at_ 0).trans (by rw [HK.out])
 clear hC hO hq
 have H2:=Lib.hid (show Calls Tryz.prog 117 #[cP B, .int .i64 0, .int .i64 6] w2 (Did B f { { {m0 with t:=true} with co:=true} with cn:=true} er2 (okLn cons 0 6 OkCn) w2) from cons_any 0 6 C2.out X2.out.env X2.out.all.all.2.2.1 fun x hx=>⟨(((fSt_mk _ _ _ _ _ _ _ _ _ _ _ _ _ _ _).1 X2.out.fine).1.2.2.2.1.2 x hx).2.2.2.1,((sLim_mk _ _ _ _ _ _ _ _ _ _ _ _ _ _ _).1 X2.out.lim).1.2.2.1 x hx⟩)
 go_wp2_with (go_at_call 117;(with_reducible refine H2.out.mono ?_))
 rintro e3 w3 ⟨rfl,er3,hC,hO,hq⟩
 have C3:=Lib.hid hC
 have O3:=Lib.hid (O2.out.trans hO)
 have X3:=Lib.hid (X2.out.to hO)
 have Q3:=Lib.hid (show er3=0↔er=0∧(((isN f.tt)∧(okLn cols 1 6 okCo))∧(okLn cons 0 6 OkCn)) by rw [hq,Q2.out,and_assoc])
 have k3:w3.cell? ⟨B,0,none⟩=some (.int .i64 1):=(show w3.cell? ⟨B,0,none⟩=some (.int .i64 f.sk) from hC.at_ 0).trans (by rw [HK.out])
 clear hC hO hq
 have HX:=Lib.hid (show (((isN f.tt)∧(okLn cols 1 6 okCo))∧(okLn cons 0 6 OkCn))↔pOf 1 (.mk 1 t n r cols cons names rows wh sets order limit priv opt kids) by
   obtain ⟨⟨e0,e1,e2,e3,e4,e5,e6⟩, -⟩:=X0.out.all.all
   simp only [e1,and_assoc]
   exact Iff.rfl)
 have HD:=Lib.hid (show Did B f (mOf 1) er (pOf 1 (.mk 1 t n r cols cons names rows wh sets order limit priv opt kids)) w (.returned (.tuple #[])) w3 from ⟨rfl,er3,C3.out,O3.out,by rw [Q3.out,HX.out]⟩)
 clear HX
 go_wp2
 go_end0
 exact HD.out
set_option maxRecDepth 100000 in
set_option maxHeartbeats 4000000 in
theorem ofTable_2 {t n r:Bs} {cols:List Co} {cons:List Cn} {names:List Bs} {rows:List (List Ex)} {wh:Ex} {sets:List (Bs × Ex)} {order:List (Ex × Bool)} {limit priv:Int} {opt:Bool} {kids:List St} (hx:CkX w B f 2 t n r cols cons names rows wh sets order limit priv opt kids) (h:Cel w B tC (ckA f m0 er)):Calls Tryz.prog 56 #[cP B] w (Did B f (mOf 2) er (pOf 2 (.mk 2 t n r cols cons names rows wh sets order limit priv opt kids)) w):=by
 have hlB:=h.lt
 have C0:=Lib.hid h
 have O0:=Lib.hid (Oth.refl B w)
 have X0:=Lib.hid hx
 have HK:=Lib.hid (show f.sk=2 from hx.all.all.1.1)
 have k0:w.cell? ⟨B,0,none⟩=some (.int .i64 2):=(show w.cell? ⟨B,0,none⟩=some (.int .i64 f.sk) from h.at_ 0).trans (by rw [HK.out])
 clear h hx
 go_enter Tryz.func56,Tryz.ntmps56
 have H0:=Lib.hid (show Calls Tryz.prog 115 #[cP B] w (Did B f {m0 with t:=true} er (isN f.tt) w) from table_any C0.out X0.out.env (X0.out.all.all.1.2.1.symm▸((sLim_mk _ _ _ _ _ _ _ _ _ _ _ _ _ _ _).1 X0.out.lim).1.1.1))
 go_wp2_with (go_at_call 115;(with_reducible refine H0.out.mono ?_))
 rintro e1 w1 ⟨rfl,er1,hC,hO,hq⟩
 have C1:=Lib.hid hC
 have O1:=Lib.hid (O0.out.trans hO)
 have X1:=Lib.hid (X0.out.to hO)
 have Q1:=Lib.hid (show er1=0↔er=0∧(isN f.tt) by rw [hq])
 have k1:w1.cell? ⟨B,0,none⟩=some (.int .i64 2):=(show w1.cell? ⟨B,0,none⟩=some (.int .i64 f.sk) from hC.at_ 0).trans (by rw [HK.out])
 clear hC hO hq
 have HX:=Lib.hid (show (isN f.tt)↔pOf 2 (.mk 2 t n r cols cons names rows wh sets order limit priv opt kids) by
   obtain ⟨⟨e0,e1,e2,e3,e4,e5,e6⟩, -⟩:=X0.out.all.all
   simp only [e1]
   exact Iff.rfl)
 have HD:=Lib.hid (show Did B f (mOf 2) er (pOf 2 (.mk 2 t n r cols cons names rows wh sets order limit priv opt kids)) w (.returned (.tuple #[])) w1 from ⟨rfl,er1,C1.out,O1.out,by rw [Q1.out,HX.out]⟩)
 clear HX
 go_wp2
 go_end0
 exact HD.out
set_option maxRecDepth 100000 in
set_option maxHeartbeats 4000000 in
theorem ofTable_3 {t n r:Bs} {cols:List Co} {cons:List Cn} {names:List Bs} {rows:List (List Ex)} {wh:Ex} {sets:List (Bs × Ex)} {order:List (Ex × Bool)} {limit priv:Int} {opt:Bool} {kids:List St} (hx:CkX w B f 3 t n r cols cons names rows wh sets order limit priv opt kids) (h:Cel w B tC (ckA f m0 er)):Calls Tryz.prog 56 #[cP B] w (Did B f (mOf 3) er (pOf 3 (.mk 3 t n r cols cons names rows wh sets order limit priv opt kids)) w):=by
 have hlB:=h.lt
 have C0:=Lib.hid h
 have O0:=Lib.hid (Oth.refl B w)
 have X0:=Lib.hid hx
 have HK:=Lib.hid (show f.sk=3 from hx.all.all.1.1)
 have k0:w.cell? ⟨B,0,none⟩=some (.int .i64 3):=(show w.cell? ⟨B,0,none⟩=some (.int .i64 f.sk) from h.at_ 0).trans (by rw [HK.out])
 clear h hx
 go_enter Tryz.func56,Tryz.ntmps56
 have H0:=Lib.hid (show Calls Tryz.prog 115 #[cP B] w (Did B f {m0 with t:=true} er (isN f.tt) w) from table_any C0.out X0.out.env (X0.out.all.all.1.2.1.symm▸((sLim_mk _ _ _ _ _ _ _ _ _ _ _ _ _ _ _).1 X0.out.lim).1.1.1))
 go_wp2_with (go_at_call 115;(with_reducible refine H0.out.mono ?_))
 rintro e1 w1 ⟨rfl,er1,hC,hO,hq⟩
 have C1:=Lib.hid hC
 have O1:=Lib.hid (O0.out.trans hO)
 have X1:=Lib.hid (X0.out.to hO)
 have Q1:=Lib.hid (show er1=0↔er=0∧(isN f.tt) by rw [hq])
 have k1:w1.cell? ⟨B,0,none⟩=some (.int .i64 3):=(show w1.cell? ⟨B,0,none⟩=some (.int .i64 f.sk) from hC.at_ 0).trans (by rw [HK.out])
 clear hC hO hq
 have H1:=Lib.hid (show Calls Tryz.prog 116 #[cP B, .int .i64 1] w1 (Did B f { {m0 with t:=true} with co:=true} er1 (okLn cols 1 1 okCo) w1) from cols_any 1 C1.out X1.out.env X1.out.all.all.2.1 ((sLim_mk _ _ _ _ _ _ _ _ _ _ _ _ _ _ _).1 X1.out.lim).1.2.1)
 go_wp2_with (go_at_call 116;(with_reducible refine H1.out.mono ?_))
 rintro e2 w2 ⟨rfl,er2,hC,hO,hq⟩
 have C2:=Lib.hid hC
 have O2:=Lib.hid (O1.out.trans hO)
 have X2:=Lib.hid (X1.out.to hO)
 have Q2:=Lib.hid (show er2=0↔er=0∧((isN f.tt)∧(okLn cols 1 1 okCo)) by rw [hq,Q1.out,and_assoc])
 have k2:w2.cell? ⟨B,0,none⟩=some (.int .i64 3):=(show w2.cell? ⟨B,0,none⟩=some (.int .i64 f.sk) from hC.at_ 0).trans (by rw [HK.out])
 clear hC hO hq
 have HX:=Lib.hid (show ((isN f.tt)∧(okLn cols 1 1 okCo))↔pOf 3 (.mk 3 t n r cols cons names rows wh sets order limit priv opt kids) by
   obtain ⟨⟨e0,e1,e2,e3,e4,e5,e6⟩, -⟩:=X0.out.all.all
   simp only [e1]
   exact Iff.rfl)
 have HD:=Lib.hid (show Did B f (mOf 3) er (pOf 3 (.mk 3 t n r cols cons names rows wh sets order limit priv opt kids)) w (.returned (.tuple #[])) w2 from ⟨rfl,er2,C2.out,O2.out,by rw [Q2.out,HX.out]⟩)
 clear HX
 go_wp2
 go_end0
 exact HD.out
set_option maxRecDepth 100000 in
set_option maxHeartbeats 4000000 in
theorem ofTable_4 {t n r:Bs} {cols:List Co} {cons:List Cn} {names:List Bs} {rows:List (List Ex)} {wh:Ex} {sets:List (Bs × Ex)} {order:List (Ex × Bool)} {limit priv:Int} {opt:Bool} {kids:List St} (hx:CkX w B f 4 t n r cols cons names rows wh sets order limit priv opt kids) (h:Cel w B tC (ckA f m0 er)):Calls Tryz.prog 56 #[cP B] w (Did B f (mOf 4) er (pOf 4 (.mk 4 t n r cols cons names rows wh sets order limit priv opt kids)) w):=by
 have hlB:=h.lt
 have C0:=Lib.hid h
 have O0:=Lib.hid (Oth.refl B w)
 have X0:=Lib.hid hx
 have HK:=Lib.hid (show f.sk=4 from hx.all.all.1.1)
 have k0:w.cell? ⟨B,0,none⟩=some (.int .i64 4):=(show w.cell? ⟨B,0,none⟩=some (.int .i64 f.sk) from h.at_ 0).trans (by rw [HK.out])
 clear h hx
 go_enter Tryz.func56,Tryz.ntmps56
 have H0:=Lib.hid (show Calls Tryz.prog 115 #[cP B] w (Did B f {m0 with t:=true} er (isN f.tt) w) from table_any C0.out X0.out.env (X0.out.all.all.1.2.1.symm▸((sLim_mk _ _ _ _ _ _ _ _ _ _ _ _ _ _ _).1 X0.out.lim).1.1.1))
 go_wp2_with (go_at_call 115;(with_reducible refine H0.out.mono ?_))
 rintro e1 w1 ⟨rfl,er1,hC,hO,hq⟩
 have C1:=Lib.hid hC
 have O1:=Lib.hid (O0.out.trans hO)
 have X1:=Lib.hid (X0.out.to hO)
 have Q1:=Lib.hid (show er1=0↔er=0∧(isN f.tt) by rw [hq])
 have k1:w1.cell? ⟨B,0,none⟩=some (.int .i64 4):=(show w1.cell? ⟨B,0,none⟩=some (.int .i64 f.sk) from hC.at_ 0).trans (by rw [HK.out])
 clear hC hO hq
 have H1:=Lib.hid (show Calls Tryz.prog 118 #[cP B] w1 (Did B f { {m0 with t:=true} with n:=true} er1 (isN f.tn) w1) from name_any C1.out X1.out.env (X1.out.all.all.1.2.2.1.symm▸((sLim_mk _ _ _ _ _ _ _ _ _ _ _ _ _ _ _).1 X1.out.lim).1.1.2.1))
 go_wp2_with (go_at_call 118;(with_reducible refine H1.out.mono ?_))
 rintro e2 w2 ⟨rfl,er2,hC,hO,hq⟩
 have C2:=Lib.hid hC
 have O2:=Lib.hid (O1.out.trans hO)
 have X2:=Lib.hid (X1.out.to hO)
 have Q2:=Lib.hid (show er2=0↔er=0∧((isN f.tt)∧(isN f.tn)) by rw [hq,Q1.out,and_assoc])
 have k2:w2.cell? ⟨B,0,none⟩=some (.int .i64 4):=(show w2.cell? ⟨B,0,none⟩=some (.int .i64 f.sk) from hC.at_ 0).trans (by rw [HK.out])
 clear hC hO hq
 have HX:=Lib.hid (show ((isN f.tt)∧(isN f.tn))↔pOf 4 (.mk 4 t n r cols cons names rows wh sets order limit priv opt kids) by
   obtain ⟨⟨e0,e1,e2,e3,e4,e5,e6⟩, -⟩:=X0.out.all.all
   simp only [e1,e2]
   exact Iff.rfl)
 have HD:=Lib.hid (show Did B f (mOf 4) er (pOf 4 (.mk 4 t n r cols cons names rows wh sets order limit priv opt kids)) w (.returned (.tuple #[])) w2 from ⟨rfl,er2,C2.out,O2.out,by rw [Q2.out,HX.out]⟩)
 clear HX
 go_wp2
 go_end0
 exact HD.out
set_option maxRecDepth 100000 in
set_option maxHeartbeats 4000000 in
theorem ofTable_5 {t n r:Bs} {cols:List Co} {cons:List Cn} {names:List Bs} {rows:List (List Ex)} {wh:Ex} {sets:List (Bs × Ex)} {order:List (Ex × Bool)} {limit priv:Int} {opt:Bool} {kids:List St} (hx:CkX w B f 5 t n r cols cons names rows wh sets order limit priv opt kids) (h:Cel w B tC (ckA f m0 er)):Calls Tryz.prog 56 #[cP B] w (Did B f (mOf 5) er (pOf 5 (.mk 5 t n r cols cons names rows wh sets order limit priv opt kids)) w):=by
 have hlB:=h.lt
 have C0:=Lib.hid h
 have O0:=Lib.hid (Oth.refl B w)
 have X0:=Lib.hid hx
 have HK:=Lib.hid (show f.sk=5 from hx.all.all.1.1)
 have k0:w.cell? ⟨B,0,none⟩=some (.int .i64 5):=(show w.cell? ⟨B,0,none⟩=some (.int .i64 f.sk) from h.at_ 0).trans (by rw [HK.out])
 clear h hx
 go_enter Tryz.func56,Tryz.ntmps56
 have H0:=Lib.hid (show Calls Tryz.prog 115 #[cP B] w (Did B f {m0 with t:=true} er (isN f.tt) w) from table_any C0.out X0.out.env (X0.out.all.all.1.2.1.symm▸((sLim_mk _ _ _ _ _ _ _ _ _ _ _ _ _ _ _).1 X0.out.lim).1.1.1))
 go_wp2_with (go_at_call 115;(with_reducible refine H0.out.mono ?_))
 rintro e1 w1 ⟨rfl,er1,hC,hO,hq⟩
 have C1:=Lib.hid hC
 have O1:=Lib.hid (O0.out.trans hO)
 have X1:=Lib.hid (X0.out.to hO)
 have Q1:=Lib.hid (show er1=0↔er=0∧(isN f.tt) by rw [hq])
 have k1:w1.cell? ⟨B,0,none⟩=some (.int .i64 5):=(show w1.cell? ⟨B,0,none⟩=some (.int .i64 f.sk) from hC.at_ 0).trans (by rw [HK.out])
 clear hC hO hq
 have H1:=Lib.hid (show Calls Tryz.prog 118 #[cP B] w1 (Did B f { {m0 with t:=true} with n:=true} er1 (isN f.tn) w1) from name_any C1.out X1.out.env (X1.out.all.all.1.2.2.1.symm▸((sLim_mk _ _ _ _ _ _ _ _ _ _ _ _ _ _ _).1 X1.out.lim).1.1.2.1))
 go_wp2_with (go_at_call 118;(with_reducible refine H1.out.mono ?_))
 rintro e2 w2 ⟨rfl,er2,hC,hO,hq⟩
 have C2:=Lib.hid hC
 have O2:=Lib.hid (O1.out.trans hO)
 have X2:=Lib.hid (X1.out.to hO)
 have Q2:=Lib.hid (show er2=0↔er=0∧((isN f.tt)∧(isN f.tn)) by rw [hq,Q1.out,and_assoc])
 have k2:w2.cell? ⟨B,0,none⟩=some (.int .i64 5):=(show w2.cell? ⟨B,0,none⟩=some (.int .i64 f.sk) from hC.at_ 0).trans (by rw [HK.out])
 clear hC hO hq
 have HX:=Lib.hid (show ((isN f.tt)∧(isN f.tn))↔pOf 5 (.mk 5 t n r cols cons names rows wh sets order limit priv opt kids) by
   obtain ⟨⟨e0,e1,e2,e3,e4,e5,e6⟩, -⟩:=X0.out.all.all
   simp only [e1,e2]
   exact Iff.rfl)
 have HD:=Lib.hid (show Did B f (mOf 5) er (pOf 5 (.mk 5 t n r cols cons names rows wh sets order limit priv opt kids)) w (.returned (.tuple #[])) w2 from ⟨rfl,er2,C2.out,O2.out,by rw [Q2.out,HX.out]⟩)
 clear HX
 go_wp2
 go_end0
 exact HD.out
set_option maxRecDepth 100000 in
set_option maxHeartbeats 4000000 in
theorem ofTable_lo {k:Int} (hk:k≤0) {t n r:Bs} {cols:List Co} {cons:List Cn} {names:List Bs} {rows:List (List Ex)} {wh:Ex} {sets:List (Bs × Ex)} {order:List (Ex × Bool)} {limit priv:Int} {opt:Bool} {kids:List St} (hx:CkX w B f k t n r cols cons names rows wh sets order limit priv opt kids) (h:Cel w B tC (ckA f m0 er)):Calls Tryz.prog 56 #[cP B] w (Did B f (mOf k) er (pOf k (.mk k t n r cols cons names rows wh sets order limit priv opt kids)) w):=by
 have hlB:=h.lt
 have C0:=Lib.hid h
 have O0:=Lib.hid (Oth.refl B w)
 have X0:=Lib.hid hx
 have HK:=Lib.hid (show f.sk=k from hx.all.all.1.1)
 have k0:w.cell? ⟨B,0,none⟩=some (.int .i64 k):=(show w.cell? ⟨B,0,none⟩=some (.int .i64 f.sk) from h.at_ 0).trans (by rw [HK.out])
 have t1:(k==1)=false:=beq_no (by omega)
 have t2:(k==2)=false:=beq_no (by omega)
 have t3:(k==3)=false:=beq_no (by omega)
 have t4:(k==4)=false:=beq_no (by omega)
 have t5:(k==5)=false:=beq_no (by omega)
 have t7:(k==7)=false:=beq_no (by omega)
 have t9:(k==9)=false:=beq_no (by omega)
 have t6:(k==6)=false:=beq_no (by omega)
 have t8:(k==8)=false:=beq_no (by omega)
 clear h hx
 go_enter Tryz.func56,Tryz.ntmps56
 have H0:=Lib.hid (show Calls Tryz.prog 115 #[cP B] w (Did B f {m0 with t:=true} er (isN f.tt) w) from table_any C0.out X0.out.env (X0.out.all.all.1.2.1.symm▸((sLim_mk _ _ _ _ _ _ _ _ _ _ _ _ _ _ _).1 X0.out.lim).1.1.1))
 go_wp2_with (go_at_call 115;(with_reducible refine H0.out.mono ?_))
 rintro e1 w1 ⟨rfl,er1,hC,hO,hq⟩
 have C1:=Lib.hid hC
 have O1:=Lib.hid (O0.out.trans hO)
 have X1:=Lib.hid (X0.out.to hO)
 have Q1:=Lib.hid (show er1=0↔er=0∧(isN f.tt) by rw [hq])
 have k1:w1.cell? ⟨B,0,none⟩=some (.int .i64 k):=(show w1.cell? ⟨B,0,none⟩=some (.int .i64 f.sk) from hC.at_ 0).trans (by rw [HK.out])
 clear hC hO hq
 have H1:=Lib.hid (show Calls Tryz.prog 37 #[cP B, .bool false] w1 (Did B f {m0 with t:=true} er1 (false=true) w1) from must_any false C1.out)
 go_wp2_with (go_at_call 37;(with_reducible refine H1.out.mono ?_))
 rintro e2 w2 ⟨rfl,er2,hC,hO,hq⟩
 have C2:=Lib.hid hC
 have O2:=Lib.hid (O1.out.trans hO)
 have X2:=Lib.hid (X1.out.to hO)
 have Q2:=Lib.hid (show er2=0↔er=0∧((isN f.tt)∧(false=true)) by rw [hq,Q1.out,and_assoc])
 have k2:w2.cell? ⟨B,0,none⟩=some (.int .i64 k):=(show w2.cell? ⟨B,0,none⟩=some (.int .i64 f.sk) from hC.at_ 0).trans (by rw [HK.out])
 clear hC hO hq
 have HX:=Lib.hid (show ((isN f.tt)∧(false=true))↔pOf k (.mk k t n r cols cons names rows wh sets order limit priv opt kids) by
   obtain ⟨⟨e0,e1,e2,e3,e4,e5,e6⟩, -⟩:=X0.out.all.all
   refine ⟨fun g=>(by cases g.2),fun g=>?_⟩
   exfalso;simp only [pOf] at g
   rw [if_neg (by omega),if_neg (by omega),if_neg (by omega),if_neg (by omega),if_neg (by omega),if_neg (by omega),if_neg (by omega),if_neg (by omega),if_neg (by omega),if_neg (by omega),if_neg (by omega),if_neg (by omega),if_neg (by omega),if_neg (by omega),if_neg (by omega),if_neg (by omega),if_neg (by omega),if_neg (by omega),if_neg (by omega),if_neg (by omega),if_neg (by omega),if_neg (by omega)] at g;exact g)
 have HD:=Lib.hid (show Did B f (mOf k) er (pOf k (.mk k t n r cols cons names rows wh sets order limit priv opt kids)) w (.returned (.tuple #[])) w2 from by rw [show mOf k=mT by unfold mOf;rw [if_neg (by omega),if_neg (by omega),if_neg (by omega),if_neg (by omega),if_neg (by omega),if_neg (by omega),if_neg (by omega),if_neg (by omega),if_neg (by omega),if_neg (by omega),if_neg (by omega),if_neg (by omega),if_neg (by omega),if_neg (by omega),if_neg (by omega),if_neg (by omega),if_neg (by omega),if_neg (by omega),if_neg (by omega),if_neg (by omega),if_neg (by omega),if_neg (by omega),if_pos (by omega)]];exact ⟨rfl,er2,C2.out,O2.out,by rw [Q2.out,HX.out]⟩)
 clear HX
 go_wp2
 go_end0
 exact HD.out
end
end Go.Proofs.YtiaomhdmllhmmaaGreatDoor.Sm
namespace Go.Proofs.YtiaomhdmllhmmaaGreatDoor.Sm
open Go.RowKit Mem Ep Right Lx Go.ChangeShapes Go.WideShapes
set_option linter.unusedVariables false
section
variable {w w' :World} {B:Nat} {f:Fl} {m:Mk} {er:Int} {P:Prop}
set_option maxRecDepth 100000 in
set_option maxHeartbeats 4000000 in
theorem ofTable_6 {t n r:Bs} {cols:List Co} {cons:List Cn} {names:List Bs} {rows:List (List Ex)} {wh:Ex} {sets:List (Bs × Ex)} {order:List (Ex × Bool)} {limit priv:Int} {opt:Bool} {kids:List St} (hx:CkX w B f 6 t n r cols cons names rows wh sets order limit priv opt kids) (h:Cel w B tC (ckA f m0 er)):Calls Tryz.prog 56 #[cP B] w (Did B f (mOf 6) er (pOf 6 (.mk 6 t n r cols cons names rows wh sets order limit priv opt kids)) w):=by
 have hlB:=h.lt
 have C0:=Lib.hid h
 have O0:=Lib.hid (Oth.refl B w)
 have X0:=Lib.hid hx
 have HK:=Lib.hid (show f.sk=6 from hx.all.all.1.1)
 have k0:w.cell? ⟨B,0,none⟩=some (.int .i64 6):=(show w.cell? ⟨B,0,none⟩=some (.int .i64 f.sk) from h.at_ 0).trans (by rw [HK.out])
 clear h hx
 go_enter Tryz.func56,Tryz.ntmps56
 have H0:=Lib.hid (show Calls Tryz.prog 115 #[cP B] w (Did B f {m0 with t:=true} er (isN f.tt) w) from table_any C0.out X0.out.env (X0.out.all.all.1.2.1.symm▸((sLim_mk _ _ _ _ _ _ _ _ _ _ _ _ _ _ _).1 X0.out.lim).1.1.1))
 go_wp2_with (go_at_call 115;(with_reducible refine H0.out.mono ?_))
 rintro e1 w1 ⟨rfl,er1,hC,hO,hq⟩
 have C1:=Lib.hid hC
 have O1:=Lib.hid (O0.out.trans hO)
 have X1:=Lib.hid (X0.out.to hO)
 have Q1:=Lib.hid (show er1=0↔er=0∧(isN f.tt) by rw [hq])
 have k1:w1.cell? ⟨B,0,none⟩=some (.int .i64 6):=(show w1.cell? ⟨B,0,none⟩=some (.int .i64 f.sk) from hC.at_ 0).trans (by rw [HK.out])
 clear hC hO hq
 have H1:=Lib.hid (show Calls Tryz.prog 117 #[cP B, .int .i64 1, .int .i64 1] w1 (Did B f { {m0 with t:=true} with cn:=true} er1 (okLn cons 1 1 OkCn) w1) from cons_any 1 1 C1.out X1.out.env X1.out.all.all.2.2.1 fun x hx=>⟨(((fSt_mk _ _ _ _ _ _ _ _ _ _ _ _ _ _ _).1 X1.out.fine).1.2.2.2.1.2 x hx).2.2.2.1,((sLim_mk _ _ _ _ _ _ _ _ _ _ _ _ _ _ _).1 X1.out.lim).1.2.2.1 x hx⟩)
 go_wp2_with (go_at_call 117;(with_reducible refine H1.out.mono ?_))
 rintro e2 w2 ⟨rfl,er2,hC,hO,hq⟩
 have C2:=Lib.hid hC
 have O2:=Lib.hid (O1.out.trans hO)
 have X2:=Lib.hid (X1.out.to hO)
 have Q2:=Lib.hid (show er2=0↔er=0∧((isN f.tt)∧(okLn cons 1 1 OkCn)) by rw [hq,Q1.out,and_assoc])
 have k2:w2.cell? ⟨B,0,none⟩=some (.int .i64 6):=(show w2.cell? ⟨B,0,none⟩=some (.int .i64 f.sk) from hC.at_ 0).trans (by rw [HK.out])
 clear hC hO hq
 have HX:=Lib.hid (show ((isN f.tt)∧(okLn cons 1 1 OkCn))↔pOf 6 (.mk 6 t n r cols cons names rows wh sets order limit priv opt kids) by
   obtain ⟨⟨e0,e1,e2,e3,e4,e5,e6⟩, -⟩:=X0.out.all.all
   simp only [e1]
   exact Iff.rfl)
 have HD:=Lib.hid (show Did B f (mOf 6) er (pOf 6 (.mk 6 t n r cols cons names rows wh sets order limit priv opt kids)) w (.returned (.tuple #[])) w2 from ⟨rfl,er2,C2.out,O2.out,by rw [Q2.out,HX.out]⟩)
 clear HX
 go_wp2
 go_end0
 exact HD.out
set_option maxRecDepth 100000 in
set_option maxHeartbeats 4000000 in
theorem ofTable_7 {t n r:Bs} {cols:List Co} {cons:List Cn} {names:List Bs} {rows:List (List Ex)} {wh:Ex} {sets:List (Bs × Ex)} {order:List (Ex × Bool)} {limit priv:Int} {opt:Bool} {kids:List St} (hx:CkX w B f 7 t n r cols cons names rows wh sets order limit priv opt kids) (h:Cel w B tC (ckA f m0 er)):Calls Tryz.prog 56 #[cP B] w (Did B f (mOf 7) er (pOf 7 (.mk 7 t n r cols cons names rows wh sets order limit priv opt kids)) w):=by
 have hlB:=h.lt
 have C0:=Lib.hid h
 have O0:=Lib.hid (Oth.refl B w)
 have X0:=Lib.hid hx
 have HK:=Lib.hid (show f.sk=7 from hx.all.all.1.1)
 have k0:w.cell? ⟨B,0,none⟩=some (.int .i64 7):=(show w.cell? ⟨B,0,none⟩=some (.int .i64 f.sk) from h.at_ 0).trans (by rw [HK.out])
 clear h hx
 go_enter Tryz.func56,Tryz.ntmps56
 have H0:=Lib.hid (show Calls Tryz.prog 115 #[cP B] w (Did B f {m0 with t:=true} er (isN f.tt) w) from table_any C0.out X0.out.env (X0.out.all.all.1.2.1.symm▸((sLim_mk _ _ _ _ _ _ _ _ _ _ _ _ _ _ _).1 X0.out.lim).1.1.1))
 go_wp2_with (go_at_call 115;(with_reducible refine H0.out.mono ?_))
 rintro e1 w1 ⟨rfl,er1,hC,hO,hq⟩
 have C1:=Lib.hid hC
 have O1:=Lib.hid (O0.out.trans hO)
 have X1:=Lib.hid (X0.out.to hO)
 have Q1:=Lib.hid (show er1=0↔er=0∧(isN f.tt) by rw [hq])
 have k1:w1.cell? ⟨B,0,none⟩=some (.int .i64 7):=(show w1.cell? ⟨B,0,none⟩=some (.int .i64 f.sk) from hC.at_ 0).trans (by rw [HK.out])
 clear hC hO hq
 have H1:=Lib.hid (show Calls Tryz.prog 118 #[cP B] w1 (Did B f { {m0 with t:=true} with n:=true} er1 (isN f.tn) w1) from name_any C1.out X1.out.env (X1.out.all.all.1.2.2.1.symm▸((sLim_mk _ _ _ _ _ _ _ _ _ _ _ _ _ _ _).1 X1.out.lim).1.1.2.1))
 go_wp2_with (go_at_call 118;(with_reducible refine H1.out.mono ?_))
 rintro e2 w2 ⟨rfl,er2,hC,hO,hq⟩
 have C2:=Lib.hid hC
 have O2:=Lib.hid (O1.out.trans hO)
 have X2:=Lib.hid (X1.out.to hO)
 have Q2:=Lib.hid (show er2=0↔er=0∧((isN f.tt)∧(isN f.tn)) by rw [hq,Q1.out,and_assoc])
 have k2:w2.cell? ⟨B,0,none⟩=some (.int .i64 7):=(show w2.cell? ⟨B,0,none⟩=some (.int .i64 f.sk) from hC.at_ 0).trans (by rw [HK.out])
 clear hC hO hq
 have HX:=Lib.hid (show ((isN f.tt)∧(isN f.tn))↔pOf 7 (.mk 7 t n r cols cons names rows wh sets order limit priv opt kids) by
   obtain ⟨⟨e0,e1,e2,e3,e4,e5,e6⟩, -⟩:=X0.out.all.all
   simp only [e1,e2]
   exact Iff.rfl)
 have HD:=Lib.hid (show Did B f (mOf 7) er (pOf 7 (.mk 7 t n r cols cons names rows wh sets order limit priv opt kids)) w (.returned (.tuple #[])) w2 from ⟨rfl,er2,C2.out,O2.out,by rw [Q2.out,HX.out]⟩)
 clear HX
 go_wp2
 go_end0
 exact HD.out
set_option maxRecDepth 100000 in
set_option maxHeartbeats 4000000 in
theorem ofTable_8 {t n r:Bs} {cols:List Co} {cons:List Cn} {names:List Bs} {rows:List (List Ex)} {wh:Ex} {sets:List (Bs × Ex)} {order:List (Ex × Bool)} {limit priv:Int} {opt:Bool} {kids:List St} (hx:CkX w B f 8 t n r cols cons names rows wh sets order limit priv opt kids) (h:Cel w B tC (ckA f m0 er)):Calls Tryz.prog 56 #[cP B] w (Did B f (mOf 8) er (pOf 8 (.mk 8 t n r cols cons names rows wh sets order limit priv opt kids)) w):=by
 have hlB:=h.lt
 have C0:=Lib.hid h
 have O0:=Lib.hid (Oth.refl B w)
 have X0:=Lib.hid hx
 have HK:=Lib.hid (show f.sk=8 from hx.all.all.1.1)
 have k0:w.cell? ⟨B,0,none⟩=some (.int .i64 8):=(show w.cell? ⟨B,0,none⟩=some (.int .i64 f.sk) from h.at_ 0).trans (by rw [HK.out])
 clear h hx
 go_enter Tryz.func56,Tryz.ntmps56
 have H0:=Lib.hid (show Calls Tryz.prog 115 #[cP B] w (Did B f {m0 with t:=true} er (isN f.tt) w) from table_any C0.out X0.out.env (X0.out.all.all.1.2.1.symm▸((sLim_mk _ _ _ _ _ _ _ _ _ _ _ _ _ _ _).1 X0.out.lim).1.1.1))
 go_wp2_with (go_at_call 115;(with_reducible refine H0.out.mono ?_))
 rintro e1 w1 ⟨rfl,er1,hC,hO,hq⟩
 have C1:=Lib.hid hC
 have O1:=Lib.hid (O0.out.trans hO)
 have X1:=Lib.hid (X0.out.to hO)
 have Q1:=Lib.hid (show er1=0↔er=0∧(isN f.tt) by rw [hq])
 have k1:w1.cell? ⟨B,0,none⟩=some (.int .i64 8):=(show w1.cell? ⟨B,0,none⟩=some (.int .i64 f.sk) from hC.at_ 0).trans (by rw [HK.out])
 clear hC hO hq
 have H1:=Lib.hid (show Calls Tryz.prog 118 #[cP B] w1 (Did B f { {m0 with t:=true} with n:=true} er1 (isN f.tn) w1) from name_any C1.out X1.out.env (X1.out.all.all.1.2.2.1.symm▸((sLim_mk _ _ _ _ _ _ _ _ _ _ _ _ _ _ _).1 X1.out.lim).1.1.2.1))
 go_wp2_with (go_at_call 118;(with_reducible refine H1.out.mono ?_))
 rintro e2 w2 ⟨rfl,er2,hC,hO,hq⟩
 have C2:=Lib.hid hC
 have O2:=Lib.hid (O1.out.trans hO)
 have X2:=Lib.hid (X1.out.to hO)
 have Q2:=Lib.hid (show er2=0↔er=0∧((isN f.tt)∧(isN f.tn)) by rw [hq,Q1.out,and_assoc])
 have k2:w2.cell? ⟨B,0,none⟩=some (.int .i64 8):=(show w2.cell? ⟨B,0,none⟩=some (.int .i64 f.sk) from hC.at_ 0).trans (by rw [HK.out])
 clear hC hO hq
 have H2:=Lib.hid (show Calls Tryz.prog 119 #[cP B, .int .i64 1, .int .i64 3] w2 (Did B f { { {m0 with t:=true} with n:=true} with ns:=true} er2 (okLn names 1 3 isN) w2) from names_any 1 3 C2.out X2.out.env X2.out.all.all.2.2.2.1 ((sLim_mk _ _ _ _ _ _ _ _ _ _ _ _ _ _ _).1 X2.out.lim).1.2.2.2.1)
 go_wp2_with (go_at_call 119;(with_reducible refine H2.out.mono ?_))
 rintro e3 w3 ⟨rfl,er3,hC,hO,hq⟩
 have C3:=Lib.hid hC
 have O3:=Lib.hid (O2.out.trans hO)
 have X3:=Lib.hid (X2.out.to hO)
 have Q3:=Lib.hid (show er3=0↔er=0∧(((isN f.tt)∧(isN f.tn))∧(okLn names 1 3 isN)) by rw [hq,Q2.out,and_assoc])
 have k3:w3.cell? ⟨B,0,none⟩=some (.int .i64 8):=(show w3.cell? ⟨B,0,none⟩=some (.int .i64 f.sk) from hC.at_ 0).trans (by rw [HK.out])
 clear hC hO hq
 have HX:=Lib.hid (show (((isN f.tt)∧(isN f.tn))∧(okLn names 1 3 isN))↔pOf 8 (.mk 8 t n r cols cons names rows wh sets order limit priv opt kids) by
   obtain ⟨⟨e0,e1,e2,e3,e4,e5,e6⟩, -⟩:=X0.out.all.all
   simp only [e1,e2,and_assoc]
   exact Iff.rfl)
 have HD:=Lib.hid (show Did B f (mOf 8) er (pOf 8 (.mk 8 t n r cols cons names rows wh sets order limit priv opt kids)) w (.returned (.tuple #[])) w3 from ⟨rfl,er3,C3.out,O3.out,by rw [Q3.out,HX.out]⟩)
 clear HX
 go_wp2
 go_end0
 exact HD.out
set_option maxRecDepth 100000 in
set_option maxHeartbeats 4000000 in
theorem ofTable_9 {t n r:Bs} {cols:List Co} {cons:List Cn} {names:List Bs} {rows:List (List Ex)} {wh:Ex} {sets:List (Bs × Ex)} {order:List (Ex × Bool)} {limit priv:Int} {opt:Bool} {kids:List St} (hx:CkX w B f 9 t n r cols cons names rows wh sets order limit priv opt kids) (h:Cel w B tC (ckA f m0 er)):Calls Tryz.prog 56 #[cP B] w (Did B f (mOf 9) er (pOf 9 (.mk 9 t n r cols cons names rows wh sets order limit priv opt kids)) w):=by
 have hlB:=h.lt
 have C0:=Lib.hid h
 have O0:=Lib.hid (Oth.refl B w)
 have X0:=Lib.hid hx
 have HK:=Lib.hid (show f.sk=9 from hx.all.all.1.1)
 have k0:w.cell? ⟨B,0,none⟩=some (.int .i64 9):=(show w.cell? ⟨B,0,none⟩=some (.int .i64 f.sk) from h.at_ 0).trans (by rw [HK.out])
 clear h hx
 go_enter Tryz.func56,Tryz.ntmps56
 have H0:=Lib.hid (show Calls Tryz.prog 115 #[cP B] w (Did B f {m0 with t:=true} er (isN f.tt) w) from table_any C0.out X0.out.env (X0.out.all.all.1.2.1.symm▸((sLim_mk _ _ _ _ _ _ _ _ _ _ _ _ _ _ _).1 X0.out.lim).1.1.1))
 go_wp2_with (go_at_call 115;(with_reducible refine H0.out.mono ?_))
 rintro e1 w1 ⟨rfl,er1,hC,hO,hq⟩
 have C1:=Lib.hid hC
 have O1:=Lib.hid (O0.out.trans hO)
 have X1:=Lib.hid (X0.out.to hO)
 have Q1:=Lib.hid (show er1=0↔er=0∧(isN f.tt) by rw [hq])
 have k1:w1.cell? ⟨B,0,none⟩=some (.int .i64 9):=(show w1.cell? ⟨B,0,none⟩=some (.int .i64 f.sk) from hC.at_ 0).trans (by rw [HK.out])
 clear hC hO hq
 have H1:=Lib.hid (show Calls Tryz.prog 118 #[cP B] w1 (Did B f { {m0 with t:=true} with n:=true} er1 (isN f.tn) w1) from name_any C1.out X1.out.env (X1.out.all.all.1.2.2.1.symm▸((sLim_mk _ _ _ _ _ _ _ _ _ _ _ _ _ _ _).1 X1.out.lim).1.1.2.1))
 go_wp2_with (go_at_call 118;(with_reducible refine H1.out.mono ?_))
 rintro e2 w2 ⟨rfl,er2,hC,hO,hq⟩
 have C2:=Lib.hid hC
 have O2:=Lib.hid (O1.out.trans hO)
 have X2:=Lib.hid (X1.out.to hO)
 have Q2:=Lib.hid (show er2=0↔er=0∧((isN f.tt)∧(isN f.tn)) by rw [hq,Q1.out,and_assoc])
 have k2:w2.cell? ⟨B,0,none⟩=some (.int .i64 9):=(show w2.cell? ⟨B,0,none⟩=some (.int .i64 f.sk) from hC.at_ 0).trans (by rw [HK.out])
 clear hC hO hq
 have HX:=Lib.hid (show ((isN f.tt)∧(isN f.tn))↔pOf 9 (.mk 9 t n r cols cons names rows wh sets order limit priv opt kids) by
   obtain ⟨⟨e0,e1,e2,e3,e4,e5,e6⟩, -⟩:=X0.out.all.all
   simp only [e1,e2]
   exact Iff.rfl)
 have HD:=Lib.hid (show Did B f (mOf 9) er (pOf 9 (.mk 9 t n r cols cons names rows wh sets order limit priv opt kids)) w (.returned (.tuple #[])) w2 from ⟨rfl,er2,C2.out,O2.out,by rw [Q2.out,HX.out]⟩)
 clear HX
 go_wp2
 go_end0
 exact HD.out
end
end Go.Proofs.YtiaomhdmllhmmaaGreatDoor.Sm
