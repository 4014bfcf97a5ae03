/- What a checker asks, kind by kind: rows and plans. -/
import Derived.Test.YtiaomhdmllhmmaaGreatDoorJ28
namespace Go.Proofs.YtiaomhdmllhmmaaGreatDoor.Sm
open Go.RowKit Mem Ep Right Lx Go.ChangeShapes Go.WideShapes
set_option linter.unusedVariables false
section
variable {w w' :World} {B:Nat} {f:Fl} {m:Mk} {er:Int} {P:Prop}
set_option maxRecDepth 100000 in
set_option maxHeartbeats 4000000 in
theorem ofRows_16 {t n r:Bs} {cols:List Co} {cons:List Cn} {names:List Bs} {rows:List (List Ex)} {wh:Ex} {sets:List (Bs × Ex)} {order:List (Ex × Bool)} {limit priv:Int} {opt:Bool} {kids:List St} (hx:CkX w B f 16 t n r cols cons names rows wh sets order limit priv opt kids) (h:Cel w B tC (ckA f m0 er)):Calls Tryz.prog 58 #[cP B] w (Did B f (mOf 16) er (pOf 16 (.mk 16 t n r cols cons names rows wh sets order limit priv opt kids)) w):=by
 have hlB:=h.lt
 have C0:=Lib.hid h
 have O0:=Lib.hid (Oth.refl B w)
 have X0:=Lib.hid hx
 have HK:=Lib.hid (show f.sk=16 from hx.all.all.1.1)
 have k0:w.cell? ⟨B,0,none⟩=some (.int .i64 16):=(show w.cell? ⟨B,0,none⟩=some (.int .i64 f.sk) from h.at_ 0).trans (by rw [HK.out])
 clear h hx
 go_enter Tryz.func58,Tryz.ntmps58
 have H0:=Lib.hid (show Calls Tryz.prog 115 #[cP B] w (Did B f {m0 with t:=true} er (isN f.tt) w) from table_any C0.out X0.out.env (X0.out.all.all.1.2.1.symm▸((sLim_mk _ _ _ _ _ _ _ _ _ _ _ _ _ _ _).1 X0.out.lim).1.1.1))
 go_wp2_with (go_at_call 115;(with_reducible refine H0.out.mono ?_))
 rintro e1 w1 ⟨rfl,er1,hC,hO,hq⟩
 have C1:=Lib.hid hC
 have O1:=Lib.hid (O0.out.trans hO)
 have X1:=Lib.hid (X0.out.to hO)
 have Q1:=Lib.hid (show er1=0↔er=0∧(isN f.tt) by rw [hq])
 have k1:w1.cell? ⟨B,0,none⟩=some (.int .i64 16):=(show w1.cell? ⟨B,0,none⟩=some (.int .i64 f.sk) from hC.at_ 0).trans (by rw [HK.out])
 clear hC hO hq
 have H1:=Lib.hid (show Calls Tryz.prog 119 #[cP B, .int .i64 0, .int .i64 6] w1 (Did B f { {m0 with t:=true} with ns:=true} er1 (okLn names 0 6 isN) w1) from names_any 0 6 C1.out X1.out.env X1.out.all.all.2.2.2.1 ((sLim_mk _ _ _ _ _ _ _ _ _ _ _ _ _ _ _).1 X1.out.lim).1.2.2.2.1)
 go_wp2_with (go_at_call 119;(with_reducible refine H1.out.mono ?_))
 rintro e2 w2 ⟨rfl,er2,hC,hO,hq⟩
 have C2:=Lib.hid hC
 have O2:=Lib.hid (O1.out.trans hO)
 have X2:=Lib.hid (X1.out.to hO)
 have Q2:=Lib.hid (show er2=0↔er=0∧((isN f.tt)∧(okLn names 0 6 isN)) by rw [hq,Q1.out,and_assoc])
 have k2:w2.cell? ⟨B,0,none⟩=some (.int .i64 16):=(show w2.cell? ⟨B,0,none⟩=some (.int .i64 f.sk) from hC.at_ 0).trans (by rw [HK.out])
 clear hC hO hq
 have H2:=Lib.hid (show Calls Tryz.prog 122 #[cP B, .int .i64 1, .int .i64 8, .int .i64 6] w2 (Did B f { { {m0 with t:=true} with ns:=true} with rw_:=true} er2 (okLn rows 1 8 okRw) w2) from rows_any 1 8 6 X2.out.all.all.2.2.2.2.1 (fun x hx e he=>(((fSt_mk _ _ _ _ _ _ _ _ _ _ _ _ _ _ _).1 X2.out.fine).1.2.2.2.2.2.1.2 x hx).2 e he) (fun x hx e he=>((sLim_mk _ _ _ _ _ _ _ _ _ _ _ _ _ _ _).1 X2.out.lim).1.2.2.2.2.1 x hx e he) C2.out X2.out.env)
 go_wp2_with (go_at_call 122;(with_reducible refine H2.out.mono ?_))
 rintro e3 w3 ⟨rfl,er3,hC,hO,hq⟩
 have C3:=Lib.hid hC
 have O3:=Lib.hid (O2.out.trans hO)
 have X3:=Lib.hid (X2.out.to hO)
 have Q3:=Lib.hid (show er3=0↔er=0∧(((isN f.tt)∧(okLn names 0 6 isN))∧(okLn rows 1 8 okRw)) by rw [hq,Q2.out,and_assoc])
 have k3:w3.cell? ⟨B,0,none⟩=some (.int .i64 16):=(show w3.cell? ⟨B,0,none⟩=some (.int .i64 f.sk) from hC.at_ 0).trans (by rw [HK.out])
 clear hC hO hq
 have HX:=Lib.hid (show (((isN f.tt)∧(okLn names 0 6 isN))∧(okLn rows 1 8 okRw))↔pOf 16 (.mk 16 t n r cols cons names rows wh sets order limit priv opt kids) by
   obtain ⟨⟨e0,e1,e2,e3,e4,e5,e6⟩, -⟩:=X0.out.all.all
   simp only [e1,and_assoc]
   exact Iff.rfl)
 have HD:=Lib.hid (show Did B f (mOf 16) er (pOf 16 (.mk 16 t n r cols cons names rows wh sets order limit priv opt kids)) w (.returned (.tuple #[])) w3 from ⟨rfl,er3,C3.out,O3.out,by rw [Q3.out,HX.out]⟩)
 clear HX
 go_wp2
 go_end0
 exact HD.out
set_option maxRecDepth 100000 in
set_option maxHeartbeats 4000000 in
theorem ofRows_17 {t n r:Bs} {cols:List Co} {cons:List Cn} {names:List Bs} {rows:List (List Ex)} {wh:Ex} {sets:List (Bs × Ex)} {order:List (Ex × Bool)} {limit priv:Int} {opt:Bool} {kids:List St} (hx:CkX w B f 17 t n r cols cons names rows wh sets order limit priv opt kids) (h:Cel w B tC (ckA f m0 er)):Calls Tryz.prog 58 #[cP B] w (Did B f (mOf 17) er (pOf 17 (.mk 17 t n r cols cons names rows wh sets order limit priv opt kids)) w):=by
 have hlB:=h.lt
 have C0:=Lib.hid h
 have O0:=Lib.hid (Oth.refl B w)
 have X0:=Lib.hid hx
 have HK:=Lib.hid (show f.sk=17 from hx.all.all.1.1)
 have k0:w.cell? ⟨B,0,none⟩=some (.int .i64 17):=(show w.cell? ⟨B,0,none⟩=some (.int .i64 f.sk) from h.at_ 0).trans (by rw [HK.out])
 clear h hx
 go_enter Tryz.func58,Tryz.ntmps58
 have H0:=Lib.hid (show Calls Tryz.prog 115 #[cP B] w (Did B f {m0 with t:=true} er (isN f.tt) w) from table_any C0.out X0.out.env (X0.out.all.all.1.2.1.symm▸((sLim_mk _ _ _ _ _ _ _ _ _ _ _ _ _ _ _).1 X0.out.lim).1.1.1))
 go_wp2_with (go_at_call 115;(with_reducible refine H0.out.mono ?_))
 rintro e1 w1 ⟨rfl,er1,hC,hO,hq⟩
 have C1:=Lib.hid hC
 have O1:=Lib.hid (O0.out.trans hO)
 have X1:=Lib.hid (X0.out.to hO)
 have Q1:=Lib.hid (show er1=0↔er=0∧(isN f.tt) by rw [hq])
 have k1:w1.cell? ⟨B,0,none⟩=some (.int .i64 17):=(show w1.cell? ⟨B,0,none⟩=some (.int .i64 f.sk) from hC.at_ 0).trans (by rw [HK.out])
 clear hC hO hq
 have H1:=Lib.hid (show Calls Tryz.prog 123 #[cP B] w1 (Did B f { {m0 with t:=true} with se:=true} er1 (okLn sets 1 6 okSe) w1) from sets_any X1.out.all.all.2.2.2.2.2.2.1 (fun x hx=>(((fSt_mk _ _ _ _ _ _ _ _ _ _ _ _ _ _ _).1 X1.out.fine).1.2.2.2.2.2.2.2.1.2 x hx).2) (fun x hx=>((sLim_mk _ _ _ _ _ _ _ _ _ _ _ _ _ _ _).1 X1.out.lim).1.2.2.2.2.2.2.1 x hx) C1.out X1.out.env)
 go_wp2_with (go_at_call 123;(with_reducible refine H1.out.mono ?_))
 rintro e2 w2 ⟨rfl,er2,hC,hO,hq⟩
 have C2:=Lib.hid hC
 have O2:=Lib.hid (O1.out.trans hO)
 have X2:=Lib.hid (X1.out.to hO)
 have Q2:=Lib.hid (show er2=0↔er=0∧((isN f.tt)∧(okLn sets 1 6 okSe)) by rw [hq,Q1.out,and_assoc])
 have k2:w2.cell? ⟨B,0,none⟩=some (.int .i64 17):=(show w2.cell? ⟨B,0,none⟩=some (.int .i64 f.sk) from hC.at_ 0).trans (by rw [HK.out])
 clear hC hO hq
 have H2:=Lib.hid (show Calls Tryz.prog 124 #[cP B] w2 (Did B f { { {m0 with t:=true} with se:=true} with wh:=true} er2 (okWh wh) w2) from where_any X2.out.all.all.2.2.2.2.2.1 ((fSt_mk _ _ _ _ _ _ _ _ _ _ _ _ _ _ _).1 X2.out.fine).1.2.2.2.2.2.2.1 ((sLim_mk _ _ _ _ _ _ _ _ _ _ _ _ _ _ _).1 X2.out.lim).1.2.2.2.2.2.1 C2.out X2.out.env)
 go_wp2_with (go_at_call 124;(with_reducible refine H2.out.mono ?_))
 rintro e3 w3 ⟨rfl,er3,hC,hO,hq⟩
 have C3:=Lib.hid hC
 have O3:=Lib.hid (O2.out.trans hO)
 have X3:=Lib.hid (X2.out.to hO)
 have Q3:=Lib.hid (show er3=0↔er=0∧(((isN f.tt)∧(okLn sets 1 6 okSe))∧(okWh wh)) by rw [hq,Q2.out,and_assoc])
 have k3:w3.cell? ⟨B,0,none⟩=some (.int .i64 17):=(show w3.cell? ⟨B,0,none⟩=some (.int .i64 f.sk) from hC.at_ 0).trans (by rw [HK.out])
 clear hC hO hq
 have HX:=Lib.hid (show (((isN f.tt)∧(okLn sets 1 6 okSe))∧(okWh wh))↔pOf 17 (.mk 17 t n r cols cons names rows wh sets order limit priv opt kids) by
   obtain ⟨⟨e0,e1,e2,e3,e4,e5,e6⟩, -⟩:=X0.out.all.all
   simp only [e1,and_assoc]
   exact Iff.rfl)
 have HD:=Lib.hid (show Did B f (mOf 17) er (pOf 17 (.mk 17 t n r cols cons names rows wh sets order limit priv opt kids)) w (.returned (.tuple #[])) w3 from ⟨rfl,er3,C3.out,O3.out,by rw [Q3.out,HX.out]⟩)
 clear HX
 go_wp2
 go_end0
 exact HD.out
set_option maxRecDepth 100000 in
set_option maxHeartbeats 4000000 in
theorem ofRows_18 {t n r:Bs} {cols:List Co} {cons:List Cn} {names:List Bs} {rows:List (List Ex)} {wh:Ex} {sets:List (Bs × Ex)} {order:List (Ex × Bool)} {limit priv:Int} {opt:Bool} {kids:List St} (hx:CkX w B f 18 t n r cols cons names rows wh sets order limit priv opt kids) (h:Cel w B tC (ckA f m0 er)):Calls Tryz.prog 58 #[cP B] w (Did B f (mOf 18) er (pOf 18 (.mk 18 t n r cols cons names rows wh sets order limit priv opt kids)) w):=by
 have hlB:=h.lt
 have C0:=Lib.hid h
 have O0:=Lib.hid (Oth.refl B w)
 have X0:=Lib.hid hx
 have HK:=Lib.hid (show f.sk=18 from hx.all.all.1.1)
 have k0:w.cell? ⟨B,0,none⟩=some (.int .i64 18):=(show w.cell? ⟨B,0,none⟩=some (.int .i64 f.sk) from h.at_ 0).trans (by rw [HK.out])
 clear h hx
 go_enter Tryz.func58,Tryz.ntmps58
 have H0:=Lib.hid (show Calls Tryz.prog 115 #[cP B] w (Did B f {m0 with t:=true} er (isN f.tt) w) from table_any C0.out X0.out.env (X0.out.all.all.1.2.1.symm▸((sLim_mk _ _ _ _ _ _ _ _ _ _ _ _ _ _ _).1 X0.out.lim).1.1.1))
 go_wp2_with (go_at_call 115;(with_reducible refine H0.out.mono ?_))
 rintro e1 w1 ⟨rfl,er1,hC,hO,hq⟩
 have C1:=Lib.hid hC
 have O1:=Lib.hid (O0.out.trans hO)
 have X1:=Lib.hid (X0.out.to hO)
 have Q1:=Lib.hid (show er1=0↔er=0∧(isN f.tt) by rw [hq])
 have k1:w1.cell? ⟨B,0,none⟩=some (.int .i64 18):=(show w1.cell? ⟨B,0,none⟩=some (.int .i64 f.sk) from hC.at_ 0).trans (by rw [HK.out])
 clear hC hO hq
 have H1:=Lib.hid (show Calls Tryz.prog 124 #[cP B] w1 (Did B f { {m0 with t:=true} with wh:=true} er1 (okWh wh) w1) from where_any X1.out.all.all.2.2.2.2.2.1 ((fSt_mk _ _ _ _ _ _ _ _ _ _ _ _ _ _ _).1 X1.out.fine).1.2.2.2.2.2.2.1 ((sLim_mk _ _ _ _ _ _ _ _ _ _ _ _ _ _ _).1 X1.out.lim).1.2.2.2.2.2.1 C1.out X1.out.env)
 go_wp2_with (go_at_call 124;(with_reducible refine H1.out.mono ?_))
 rintro e2 w2 ⟨rfl,er2,hC,hO,hq⟩
 have C2:=Lib.hid hC
 have O2:=Lib.hid (O1.out.trans hO)
 have X2:=Lib.hid (X1.out.to hO)
 have Q2:=Lib.hid (show er2=0↔er=0∧((isN f.tt)∧(okWh wh)) by rw [hq,Q1.out,and_assoc])
 have k2:w2.cell? ⟨B,0,none⟩=some (.int .i64 18):=(show w2.cell? ⟨B,0,none⟩=some (.int .i64 f.sk) from hC.at_ 0).trans (by rw [HK.out])
 clear hC hO hq
 have HX:=Lib.hid (show ((isN f.tt)∧(okWh wh))↔pOf 18 (.mk 18 t n r cols cons names rows wh sets order limit priv opt kids) by
   obtain ⟨⟨e0,e1,e2,e3,e4,e5,e6⟩, -⟩:=X0.out.all.all
   simp only [e1]
   exact Iff.rfl)
 have HD:=Lib.hid (show Did B f (mOf 18) er (pOf 18 (.mk 18 t n r cols cons names rows wh sets order limit priv opt kids)) w (.returned (.tuple #[])) w2 from ⟨rfl,er2,C2.out,O2.out,by rw [Q2.out,HX.out]⟩)
 clear HX
 go_wp2
 go_end0
 exact HD.out
set_option maxRecDepth 100000 in
set_option maxHeartbeats 4000000 in
theorem ofRows_19 {t n r:Bs} {cols:List Co} {cons:List Cn} {names:List Bs} {rows:List (List Ex)} {wh:Ex} {sets:List (Bs × Ex)} {order:List (Ex × Bool)} {limit priv:Int} {opt:Bool} {kids:List St} (hx:CkX w B f 19 t n r cols cons names rows wh sets order limit priv opt kids) (h:Cel w B tC (ckA f m0 er)):Calls Tryz.prog 58 #[cP B] w (Did B f (mOf 19) er (pOf 19 (.mk 19 t n r cols cons names rows wh sets order limit priv opt kids)) w):=by
 have hlB:=h.lt
 have C0:=Lib.hid h
 have O0:=Lib.hid (Oth.refl B w)
 have X0:=Lib.hid hx
 have HK:=Lib.hid (show f.sk=19 from hx.all.all.1.1)
 have k0:w.cell? ⟨B,0,none⟩=some (.int .i64 19):=(show w.cell? ⟨B,0,none⟩=some (.int .i64 f.sk) from h.at_ 0).trans (by rw [HK.out])
 clear h hx
 go_enter Tryz.func58,Tryz.ntmps58
 have H0:=Lib.hid (show Calls Tryz.prog 115 #[cP B] w (Did B f {m0 with t:=true} er (isN f.tt) w) from table_any C0.out X0.out.env (X0.out.all.all.1.2.1.symm▸((sLim_mk _ _ _ _ _ _ _ _ _ _ _ _ _ _ _).1 X0.out.lim).1.1.1))
 go_wp2_with (go_at_call 115;(with_reducible refine H0.out.mono ?_))
 rintro e1 w1 ⟨rfl,er1,hC,hO,hq⟩
 have C1:=Lib.hid hC
 have O1:=Lib.hid (O0.out.trans hO)
 have X1:=Lib.hid (X0.out.to hO)
 have Q1:=Lib.hid (show er1=0↔er=0∧(isN f.tt) by rw [hq])
 have k1:w1.cell? ⟨B,0,none⟩=some (.int .i64 19):=(show w1.cell? ⟨B,0,none⟩=some (.int .i64 f.sk) from hC.at_ 0).trans (by rw [HK.out])
 clear hC hO hq
 have H1:=Lib.hid (show Calls Tryz.prog 122 #[cP B, .int .i64 0, .int .i64 1, .int .i64 6] w1 (Did B f { {m0 with t:=true} with rw_:=true} er1 (okLn rows 0 1 okRw) w1) from rows_any 0 1 6 X1.out.all.all.2.2.2.2.1 (fun x hx e he=>(((fSt_mk _ _ _ _ _ _ _ _ _ _ _ _ _ _ _).1 X1.out.fine).1.2.2.2.2.2.1.2 x hx).2 e he) (fun x hx e he=>((sLim_mk _ _ _ _ _ _ _ _ _ _ _ _ _ _ _).1 X1.out.lim).1.2.2.2.2.1 x hx e he) C1.out X1.out.env)
 go_wp2_with (go_at_call 122;(with_reducible refine H1.out.mono ?_))
 rintro e2 w2 ⟨rfl,er2,hC,hO,hq⟩
 have C2:=Lib.hid hC
 have O2:=Lib.hid (O1.out.trans hO)
 have X2:=Lib.hid (X1.out.to hO)
 have Q2:=Lib.hid (show er2=0↔er=0∧((isN f.tt)∧(okLn rows 0 1 okRw)) by rw [hq,Q1.out,and_assoc])
 have k2:w2.cell? ⟨B,0,none⟩=some (.int .i64 19):=(show w2.cell? ⟨B,0,none⟩=some (.int .i64 f.sk) from hC.at_ 0).trans (by rw [HK.out])
 clear hC hO hq
 have H2:=Lib.hid (show Calls Tryz.prog 124 #[cP B] w2 (Did B f { { {m0 with t:=true} with rw_:=true} with wh:=true} er2 (okWh wh) w2) from where_any X2.out.all.all.2.2.2.2.2.1 ((fSt_mk _ _ _ _ _ _ _ _ _ _ _ _ _ _ _).1 X2.out.fine).1.2.2.2.2.2.2.1 ((sLim_mk _ _ _ _ _ _ _ _ _ _ _ _ _ _ _).1 X2.out.lim).1.2.2.2.2.2.1 C2.out X2.out.env)
 go_wp2_with (go_at_call 124;(with_reducible refine H2.out.mono ?_))
 rintro e3 w3 ⟨rfl,er3,hC,hO,hq⟩
 have C3:=Lib.hid hC
 have O3:=Lib.hid (O2.out.trans hO)
 have X3:=Lib.hid (X2.out.to hO)
 have Q3:=Lib.hid (show er3=0↔er=0∧(((isN f.tt)∧(okLn rows 0 1 okRw))∧(okWh wh)) by rw [hq,Q2.out,and_assoc])
 have k3:w3.cell? ⟨B,0,none⟩=some (.int .i64 19):=(show w3.cell? ⟨B,0,none⟩=some (.int .i64 f.sk) from hC.at_ 0).trans (by rw [HK.out])
 clear hC hO hq
 have H3:=Lib.hid (show Calls Tryz.prog 125 #[cP B] w3 (Did B f { { { {m0 with t:=true} with rw_:=true} with wh:=true} with od:=true} er3 (okLn order 0 3 okOd) w3) from order_any X3.out.all.all.2.2.2.2.2.2.2.1 (fun x hx=>((fSt_mk _ _ _ _ _ _ _ _ _ _ _ _ _ _ _).1 X3.out.fine).1.2.2.2.2.2.2.2.2.1.2 x hx) (fun x hx=>((sLim_mk _ _ _ _ _ _ _ _ _ _ _ _ _ _ _).1 X3.out.lim).1.2.2.2.2.2.2.2 x hx) C3.out X3.out.env)
 go_wp2_with (go_at_call 125;(with_reducible refine H3.out.mono ?_))
 rintro e4 w4 ⟨rfl,er4,hC,hO,hq⟩
 have C4:=Lib.hid hC
 have O4:=Lib.hid (O3.out.trans hO)
 have X4:=Lib.hid (X3.out.to hO)
 have Q4:=Lib.hid (show er4=0↔er=0∧((((isN f.tt)∧(okLn rows 0 1 okRw))∧(okWh wh))∧(okLn order 0 3 okOd)) by rw [hq,Q3.out,and_assoc])
 have k4:w4.cell? ⟨B,0,none⟩=some (.int .i64 19):=(show w4.cell? ⟨B,0,none⟩=some (.int .i64 f.sk) from hC.at_ 0).trans (by rw [HK.out])
 clear hC hO hq
 have H4:=Lib.hid (show Calls Tryz.prog 126 #[cP B] w4 (Did B f { { { { {m0 with t:=true} with rw_:=true} with wh:=true} with od:=true} with li:=true} er4 (okLim f.li) w4) from limit_any C4.out)
 go_wp2_with (go_at_call 126;(with_reducible refine H4.out.mono ?_))
 rintro e5 w5 ⟨rfl,er5,hC,hO,hq⟩
 have C5:=Lib.hid hC
 have O5:=Lib.hid (O4.out.trans hO)
 have X5:=Lib.hid (X4.out.to hO)
 have Q5:=Lib.hid (show er5=0↔er=0∧(((((isN f.tt)∧(okLn rows 0 1 okRw))∧(okWh wh))∧(okLn order 0 3 okOd))∧(okLim f.li)) by rw [hq,Q4.out,and_assoc])
 have k5:w5.cell? ⟨B,0,none⟩=some (.int .i64 19):=(show w5.cell? ⟨B,0,none⟩=some (.int .i64 f.sk) from hC.at_ 0).trans (by rw [HK.out])
 clear hC hO hq
 have HX:=Lib.hid (show (((((isN f.tt)∧(okLn rows 0 1 okRw))∧(okWh wh))∧(okLn order 0 3 okOd))∧(okLim f.li))↔pOf 19 (.mk 19 t n r cols cons names rows wh sets order limit priv opt kids) by
   obtain ⟨⟨e0,e1,e2,e3,e4,e5,e6⟩, -⟩:=X0.out.all.all
   simp only [e1,e4,and_assoc]
   exact Iff.rfl)
 have HD:=Lib.hid (show Did B f (mOf 19) er (pOf 19 (.mk 19 t n r cols cons names rows wh sets order limit priv opt kids)) w (.returned (.tuple #[])) w5 from ⟨rfl,er5,C5.out,O5.out,by rw [Q5.out,HX.out]⟩)
 clear HX
 go_wp2
 go_end0
 exact HD.out
set_option maxRecDepth 100000 in
set_option maxHeartbeats 4000000 in
theorem ofPlan_20 {t n r:Bs} {cols:List Co} {cons:List Cn} {names:List Bs} {rows:List (List Ex)} {wh:Ex} {sets:List (Bs × Ex)} {order:List (Ex × Bool)} {limit priv:Int} {opt:Bool} {kids:List St} (hx:CkX w B f 20 t n r cols cons names rows wh sets order limit priv opt kids) (h:Cel w B tC (ckA f m0 er)):Calls Tryz.prog 59 #[cP B] w (Did B f (mOf 20) er (pOf 20 (.mk 20 t n r cols cons names rows wh sets order limit priv opt kids)) w):=by
 have hlB:=h.lt
 have C0:=Lib.hid h
 have O0:=Lib.hid (Oth.refl B w)
 have X0:=Lib.hid hx
 have HK:=Lib.hid (show f.sk=20 from hx.all.all.1.1)
 have k0:w.cell? ⟨B,0,none⟩=some (.int .i64 20):=(show w.cell? ⟨B,0,none⟩=some (.int .i64 f.sk) from h.at_ 0).trans (by rw [HK.out])
 clear h hx
 go_enter Tryz.func59,Tryz.ntmps59
 have H0:=Lib.hid (show Calls Tryz.prog 118 #[cP B] w (Did B f {m0 with n:=true} er (isN f.tn) w) from name_any C0.out X0.out.env (X0.out.all.all.1.2.2.1.symm▸((sLim_mk _ _ _ _ _ _ _ _ _ _ _ _ _ _ _).1 X0.out.lim).1.1.2.1))
 go_wp2_with (go_at_call 118;(with_reducible refine H0.out.mono ?_))
 rintro e1 w1 ⟨rfl,er1,hC,hO,hq⟩
 have C1:=Lib.hid hC
 have O1:=Lib.hid (O0.out.trans hO)
 have X1:=Lib.hid (X0.out.to hO)
 have Q1:=Lib.hid (show er1=0↔er=0∧(isN f.tn) by rw [hq])
 have k1:w1.cell? ⟨B,0,none⟩=some (.int .i64 20):=(show w1.cell? ⟨B,0,none⟩=some (.int .i64 f.sk) from hC.at_ 0).trans (by rw [HK.out])
 clear hC hO hq
 have H1:=Lib.hid (show Calls Tryz.prog 127 #[cP B] w1 (Did B f { {m0 with n:=true} with kd:=true} er1 (okLn kids 1 1 okKid) w1) from kid_any X1.out.all.all.2.2.2.2.2.2.2.2 X1.out.kids ((fSt_mk _ _ _ _ _ _ _ _ _ _ _ _ _ _ _).1 X1.out.fine).2.2 ((sLim_mk _ _ _ _ _ _ _ _ _ _ _ _ _ _ _).1 X1.out.lim).2 C1.out X1.out.env)
 go_wp2_with (go_at_call 127;(with_reducible refine H1.out.mono ?_))
 rintro e2 w2 ⟨rfl,er2,hC,hO,hq⟩
 have C2:=Lib.hid hC
 have O2:=Lib.hid (O1.out.trans hO)
 have X2:=Lib.hid (X1.out.to hO)
 have Q2:=Lib.hid (show er2=0↔er=0∧((isN f.tn)∧(okLn kids 1 1 okKid)) by rw [hq,Q1.out,and_assoc])
 have k2:w2.cell? ⟨B,0,none⟩=some (.int .i64 20):=(show w2.cell? ⟨B,0,none⟩=some (.int .i64 f.sk) from hC.at_ 0).trans (by rw [HK.out])
 clear hC hO hq
 have HX:=Lib.hid (show ((isN f.tn)∧(okLn kids 1 1 okKid))↔pOf 20 (.mk 20 t n r cols cons names rows wh sets order limit priv opt kids) by
   obtain ⟨⟨e0,e1,e2,e3,e4,e5,e6⟩, -⟩:=X0.out.all.all
   simp only [e2]
   exact Iff.rfl)
 have HD:=Lib.hid (show Did B f (mOf 20) er (pOf 20 (.mk 20 t n r cols cons names rows wh sets order limit priv opt kids)) w (.returned (.tuple #[])) w2 from ⟨rfl,er2,C2.out,O2.out,by rw [Q2.out,HX.out]⟩)
 clear HX
 go_wp2
 go_end0
 exact HD.out
set_option maxRecDepth 100000 in
set_option maxHeartbeats 4000000 in
theorem ofPlan_21 {t n r:Bs} {cols:List Co} {cons:List Cn} {names:List Bs} {rows:List (List Ex)} {wh:Ex} {sets:List (Bs × Ex)} {order:List (Ex × Bool)} {limit priv:Int} {opt:Bool} {kids:List St} (hx:CkX w B f 21 t n r cols cons names rows wh sets order limit priv opt kids) (h:Cel w B tC (ckA f m0 er)):Calls Tryz.prog 59 #[cP B] w (Did B f (mOf 21) er (pOf 21 (.mk 21 t n r cols cons names rows wh sets order limit priv opt kids)) w):=by
 have hlB:=h.lt
 have C0:=Lib.hid h
 have O0:=Lib.hid (Oth.refl B w)
 have X0:=Lib.hid hx
 have HK:=Lib.hid (show f.sk=21 from hx.all.all.1.1)
 have k0:w.cell? ⟨B,0,none⟩=some (.int .i64 21):=(show w.cell? ⟨B,0,none⟩=some (.int .i64 f.sk) from h.at_ 0).trans (by rw [HK.out])
 clear h hx
 go_enter Tryz.func59,Tryz.ntmps59
 have H0:=Lib.hid (show Calls Tryz.prog 118 #[cP B] w (Did B f {m0 with n:=true} er (isN f.tn) w) from name_any C0.out X0.out.env (X0.out.all.all.1.2.2.1.symm▸((sLim_mk _ _ _ _ _ _ _ _ _ _ _ _ _ _ _).1 X0.out.lim).1.1.2.1))
 go_wp2_with (go_at_call 118;(with_reducible refine H0.out.mono ?_))
 rintro e1 w1 ⟨rfl,er1,hC,hO,hq⟩
 have C1:=Lib.hid hC
 have O1:=Lib.hid (O0.out.trans hO)
 have X1:=Lib.hid (X0.out.to hO)
 have Q1:=Lib.hid (show er1=0↔er=0∧(isN f.tn) by rw [hq])
 have k1:w1.cell? ⟨B,0,none⟩=some (.int .i64 21):=(show w1.cell? ⟨B,0,none⟩=some (.int .i64 f.sk) from hC.at_ 0).trans (by rw [HK.out])
 clear hC hO hq
 have H1:=Lib.hid (show Calls Tryz.prog 122 #[cP B, .int .i64 0, .int .i64 1, .int .i64 6] w1 (Did B f { {m0 with n:=true} with rw_:=true} er1 (okLn rows 0 1 okRw) w1) from rows_any 0 1 6 X1.out.all.all.2.2.2.2.1 (fun x hx e he=>(((fSt_mk _ _ _ _ _ _ _ _ _ _ _ _ _ _ _).1 X1.out.fine).1.2.2.2.2.2.1.2 x hx).2 e he) (fun x hx e he=>((sLim_mk _ _ _ _ _ _ _ _ _ _ _ _ _ _ _).1 X1.out.lim).1.2.2.2.2.1 x hx e he) C1.out X1.out.env)
 go_wp2_with (go_at_call 122;(with_reducible refine H1.out.mono ?_))
 rintro e2 w2 ⟨rfl,er2,hC,hO,hq⟩
 have C2:=Lib.hid hC
 have O2:=Lib.hid (O1.out.trans hO)
 have X2:=Lib.hid (X1.out.to hO)
 have Q2:=Lib.hid (show er2=0↔er=0∧((isN f.tn)∧(okLn rows 0 1 okRw)) by rw [hq,Q1.out,and_assoc])
 have k2:w2.cell? ⟨B,0,none⟩=some (.int .i64 21):=(show w2.cell? ⟨B,0,none⟩=some (.int .i64 f.sk) from hC.at_ 0).trans (by rw [HK.out])
 clear hC hO hq
 have HX:=Lib.hid (show ((isN f.tn)∧(okLn rows 0 1 okRw))↔pOf 21 (.mk 21 t n r cols cons names rows wh sets order limit priv opt kids) by
   obtain ⟨⟨e0,e1,e2,e3,e4,e5,e6⟩, -⟩:=X0.out.all.all
   simp only [e2]
   exact Iff.rfl)
 have HD:=Lib.hid (show Did B f (mOf 21) er (pOf 21 (.mk 21 t n r cols cons names rows wh sets order limit priv opt kids)) w (.returned (.tuple #[])) w2 from ⟨rfl,er2,C2.out,O2.out,by rw [Q2.out,HX.out]⟩)
 clear HX
 go_wp2
 go_end0
 exact HD.out
set_option maxRecDepth 100000 in
set_option maxHeartbeats 4000000 in
theorem ofPlan_22 {t n r:Bs} {cols:List Co} {cons:List Cn} {names:List Bs} {rows:List (List Ex)} {wh:Ex} {sets:List (Bs × Ex)} {order:List (Ex × Bool)} {limit priv:Int} {opt:Bool} {kids:List St} (hx:CkX w B f 22 t n r cols cons names rows wh sets order limit priv opt kids) (h:Cel w B tC (ckA f m0 er)):Calls Tryz.prog 59 #[cP B] w (Did B f (mOf 22) er (pOf 22 (.mk 22 t n r cols cons names rows wh sets order limit priv opt kids)) w):=by
 have hlB:=h.lt
 have C0:=Lib.hid h
 have O0:=Lib.hid (Oth.refl B w)
 have X0:=Lib.hid hx
 have HK:=Lib.hid (show f.sk=22 from hx.all.all.1.1)
 have k0:w.cell? ⟨B,0,none⟩=some (.int .i64 22):=(show w.cell? ⟨B,0,none⟩=some (.int .i64 f.sk) from h.at_ 0).trans (by rw [HK.out])
 clear h hx
 go_enter Tryz.func59,Tryz.ntmps59
 have H0:=Lib.hid (show Calls Tryz.prog 118 #[cP B] w (Did B f {m0 with n:=true} er (isN f.tn) w) from name_any C0.out X0.out.env (X0.out.all.all.1.2.2.1.symm▸((sLim_mk _ _ _ _ _ _ _ _ _ _ _ _ _ _ _).1 X0.out.lim).1.1.2.1))
 go_wp2_with (go_at_call 118;(with_reducible refine H0.out.mono ?_))
 rintro e1 w1 ⟨rfl,er1,hC,hO,hq⟩
 have C1:=Lib.hid hC
 have O1:=Lib.hid (O0.out.trans hO)
 have X1:=Lib.hid (X0.out.to hO)
 have Q1:=Lib.hid (show er1=0↔er=0∧(isN f.tn) by rw [hq])
 have k1:w1.cell? ⟨B,0,none⟩=some (.int .i64 22):=(show w1.cell? ⟨B,0,none⟩=some (.int .i64 f.sk) from hC.at_ 0).trans (by rw [HK.out])
 clear hC hO hq
 have HX:=Lib.hid (show (isN f.tn)↔pOf 22 (.mk 22 t n r cols cons names rows wh sets order limit priv opt kids) by
   obtain ⟨⟨e0,e1,e2,e3,e4,e5,e6⟩, -⟩:=X0.out.all.all
   simp only [e2]
   exact Iff.rfl)
 have HD:=Lib.hid (show Did B f (mOf 22) er (pOf 22 (.mk 22 t n r cols cons names rows wh sets order limit priv opt kids)) w (.returned (.tuple #[])) w1 from ⟨rfl,er1,C1.out,O1.out,by rw [Q1.out,HX.out]⟩)
 clear HX
 go_wp2
 go_end0
 exact HD.out
set_option maxRecDepth 100000 in
set_option maxHeartbeats 4000000 in
theorem ofPlan_hi {k:Int} (hk:23≤k) {t n r:Bs} {cols:List Co} {cons:List Cn} {names:List Bs} {rows:List (List Ex)} {wh:Ex} {sets:List (Bs × Ex)} {order:List (Ex × Bool)} {limit priv:Int} {opt:Bool} {kids:List St} (hx:CkX w B f k t n r cols cons names rows wh sets order limit priv opt kids) (h:Cel w B tC (ckA f m0 er)):Calls Tryz.prog 59 #[cP B] w (Did B f (mOf k) er (pOf k (.mk k t n r cols cons names rows wh sets order limit priv opt kids)) w):=by
 have hlB:=h.lt
 have C0:=Lib.hid h
 have O0:=Lib.hid (Oth.refl B w)
 have X0:=Lib.hid hx
 have HK:=Lib.hid (show f.sk=k from hx.all.all.1.1)
 have k0:w.cell? ⟨B,0,none⟩=some (.int .i64 k):=(show w.cell? ⟨B,0,none⟩=some (.int .i64 f.sk) from h.at_ 0).trans (by rw [HK.out])
 have t20:(k==20)=false:=beq_no (by omega)
 have t21:(k==21)=false:=beq_no (by omega)
 have t22:(k==22)=false:=beq_no (by omega)
 clear h hx
 go_enter Tryz.func59,Tryz.ntmps59
 have H0:=Lib.hid (show Calls Tryz.prog 118 #[cP B] w (Did B f {m0 with n:=true} er (isN f.tn) w) from name_any C0.out X0.out.env (X0.out.all.all.1.2.2.1.symm▸((sLim_mk _ _ _ _ _ _ _ _ _ _ _ _ _ _ _).1 X0.out.lim).1.1.2.1))
 go_wp2_with (go_at_call 118;(with_reducible refine H0.out.mono ?_))
 rintro e1 w1 ⟨rfl,er1,hC,hO,hq⟩
 have C1:=Lib.hid hC
 have O1:=Lib.hid (O0.out.trans hO)
 have X1:=Lib.hid (X0.out.to hO)
 have Q1:=Lib.hid (show er1=0↔er=0∧(isN f.tn) by rw [hq])
 have k1:w1.cell? ⟨B,0,none⟩=some (.int .i64 k):=(show w1.cell? ⟨B,0,none⟩=some (.int .i64 f.sk) from hC.at_ 0).trans (by rw [HK.out])
 clear hC hO hq
 have H1:=Lib.hid (show Calls Tryz.prog 37 #[cP B, .bool false] w1 (Did B f {m0 with n:=true} er1 (false=true) w1) from must_any false C1.out)
 go_wp2_with (go_at_call 37;(with_reducible refine H1.out.mono ?_))
 rintro e2 w2 ⟨rfl,er2,hC,hO,hq⟩
 have C2:=Lib.hid hC
 have O2:=Lib.hid (O1.out.trans hO)
 have X2:=Lib.hid (X1.out.to hO)
 have Q2:=Lib.hid (show er2=0↔er=0∧((isN f.tn)∧(false=true)) by rw [hq,Q1.out,and_assoc])
 have k2:w2.cell? ⟨B,0,none⟩=some (.int .i64 k):=(show w2.cell? ⟨B,0,none⟩=some (.int .i64 f.sk) from hC.at_ 0).trans (by rw [HK.out])
 clear hC hO hq
 have HX:=Lib.hid (show ((isN f.tn)∧(false=true))↔pOf k (.mk k t n r cols cons names rows wh sets order limit priv opt kids) by
   obtain ⟨⟨e0,e1,e2,e3,e4,e5,e6⟩, -⟩:=X0.out.all.all
   refine ⟨fun g=>(by cases g.2),fun g=>?_⟩
   exfalso;simp only [pOf] at g
   rw [if_neg (by omega),if_neg (by omega),if_neg (by omega),if_neg (by omega),if_neg (by omega),if_neg (by omega),if_neg (by omega),if_neg (by omega),if_neg (by omega),if_neg (by omega),if_neg (by omega),if_neg (by omega),if_neg (by omega),if_neg (by omega),if_neg (by omega),if_neg (by omega),if_neg (by omega),if_neg (by omega),if_neg (by omega),if_neg (by omega),if_neg (by omega),if_neg (by omega)] at g;exact g)
 have HD:=Lib.hid (show Did B f (mOf k) er (pOf k (.mk k t n r cols cons names rows wh sets order limit priv opt kids)) w (.returned (.tuple #[])) w2 from by rw [show mOf k=mN by unfold mOf;rw [if_neg (by omega),if_neg (by omega),if_neg (by omega),if_neg (by omega),if_neg (by omega),if_neg (by omega),if_neg (by omega),if_neg (by omega),if_neg (by omega),if_neg (by omega),if_neg (by omega),if_neg (by omega),if_neg (by omega),if_neg (by omega),if_neg (by omega),if_neg (by omega),if_neg (by omega),if_neg (by omega),if_neg (by omega),if_neg (by omega),if_neg (by omega),if_neg (by omega),if_neg (by omega)]];exact ⟨rfl,er2,C2.out,O2.out,by rw [Q2.out,HX.out]⟩)
 clear HX
 go_wp2
 go_end0
 exact HD.out
end
end Go.Proofs.YtiaomhdmllhmmaaGreatDoor.Sm
