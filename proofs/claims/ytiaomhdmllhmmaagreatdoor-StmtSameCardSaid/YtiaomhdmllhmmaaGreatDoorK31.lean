/- What a checker asks, kind by kind: rows and plans. stmt.Check: whether a statement may be. -/
import Derived.Test.YtiaomhdmllhmmaaGreatDoorK24
import Derived.Test.YtiaomhdmllhmmaaGreatDoorK29
import Derived.Test.YtiaomhdmllhmmaaGreatDoorK30
namespace Go.Proofs.YtiaomhdmllhmmaaGreatDoor.Sm
open Go.RowKit Mem Ep Right Lx Go.ChangeShapes Go.WideShapes
set_option linter.unusedVariables false
section
variable {w w' :World} {B:Nat} {f:Fl} {m:Mk} {er:Int} {P:Prop}
set_option maxRecDepth 100000 in
set_option maxHeartbeats 4000000 in
theorem ofRows_16 {t n r:Bs} {cols:List Co} {cons:List Cn} {names:List Bs} {rows:List (List Ex)} {wh:Ex} {sets:List (Bs × Ex)} {order:List (Ex × Bool)} {limit priv:Int} {opt:Bool} {kids:List St} (hx:CkX w B f 16 t n r cols cons names rows wh sets order limit priv opt kids) (h:Cel w B tC (ckA f m0 er)):Calls Tryz.prog 58 #[cP B] w (Did B f (mOf 16) er (pOf 16 (.mk 16 t n r cols cons names rows wh sets order limit priv opt kids)) w):=by
 have hlB:=h.lt
 have C0:=Lib.hid h
 have O0:=Lib.hid (Oth.refl B w)
 have X0:=Lib.hid hx
 have HK:=Lib.hid (show f.sk=16 from hx.all.all.1.1)
 have k0:w.cell? ⟨B,0,none⟩=some (.int .i64 16):=(show w.cell? ⟨B,0,none⟩=some (.int .i64 f.sk) from h.at_ 0).trans (by rw [HK.out])
 clear h hx
 go_enter Tryz.func58,Tryz.ntmps58
 have H0:=Lib.hid (show Calls Tryz.prog 115 #[cP B] w (Did B f {m0 with t:=true} er (isN f.tt) w) from table_any C0.out X0.out.env (X0.out.all.all.1.2.1.symm▸((sLim_mk _ _ _ _ _ _ _ _ _ _ _ _ _ _ _).1 X0.out.lim).1.1.1))
 go_wp2_with (go_at_call 115;(with_reducible refine H0.out.mono ?_))
 rintro e1 w1 ⟨rfl,er1,hC,hO,hq⟩
 have C1:=Lib.hid hC
 have O1:=Lib.hid (O0.out.trans hO)
 have X1:=Lib.hid (X0.out.to hO)
 have Q1:=Lib.hid (show er1=0↔er=0∧(isN f.tt) by rw [hq])
 have k1:w1.cell? ⟨B,0,none⟩=some (.int .i64 16):=(show w1.cell? ⟨B,0,none⟩=some (.int .i64 f.sk) from hC.at_ 0).trans (by rw [HK.out])
 clear hC hO hq
 have H1:=Lib.hid (show Calls Tryz.prog 119 #[cP B, .int .i64 0, .int .i64 6] w1 (Did B f { {m0 with t:=true} with ns:=true} er1 (okLn names 0 6 isN) w1) from names_any 0 6 C1.out X1.out.env X1.out.all.all.2.2.2.1 ((sLim_mk _ _ _ _ _ _ _ _ _ _ _ _ _ _ _).1 X1.out.lim).1.2.2.2.1)
 go_wp2_with (go_at_call 119;(with_reducible refine H1.out.mono ?_))
 rintro e2 w2 ⟨rfl,er2,hC,hO,hq⟩
 have C2:=Lib.hid hC
 have O2:=Lib.hid (O1.out.trans hO)
 have X2:=Lib.hid (X1.out.to hO)
 have Q2:=Lib.hid (show er2=0↔er=0∧((isN f.tt)∧(okLn names 0 6 isN)) by rw [hq,Q1.out,and_assoc])
 have k2:w2.cell? ⟨B,0,none⟩=some (.int .i64 16):=(show w2.cell? ⟨B,0,none⟩=some (.int .i64 f.sk) from hC.at_ 0).trans (by rw [HK.out])
 clear hC hO hq
 have H2:=Lib.hid (show Calls Tryz.prog 122 #[cP B, .int .i64 1, .int .i64 8, .int .i64 6] w2 (Did B f { { {m0 with t:=true} with ns:=true} with rw_:=true} er2 (okLn rows 1 8 okRw) w2) from rows_any 1 8 6 X2.out.all.all.2.2.2.2.1 (fun x hx e he=>(((fSt_mk _ _ _ _ _ _ _ _ _ _ _ _ _ _ _).1 X2.out.fine).1.2.2.2.2.2.1.2 x hx).2 e he) (fun x hx e he=>((sLim_mk _ _ _ _ _ _ _ _ _ _ _ _ _ _ _).1 X2.out.lim).1.2.2.2.2.1 x hx e he) C2.out X2.out.env)
 go_wp2_with (go_at_call 122;(with_reducible refine H2.out.mono ?_))
 rintro e3 w3 ⟨rfl,er3,hC,hO,hq⟩
 have C3:=Lib.hid hC
 have O3:=Lib.hid (O2.out.trans hO)
 have X3:=Lib.hid (X2.out.to hO)
 have Q3:=Lib.hid (show er3=0↔er=0∧(((isN f.tt)∧(okLn names 0 6 isN))∧(okLn rows 1 8 okRw)) by rw [hq,Q2.out,and_assoc])
 have k3:w3.cell? ⟨B,0,none⟩=some (.int .i64 16):=(show w3.cell? ⟨B,0,none⟩=some (.int .i64 f.sk) from hC.at_ 0).trans (by rw [HK.out])
 clear hC hO hq
 have HX:=Lib.hid (show (((isN f.tt)∧(okLn names 0 6 isN))∧(okLn rows 1 8 okRw))↔pOf 16 (.mk 16 t n r cols cons names rows wh sets order limit priv opt kids) by
   obtain ⟨⟨e0,e1,e2,e3,e4,e5,e6⟩, -⟩:=X0.out.all.all
   simp only [e1,and_assoc]
   exact Iff.rfl)
 have HD:=Lib.hid (show Did B f (mOf 16) er (pOf 16 (.mk 16 t n r cols cons names rows wh sets order limit priv opt kids)) w (.returned (.tuple #[])) w3 from ⟨rfl,er3,C3.out,O3.out,by rw [Q3.out,HX.out]⟩)
 clear HX
 go_wp2
 go_end0
 exact HD.out
set_option maxRecDepth 100000 in
set_option maxHeartbeats 4000000 in
theorem ofRows_17 {t n r:Bs} {cols:List Co} {cons:List Cn} {names:List Bs} {rows:List (List Ex)} {wh:Ex} {sets:List (Bs × Ex)} {order:List (Ex × Bool)} {limit priv:Int} {opt:Bool} {kids:List St} (hx:CkX w B f 17 t n r cols cons names rows wh sets order limit priv opt kids) (h:Cel w B tC (ckA f m0 er)):Calls Tryz.prog 58 #[cP B] w (Did B f (mOf 17) er (pOf 17 (.mk 17 t n r cols cons names rows wh sets order limit priv opt kids)) w):=by
 have hlB:=h.lt
 have C0:=Lib.hid h
 have O0:=Lib.hid (Oth.refl B w)
 have X0:=Lib.hid hx
 have HK:=Lib.hid (show f.sk=17 from hx.all.all.1.1)
 have k0:w.cell? ⟨B,0,none⟩=some (.int .i64 17):=(show w.cell? ⟨B,0,none⟩=some (.int .i64 f.sk) from h.at_ 0).trans (by rw [HK.out])
 clear h hx
 go_enter Tryz.func58,Tryz.ntmps58
 have H0:=Lib.hid (show Calls Tryz.prog 115 #[cP B] w (Did B f {m0 with t:=true} er (isN f.tt) w) from table_any C0.out X0.out.env (X0.out.all.all.1.2.1.symm▸((sLim_mk _ _ _ _ _ _ _ _ _ _ _ _ _ _ _).1 X0.out.lim).1.1.1))
 go_wp2_with (go_at_call 115;(with_reducible refine H0.out.mono ?_))
 rintro e1 w1 ⟨rfl,er1,hC,hO,hq⟩
 have C1:=Lib.hid hC
 have O1:=Lib.hid (O0.out.trans hO)
 have X1:=Lib.hid (X0.out.to hO)
 have Q1:=Lib.hid (show er1=0↔er=0∧(isN f.tt) by rw [hq])
 have k1:w1.cell? ⟨B,0,none⟩=some (.int .i64 17):=(show w1.cell? ⟨B,0,none⟩=some (.int .i64 f.sk) from hC.at_ 0).trans (by rw [HK.out])
 clear hC hO hq
 have H1:=Lib.hid (show Calls Tryz.prog 123 #[cP B] w1 (Did B f { {m0 with t:=true} with se:=true} er1 (okLn sets 1 6 okSe) w1) from sets_any X1.out.all.all.2.2.2.2.2.2.1 (fun x hx=>(((fSt_mk _ _ _ _ _ _ _ _ _ _ _ _ _ _ _).1 X1.out.fine).1.2.2.2.2.2.2.2.1.2 x hx).2) (fun x hx=>((sLim_mk _ _ _ _ _ _ _ _ _ _ _ _ _ _ _).1 X1.out.lim).1.2.2.2.2.2.2.1 x hx) C1.out X1.out.env)
 go_wp2_with (go_at_call 123;(with_reducible refine H1.out.mono ?_))
 rintro e2 w2 ⟨rfl,er2,hC,hO,hq⟩
 have C2:=Lib.hid hC
 have O2:=Lib.hid (O1.out.trans hO)
 have X2:=Lib.hid (X1.out.to hO)
 have Q2:=Lib.hid (show er2=0↔er=0∧((isN f.tt)∧(okLn sets 1 6 okSe)) by rw [hq,Q1.out,and_assoc])
 have k2:w2.cell? ⟨B,0,none⟩=some (.int .i64 17):=(show w2.cell? ⟨B,0,none⟩=some (.int .i64 f.sk) from hC.at_ 0).trans (by rw [HK.out])
 clear hC hO hq
 have H2:=Lib.hid (show Calls Tryz.prog 124 #[cP B] w2 (Did B f { { {m0 with t:=true} with se:=true} with wh:=true} er2 (okWh wh) w2) from where_any X2.out.all.all.2.2.2.2.2.1 ((fSt_mk _ _ _ _ _ _ _ _ _ _ _ _ _ _ _).1 X2.out.fine).1.2.2.2.2.2.2.1 ((sLim_mk _ _ _ _ _ _ _ _ _ _ _ _ _ _ _).1 X2.out.lim).1.2.2.2.2.2.1 C2.out X2.out.env)
 go_wp2_with (go_at_call 124;(with_reducible refine H2.out.mono ?_))
 rintro e3 w3 ⟨rfl,er3,hC,hO,hq⟩
 have C3:=Lib.hid hC
 have O3:=Lib.hid (O2.out.trans hO)
 have X3:=Lib.hid (X2.out.to hO)
 have Q3:=Lib.hid (show er3=0↔er=0∧(((isN f.tt)∧(okLn sets 1 6 okSe))∧(okWh wh)) by rw [hq,Q2.out,and_assoc])
 have k3:w3.cell? ⟨B,0,none⟩=some (.int .i64 17):=(show w3.cell? ⟨B,0,none⟩=some (.int .i64 f.sk) from hC.at_ 0).trans (by rw [HK.out])
 clear hC hO hq
 have HX:=Lib.hid (show (((isN f.tt)∧(okLn sets 1 6 okSe))∧(okWh wh))↔pOf 17 (.mk 17 t n r cols cons names rows wh sets order limit priv opt kids) by
   obtain ⟨⟨e0,e1,e2,e3,e4,e5,e6⟩, -⟩:=X0.out.all.all
   simp only [e1,and_assoc]
   exact Iff.rfl)
 have HD:=Lib.hid (show Did B f (mOf 17) er (pOf 17 (.mk 17 t n r cols cons names rows wh sets order limit priv opt kids)) w (.returned (.tuple #[])) w3 from ⟨rfl,er3,C3.out,O3.out,by rw [Q3.out,HX.out]⟩)
 clear HX
 go_wp2
 go_end0
 exact HD.out
set_option maxRecDepth 100000 in
set_option maxHeartbeats 4000000 in
theorem ofRows_18 {t n r:Bs} {cols:List Co} {cons:List Cn} {names:List Bs} {rows:List (List Ex)} {wh:Ex} {sets:List (Bs × Ex)} {order:List (Ex × Bool)} {limit priv:Int} {opt:Bool} {kids:List St} (hx:CkX w B f 18 t n r cols cons names rows wh sets order limit priv opt kids) (h:Cel w B tC (ckA f m0 er)):Calls Tryz.prog 58 #[cP B] w (Did B f (mOf 18) er (pOf 18 (.mk 18 t n r cols cons names rows wh sets order limit priv opt kids)) w):=by
 have hlB:=h.lt
 have C0:=Lib.hid h
 have O0:=Lib.hid (Oth.refl B w)
 have X0:=Lib.hid hx
 have HK:=Lib.hid (show f.sk=18 from hx.all.all.1.1)
 have k0:w.cell? ⟨B,0,none⟩=some (.int .i64 18):=(show w.cell? ⟨B,0,none⟩=some (.int .i64 f.sk) from h.at_ 0).trans (by rw [HK.out])
 clear h hx
 go_enter Tryz.func58,Tryz.ntmps58
 have H0:=Lib.hid (show Calls Tryz.prog 115 #[cP B] w (Did B f {m0 with t:=true} er (isN f.tt) w) from table_any C0.out X0.out.env (X0.out.all.all.1.2.1.symm▸((sLim_mk _ _ _ _ _ _ _ _ _ _ _ _ _ _ _).1 X0.out.lim).1.1.1))
 go_wp2_with (go_at_call 115;(with_reducible refine H0.out.mono ?_))
 rintro e1 w1 ⟨rfl,er1,hC,hO,hq⟩
 have C1:=Lib.hid hC
 have O1:=Lib.hid (O0.out.trans hO)
 have X1:=Lib.hid (X0.out.to hO)
 have Q1:=Lib.hid (show er1=0↔er=0∧(isN f.tt) by rw [hq])
 have k1:w1.cell? ⟨B,0,none⟩=some (.int .i64 18):=(show w1.cell? ⟨B,0,none⟩=some (.int .i64 f.sk) from hC.at_ 0).trans (by rw [HK.out])
 clear hC hO hq
 have H1:=Lib.hid (show Calls Tryz.prog 124 #[cP B] w1 (Did B f { {m0 with t:=true} with wh:=true} er1 (okWh wh) w1) from where_any X1.out.all.all.2.2.2.2.2.1 ((fSt_mk _ _ _ _ _ _ _ _ _ _ _ _ _ _ _).1 X1.out.fine).1.2.2.2.2.2.2.1 ((sLim_mk _ _ _ _ _ _ _ _ _ _ _ _ _ _ _).1 X1.out.lim).1.2.2.2.2.2.1 C1.out X1.out.env)
 go_wp2_with (go_at_call 124;(with_reducible refine H1.out.mono ?_))
 rintro e2 w2 ⟨rfl,er2,hC,hO,hq⟩
 have C2:=Lib.hid hC
 have O2:=Lib.hid (O1.out.trans hO)
 have X2:=Lib.hid (X1.out.to hO)
 have Q2:=Lib.hid (show er2=0↔er=0∧((isN f.tt)∧(okWh wh)) by rw [hq,Q1.out,and_assoc])
 have k2:w2.cell? ⟨B,0,none⟩=some (.int .i64 18):=(show w2.cell? ⟨B,0,none⟩=some (.int .i64 f.sk) from hC.at_ 0).trans (by rw [HK.out])
 clear hC hO hq
 have HX:=Lib.hid (show ((isN f.tt)∧(okWh wh))↔pOf 18 (.mk 18 t n r cols cons names rows wh sets order limit priv opt kids) by
   obtain ⟨⟨e0,e1,e2,e3,e4,e5,e6⟩, -⟩:=X0.out.all.all
   simp only [e1]
   exact Iff.rfl)
 have HD:=Lib.hid (show Did B f (mOf 18) er (pOf 18 (.mk 18 t n r cols cons names rows wh sets order limit priv opt kids)) w (.returned (.tuple #[])) w2 from ⟨rfl,er2,C2.out,O2.out,by rw [Q2.out,HX.out]⟩)
 clear HX
 go_wp2
 go_end0
 exact HD.out
set_option maxRecDepth 100000 in
set_option maxHeartbeats 4000000 in
theorem ofRows_19 {t n r:Bs} {cols:List Co} {cons:List Cn} {names:List Bs} {rows:List (List Ex)} {wh:Ex} {sets:List (Bs × Ex)} {order:List (Ex × Bool)} {limit priv:Int} {opt:Bool} {kids:List St} (hx:CkX w B f 19 t n r cols cons names rows wh sets order limit priv opt kids) (h:Cel w B tC (ckA f m0 er)):Calls Tryz.prog 58 #[cP B] w (Did B f (mOf 19) er (pOf 19 (.mk 19 t n r cols cons names rows wh sets order limit priv opt kids)) w):=by
 have hlB:=h.lt
 have C0:=Lib.hid h
 have O0:=Lib.hid (Oth.refl B w)
 have X0:=Lib.hid hx
 have HK:=Lib.hid (show f.sk=19 from hx.all.all.1.1)
 have k0:w.cell? ⟨B,0,none⟩=some (.int .i64 19):=(show w.cell? ⟨B,0,none⟩=some (.int .i64 f.sk) from h.at_ 0).trans (by rw [HK.out])
 clear h hx
 go_enter Tryz.func58,Tryz.ntmps58
 have H0:=Lib.hid (show Calls Tryz.prog 115 #[cP B] w (Did B f {m0 with t:=true} er (isN f.tt) w) from table_any C0.out X0.out.env (X0.out.all.all.1.2.1.symm▸((sLim_mk _ _ _ _ _ _ _ _ _ _ _ _ _ _ _).1 X0.out.lim).1.1.1))
 go_wp2_with (go_at_call 115;(with_reducible refine H0.out.mono ?_))
 rintro e1 w1 ⟨rfl,er1,hC,hO,hq⟩
 have C1:=Lib.hid hC
 have O1:=Lib.hid (O0.out.trans hO)
 have X1:=Lib.hid (X0.out.to hO)
 have Q1:=Lib.hid (show er1=0↔er=0∧(isN f.tt) by rw [hq])
 have k1:w1.cell? ⟨B,0,none⟩=some (.int .i64 19):=(show w1.cell? ⟨B,0,none⟩=some (.int .i64 f.sk) from hC.at_ 0).trans (by rw [HK.out])
 clear hC hO hq
 have H1:=Lib.hid (show Calls Tryz.prog 122 #[cP B, .int .i64 0, .int .i64 1, .int .i64 6] w1 (Did B f { {m0 with t:=true} with rw_:=true} er1 (okLn rows 0 1 okRw) w1) from rows_any 0 1 6 X1.out.all.all.2.2.2.2.1 (fun x hx e he=>(((fSt_mk _ _ _ _ _ _ _ _ _ _ _ _ _ _ _).1 X1.out.fine).1.2.2.2.2.2.1.2 x hx).2 e he) (fun x hx e he=>((sLim_mk _ _ _ _ _ _ _ _ _ _ _ _ _ _ _).1 X1.out.lim).1.2.2.2.2.1 x hx e he) C1.out X1.out.env)
 go_wp2_with (go_at_call 122;(with_reducible refine H1.out.mono ?_))
 rintro e2 w2 ⟨rfl,er2,hC,hO,hq⟩
 have C2:=Lib.hid hC
 have O2:=Lib.hid (O1.out.trans hO)
 have X2:=Lib.hid (X1.out.to hO)
 have Q2:=Lib.hid (show er2=0↔er=0∧((isN f.tt)∧(okLn rows 0 1 okRw)) by rw [hq,Q1.out,and_assoc])
 have k2:w2.cell? ⟨B,0,none⟩=some (.int .i64 19):=(show w2.cell? ⟨B,0,none⟩=some (.int .i64 f.sk) from hC.at_ 0).trans (by rw [HK.out])
 clear hC hO hq
 have H2:=Lib.hid (show Calls Tryz.prog 124 #[cP B] w2 (Did B f { { {m0 with t:=true} with rw_:=true} with wh:=true} er2 (okWh wh) w2) from where_any X2.out.all.all.2.2.2.2.2.1 ((fSt_mk _ _ _ _ _ _ _ _ _ _ _ _ _ _ _).1 X2.out.fine).1.2.2.2.2.2.2.1 ((sLim_mk _ _ _ _ _ _ _ _ _ _ _ _ _ _ _).1 X2.out.lim).1.2.2.2.2.2.1 C2.out X2.out.env)
 go_wp2_with (go_at_call 124;(with_reducible refine H2.out.mono ?_))
 rintro e3 w3 ⟨rfl,er3,hC,hO,hq⟩
 have C3:=Lib.hid hC
 have O3:=Lib.hid (O2.out.trans hO)
 have X3:=Lib.hid (X2.out.to hO)
 have Q3:=Lib.hid (show er3=0↔er=0∧(((isN f.tt)∧(okLn rows 0 1 okRw))∧(okWh wh)) by rw [hq,Q2.out,and_assoc])
 have k3:w3.cell? ⟨B,0,none⟩=some (.int .i64 19):=(show w3.cell? ⟨B,0,none⟩=some (.int .i64 f.sk) from hC.at_ 0).trans (by rw [HK.out])
 clear hC hO hq
 have H3:=Lib.hid (show Calls Tryz.prog 125 #[cP B] w3 (Did B f { { { {m0 with t:=true} with rw_:=true} with wh:=true} with od:=true} er3 (okLn order 0 3 okOd) w3) from order_any X3.out.all.all.2.2.2.2.2.2.2.1 (fun x hx=>((fSt_mk _ _ _ _ _ _ _ _ _ _ _ _ _ _ _).1 X3.out.fine).1.2.2.2.2.2.2.2.2.1.2 x hx) (fun x hx=>((sLim_mk _ _ _ _ _ _ _ _ _ _ _ _ _ _ _).1 X3.out.lim).1.2.2.2.2.2.2.2 x hx) C3.out X3.out.env)
 go_wp2_with (go_at_call 125;(with_reducible refine H3.out.mono ?_))
 rintro e4 w4 ⟨rfl,er4,hC,hO,hq⟩
 have C4:=Lib.hid hC
 have O4:=Lib.hid (O3.out.trans hO)
 have X4:=Lib.hid (X3.out.to hO)
 have Q4:=Lib.hid (show er4=0↔er=0∧((((isN f.tt)∧(okLn rows 0 1 okRw))∧(okWh wh))∧(okLn order 0 3 okOd)) by rw [hq,Q3.out,and_assoc])
 have k4:w4.cell? ⟨B,0,none⟩=some (.int .i64 19):=(show w4.cell? ⟨B,0,none⟩=some (.int .i64 f.sk) from hC.at_ 0).trans (by rw [HK.out])
 clear hC hO hq
 have H4:=Lib.hid (show Calls Tryz.prog 126 #[cP B] w4 (Did B f { { { { {m0 with t:=true} with rw_:=true} with wh:=true} with od:=true} with li:=true} er4 (okLim f.li) w4) from limit_any C4.out)
 go_wp2_with (go_at_call 126;(with_reducible refine H4.out.mono ?_))
 rintro e5 w5 ⟨rfl,er5,hC,hO,hq⟩
 have C5:=Lib.hid hC
 have O5:=Lib.hid (O4.out.trans hO)
 have X5:=Lib.hid (X4.out.to hO)
 have Q5:=Lib.hid (show er5=0↔er=0∧(((((isN f.tt)∧(okLn rows 0 1 okRw))∧(okWh wh))∧(okLn order 0 3 okOd))∧(okLim f.li)) by rw [hq,Q4.out,and_assoc])
 have k5:w5.cell? ⟨B,0,none⟩=some (.int .i64 19):=(show w5.cell? ⟨B,0,none⟩=some (.int .i64 f.sk) from hC.at_ 0).trans (by rw [HK.out])
 clear hC hO hq
 have HX:=Lib.hid (show (((((isN f.tt)∧(okLn rows 0 1 okRw))∧(okWh wh))∧(okLn order 0 3 okOd))∧(okLim f.li))↔pOf 19 (.mk 19 t n r cols cons names rows wh sets order limit priv opt kids) by
   obtain ⟨⟨e0,e1,e2,e3,e4,e5,e6⟩, -⟩:=X0.out.all.all
   simp only [e1,e4,and_assoc]
   exact Iff.rfl)
 have HD:=Lib.hid (show Did B f (mOf 19) er (pOf 19 (.mk 19 t n r cols cons names rows wh sets order limit priv opt kids)) w (.returned (.tuple #[])) w5 from ⟨rfl,er5,C5.out,O5.out,by rw [Q5.out,HX.out]⟩)
 clear HX
 go_wp2
 go_end0
 exact HD.out
set_option maxRecDepth 100000 in
set_option maxHeartbeats 4000000 in
theorem ofPlan_20 {t n r:Bs} {cols:List Co} {cons:List Cn} {names:List Bs} {rows:List (List Ex)} {wh:Ex} {sets:List (Bs × Ex)} {order:List (Ex × Bool)} {limit priv:Int} {opt:Bool} {kids:List St} (hx:CkX w B f 20 t n r cols cons names rows wh sets order limit priv opt kids) (h:Cel w B tC (ckA f m0 er)):Calls Tryz.prog 59 #[cP B] w (Did B f (mOf 20) er (pOf 20 (.mk 20 t n r cols cons names rows wh sets order limit priv opt kids)) w):=by
 have hlB:=h.lt
 have C0:=Lib.hid h
 have O0:=Lib.hid (Oth.refl B w)
 have X0:=Lib.hid hx
 have HK:=Lib.hid (show f.sk=20 from hx.all.all.1.1)
 have k0:w.cell? ⟨B,0,none⟩=some (.int .i64 20):=(show w.cell? ⟨B,0,none⟩=some (.int .i64 f.sk) from h.at_ 0).trans (by rw [HK.out])
 clear h hx
 go_enter Tryz.func59,Tryz.ntmps59
 have H0:=Lib.hid (show Calls Tryz.prog 118 #[cP B] w (Did B f {m0 with n:=true} er (isN f.tn) w) from name_any C0.out X0.out.env (X0.out.all.all.1.2.2.1.symm▸((sLim_mk _ _ _ _ _ _ _ _ _ _ _ _ _ _ _).1 X0.out.lim).1.1.2.1))
 go_wp2_with (go_at_call 118;(with_reducible refine H0.out.mono ?_))
 rintro e1 w1 ⟨rfl,er1,hC,hO,hq⟩
 have C1:=Lib.hid hC
 have O1:=Lib.hid (O0.out.trans hO)
 have X1:=Lib.hid (X0.out.to hO)
 have Q1:=Lib.hid (show er1=0↔er=0∧(isN f.tn) by rw [hq])
 have k1:w1.cell? ⟨B,0,none⟩=some (.int .i64 20):=(show w1.cell? ⟨B,0,none⟩=some (.int .i64 f.sk) from hC.at_ 0).trans (by rw [HK.out])
 clear hC hO hq
 have H1:=Lib.hid (show Calls Tryz.prog 127 #[cP B] w1 (Did B f { {m0 with n:=true} with kd:=true} er1 (okLn kids 1 1 okKid) w1) from kid_any X1.out.all.all.2.2.2.2.2.2.2.2 X1.out.kids ((fSt_mk _ _ _ _ _ _ _ _ _ _ _ _ _ _ _).1 X1.out.fine).2.2 ((sLim_mk _ _ _ _ _ _ _ _ _ _ _ _ _ _ _).1 X1.out.lim).2 C1.out X1.out.env)
 go_wp2_with (go_at_call 127;(with_reducible refine H1.out.mono ?_))
 rintro e2 w2 ⟨rfl,er2,hC,hO,hq⟩
 have C2:=Lib.hid hC
 have O2:=Lib.hid (O1.out.trans hO)
 have X2:=Lib.hid (X1.out.to hO)
 have Q2:=Lib.hid (show er2=0↔er=0∧((isN f.tn)∧(okLn kids 1 1 okKid)) by rw [hq,Q1.out,and_assoc])
 have k2:w2.cell? ⟨B,0,none⟩=some (.int .i64 20):=(show w2.cell? ⟨B,0,none⟩=some (.int .i64 f.sk) from hC.at_ 0).trans (by rw [HK.out])
 clear hC hO hq
 have HX:=Lib.hid (show ((isN f.tn)∧(okLn kids 1 1 okKid))↔pOf 20 (.mk 20 t n r cols cons names rows wh sets order limit priv opt kids) by
   obtain ⟨⟨e0,e1,e2,e3,e4,e5,e6⟩, -⟩:=X0.out.all.all
   simp only [e2]
   exact Iff.rfl)
 have HD:=Lib.hid (show Did B f (mOf 20) er (pOf 20 (.mk 20 t n r cols cons names rows wh sets order limit priv opt kids)) w (.returned (.tuple #[])) w2 from ⟨rfl,er2,C2.out,O2.out,by rw [Q2.out,HX.out]⟩)
 clear HX
 go_wp2
 go_end0
 exact HD.out
set_option maxRecDepth 100000 in
set_option maxHeartbeats 4000000 in
theorem ofPlan_21 {t n r:Bs} {cols:List Co} {cons:List Cn} {names:List Bs} {rows:List (List Ex)} {wh:Ex} {sets:List (Bs × Ex)} {order:List (Ex × Bool)} {limit priv:Int} {opt:Bool} {kids:List St} (hx:CkX w B f 21 t n r cols cons names rows wh sets order limit priv opt kids) (h:Cel w B tC (ckA f m0 er)):Calls Tryz.prog 59 #[cP B] w (Did B f (mOf 21) er (pOf 21 (.mk 21 t n r cols cons names rows wh sets order limit priv opt kids)) w):=by
 have hlB:=h.lt
 have C0:=Lib.hid h
 have O0:=Lib.hid (Oth.refl B w)
 have X0:=Lib.hid hx
 have HK:=Lib.hid (show f.sk=21 from hx.all.all.1.1)
 have k0:w.cell? ⟨B,0,none⟩=some (.int .i64 21):=(show w.cell? ⟨B,0,none⟩=some (.int .i64 f.sk) from h.at_ 0).trans (by rw [HK.out])
 clear h hx
 go_enter Tryz.func59,Tryz.ntmps59
 have H0:=Lib.hid (show Calls Tryz.prog 118 #[cP B] w (Did B f {m0 with n:=true} er (isN f.tn) w) from name_any C0.out X0.out.env (X0.out.all.all.1.2.2.1.symm▸((sLim_mk _ _ _ _ _ _ _ _ _ _ _ _ _ _ _).1 X0.out.lim).1.1.2.1))
 go_wp2_with (go_at_call 118;(with_reducible refine H0.out.mono ?_))
 rintro e1 w1 ⟨rfl,er1,hC,hO,hq⟩
 have C1:=Lib.hid hC
 have O1:=Lib.hid (O0.out.trans hO)
 have X1:=Lib.hid (X0.out.to hO)
 have Q1:=Lib.hid (show er1=0↔er=0∧(isN f.tn) by rw [hq])
 have k1:w1.cell? ⟨B,0,none⟩=some (.int .i64 21):=(show w1.cell? ⟨B,0,none⟩=some (.int .i64 f.sk) from hC.at_ 0).trans (by rw [HK.out])
 clear hC hO hq
 have H1:=Lib.hid (show Calls Tryz.prog 122 #[cP B, .int .i64 0, .int .i64 1, .int .i64 6] w1 (Did B f { {m0 with n:=true} with rw_:=true} er1 (okLn rows 0 1 okRw) w1) from rows_any 0 1 6 X1.out.all.all.2.2.2.2.1 (fun x hx e he=>(((fSt_mk _ _ _ _ _ _ _ _ _ _ _ _ _ _ _).1 X1.out.fine).1.2.2.2.2.2.1.2 x hx).2 e he) (fun x hx e he=>((sLim_mk _ _ _ _ _ _ _ _ _ _ _ _ _ _ _).1 X1.out.lim).1.2.2.2.2.1 x hx e he) C1.out X1.out.env)
 go_wp2_with (go_at_call 122;(with_reducible refine H1.out.mono ?_))
 rintro e2 w2 ⟨rfl,er2,hC,hO,hq⟩
 have C2:=Lib.hid hC
 have O2:=Lib.hid (O1.out.trans hO)
 have X2:=Lib.hid (X1.out.to hO)
 have Q2:=Lib.hid (show er2=0↔er=0∧((isN f.tn)∧(okLn rows 0 1 okRw)) by rw [hq,Q1.out,and_assoc])
 have k2:w2.cell? ⟨B,0,none⟩=some (.int .i64 21):=(show w2.cell? ⟨B,0,none⟩=some (.int .i64 f.sk) from hC.at_ 0).trans (by rw [HK.out])
 clear hC hO hq
 have HX:=Lib.hid (show ((isN f.tn)∧(okLn rows 0 1 okRw))↔pOf 21 (.mk 21 t n r cols cons names rows wh sets order limit priv opt kids) by
   obtain ⟨⟨e0,e1,e2,e3,e4,e5,e6⟩, -⟩:=X0.out.all.all
   simp only [e2]
   exact Iff.rfl)
 have HD:=Lib.hid (show Did B f (mOf 21) er (pOf 21 (.mk 21 t n r cols cons names rows wh sets order limit priv opt kids)) w (.returned (.tuple #[])) w2 from ⟨rfl,er2,C2.out,O2.out,by rw [Q2.out,HX.out]⟩)
 clear HX
 go_wp2
 go_end0
 exact HD.out
set_option maxRecDepth 100000 in
set_option maxHeartbeats 4000000 in
theorem ofPlan_22 {t n r:Bs} {cols:List Co} {cons:List Cn} {names:List Bs} {rows:List (List Ex)} {wh:Ex} {sets:List (Bs × Ex)} {order:List (Ex × Bool)} {limit priv:Int} {opt:Bool} {kids:List St} (hx:CkX w B f 22 t n r cols cons names rows wh sets order limit priv opt kids) (h:Cel w B tC (ckA f m0 er)):Calls Tryz.prog 59 #[cP B] w (Did B f (mOf 22) er (pOf 22 (.mk 22 t n r cols cons names rows wh sets order limit priv opt kids)) w):=by
 have hlB:=h.lt
 have C0:=Lib.hid h
 have O0:=Lib.hid (Oth.refl B w)
 have X0:=Lib.hid hx
 have HK:=Lib.hid (show f.sk=22 from hx.all.all.1.1)
 have k0:w.cell? ⟨B,0,none⟩=some (.int .i64 22):=(show w.cell? ⟨B,0,none⟩=some (.int .i64 f.sk) from h.at_ 0).trans (by rw [HK.out])
 clear h hx
 go_enter Tryz.func59,Tryz.ntmps59
 have H0:=Lib.hid (show Calls Tryz.prog 118 #[cP B] w (Did B f {m0 with n:=true} er (isN f.tn) w) from name_any C0.out X0.out.env (X0.out.all.all.1.2.2.1.symm▸((sLim_mk _ _ _ _ _ _ _ _ _ _ _ _ _ _ _).1 X0.out.lim).1.1.2.1))
 go_wp2_with (go_at_call 118;(with_reducible refine H0.out.mono ?_))
 rintro e1 w1 ⟨rfl,er1,hC,hO,hq⟩
 have C1:=Lib.hid hC
 have O1:=Lib.hid (O0.out.trans hO)
 have X1:=Lib.hid (X0.out.to hO)
 have Q1:=Lib.hid (show er1=0↔er=0∧(isN f.tn) by rw [hq])
 have k1:w1.cell? ⟨B,0,none⟩=some (.int .i64 22):=(show w1.cell? ⟨B,0,none⟩=some (.int .i64 f.sk) from hC.at_ 0).trans (by rw [HK.out])
 clear hC hO hq
 have HX:=Lib.hid (show (isN f.tn)↔pOf 22 (.mk 22 t n r cols cons names rows wh sets order limit priv opt kids) by
   obtain ⟨⟨e0,e1,e2,e3,e4,e5,e6⟩, -⟩:=X0.out.all.all
   simp only [e2]
   exact Iff.rfl)
 have HD:=Lib.hid (show Did B f (mOf 22) er (pOf 22 (.mk 22 t n r cols cons names rows wh sets order limit priv opt kids)) w (.returned (.tuple #[])) w1 from ⟨rfl,er1,C1.out,O1.out,by rw [Q1.out,HX.out]⟩)
 clear HX
 go_wp2
 go_end0
 exact HD.out
set_option maxRecDepth 100000 in
set_option maxHeartbeats 4000000 in
theorem ofPlan_hi {k:Int} (hk:23≤k) {t n r:Bs} {cols:List Co} {cons:List Cn} {names:List Bs} {rows:List (List Ex)} {wh:Ex} {sets:List (Bs × Ex)} {order:List (Ex × Bool)} {limit priv:Int} {opt:Bool} {kids:List St} (hx:CkX w B f k t n r cols cons names rows wh sets order limit priv opt kids) (h:Cel w B tC (ckA f m0 er)):Calls Tryz.prog 59 #[cP B] w (Did B f (mOf k) er (pOf k (.mk k t n r cols cons names rows wh sets order limit priv opt kids)) w):=by
 have hlB:=h.lt
 have C0:=Lib.hid h
 have O0:=Lib.hid (Oth.refl B w)
 have X0:=Lib.hid hx
 have HK:=Lib.hid (show f.sk=k from hx.all.all.1.1)
 have k0:w.cell? ⟨B,0,none⟩=some (.int .i64 k):=(show w.cell? ⟨B,0,none⟩=some (.int .i64 f.sk) from h.at_ 0).trans (by rw [HK.out])
 have t20:(k==20)=false:=beq_no (by omega)
 have t21:(k==21)=false:=beq_no (by omega)
 have t22:(k==22)=false:=beq_no (by omega)
 clear h hx
 go_enter Tryz.func59,Tryz.ntmps59
 have H0:=Lib.hid (show Calls Tryz.prog 118 #[cP B] w (Did B f {m0 with n:=true} er (isN f.tn) w) from name_any C0.out X0.out.env (X0.out.all.all.1.2.2.1.symm▸((sLim_mk _ _ _ _ _ _ _ _ _ _ _ _ _ _ _).1 X0.out.lim).1.1.2.1))
 go_wp2_with (go_at_call 118;(with_reducible refine H0.out.mono ?_))
 rintro e1 w1 ⟨rfl,er1,hC,hO,hq⟩
 have C1:=Lib.hid hC
 have O1:=Lib.hid (O0.out.trans hO)
 have X1:=Lib.hid (X0.out.to hO)
 have Q1:=Lib.hid (show er1=0↔er=0∧(isN f.tn) by rw [hq])
 have k1:w1.cell? ⟨B,0,none⟩=some (.int .i64 k):=(show w1.cell? ⟨B,0,none⟩=some (.int .i64 f.sk) from hC.at_ 0).trans (by rw [HK.out])
 clear hC hO hq
 have H1:=Lib.hid (show Calls Tryz.prog 37 #[cP B, .bool false] w1 (Did B f {m0 with n:=true} er1 (false=true) w1) from must_any false C1.out)
 go_wp2_with (go_at_call 37;(with_reducible refine H1.out.mono ?_))
 rintro e2 w2 ⟨rfl,er2,hC,hO,hq⟩
 have C2:=Lib.hid hC
 have O2:=Lib.hid (O1.out.trans hO)
 have X2:=Lib.hid (X1.out.to hO)
 have Q2:=Lib.hid (show er2=0↔er=0∧((isN f.tn)∧(false=true)) by rw [hq,Q1.out,and_assoc])
 have k2:w2.cell? ⟨B,0,none⟩=some (.int .i64 k):=(show w2.cell? ⟨B,0,none⟩=some (.int .i64 f.sk) from hC.at_ 0).trans (by rw [HK.out])
 clear hC hO hq
 have HX:=Lib.hid (show ((isN f.tn)∧(false=true))↔pOf k (.mk k t n r cols cons names rows wh sets order limit priv opt kids) by
   obtain ⟨⟨e0,e1,e2,e3,e4,e5,e6⟩, -⟩:=X0.out.all.all
   refine ⟨fun g=>(by cases g.2),fun g=>?_⟩
   exfalso;simp only [pOf] at g
   rw [if_neg (by omega),if_neg (by omega),if_neg (by omega),if_neg (by omega),if_neg (by omega),if_neg (by omega),if_neg (by omega),if_neg (by omega),if_neg (by omega),if_neg (by omega),if_neg (by omega),if_neg (by omega),if_neg (by omega),if_neg (by omega),if_neg (by omega),if_neg (by omega),if_neg (by omega),if_neg (by omega),if_neg (by omega),if_neg (by omega),if_neg (by omega),if_neg (by omega)] at g;exact g)
 have HD:=Lib.hid (show Did B f (mOf k) er (pOf k (.mk k t n r cols cons names rows wh sets order limit priv opt kids)) w (.returned (.tuple #[])) w2 from by rw [show mOf k=mN by unfold mOf;rw [if_neg (by omega),if_neg (by omega),if_neg (by omega),if_neg (by omega),if_neg (by omega),if_neg (by omega),if_neg (by omega),if_neg (by omega),if_neg (by omega),if_neg (by omega),if_neg (by omega),if_neg (by omega),if_neg (by omega),if_neg (by omega),if_neg (by omega),if_neg (by omega),if_neg (by omega),if_neg (by omega),if_neg (by omega),if_neg (by omega),if_neg (by omega),if_neg (by omega),if_neg (by omega)]];exact ⟨rfl,er2,C2.out,O2.out,by rw [Q2.out,HX.out]⟩)
 clear HX
 go_wp2
 go_end0
 exact HD.out
end
end Go.Proofs.YtiaomhdmllhmmaaGreatDoor.Sm
namespace Go.Proofs.YtiaomhdmllhmmaaGreatDoor.Sm
open Go.RowKit Mem Ep Right Lx Go.ChangeShapes Go.WideShapes
set_option linter.unusedVariables false
section
variable {w w' :World} {B:Nat} {f:Fl} {m:Mk} {er:Int}
theorem ofTable_any {k:Int} {t n r:Bs} {cols:List Co} {cons:List Cn} {names:List Bs} {rows:List (List Ex)} {wh:Ex} {sets:List (Bs × Ex)} {order:List (Ex × Bool)} {limit priv:Int} {opt:Bool} {kids:List St} (hk:k≤9) (hx:CkX w B f k t n r cols cons names rows wh sets order limit priv opt kids) (h:Cel w B tC (ckA f m0 er)):Calls Tryz.prog 56 #[cP B] w (Did B f (mOf k) er (pOf k (.mk k t n r cols cons names rows wh sets order limit priv opt kids)) w):=by
 by_cases k1:k=1
 · subst k1;exact ofTable_1 hx h
 by_cases k2:k=2
 · subst k2;exact ofTable_2 hx h
 by_cases k3:k=3
 · subst k3;exact ofTable_3 hx h
 by_cases k4:k=4
 · subst k4;exact ofTable_4 hx h
 by_cases k5:k=5
 · subst k5;exact ofTable_5 hx h
 by_cases k6:k=6
 · subst k6;exact ofTable_6 hx h
 by_cases k7:k=7
 · subst k7;exact ofTable_7 hx h
 by_cases k8:k=8
 · subst k8;exact ofTable_8 hx h
 by_cases k9:k=9
 · subst k9;exact ofTable_9 hx h
 exact ofTable_lo (by omega) hx h
theorem ofRole_any {k:Int} {t n r:Bs} {cols:List Co} {cons:List Cn} {names:List Bs} {rows:List (List Ex)} {wh:Ex} {sets:List (Bs × Ex)} {order:List (Ex × Bool)} {limit priv:Int} {opt:Bool} {kids:List St} (hk:10≤k∧k≤15) (hx:CkX w B f k t n r cols cons names rows wh sets order limit priv opt kids) (h:Cel w B tC (ckA f m0 er)):Calls Tryz.prog 57 #[cP B] w (Did B f (mOf k) er (pOf k (.mk k t n r cols cons names rows wh sets order limit priv opt kids)) w):=by
 by_cases k10:k=10
 · subst k10;exact ofRole_10 hx h
 by_cases k11:k=11
 · subst k11;exact ofRole_11 hx h
 by_cases k12:k=12
 · subst k12;exact ofRole_12 hx h
 by_cases k13:k=13
 · subst k13;exact ofRole_13 hx h
 by_cases k14:k=14
 · subst k14;exact ofRole_14 hx h
 by_cases k15:k=15
 · subst k15;exact ofRole_15 hx h
 omega
theorem ofRows_any {k:Int} {t n r:Bs} {cols:List Co} {cons:List Cn} {names:List Bs} {rows:List (List Ex)} {wh:Ex} {sets:List (Bs × Ex)} {order:List (Ex × Bool)} {limit priv:Int} {opt:Bool} {kids:List St} (hk:16≤k∧k≤19) (hx:CkX w B f k t n r cols cons names rows wh sets order limit priv opt kids) (h:Cel w B tC (ckA f m0 er)):Calls Tryz.prog 58 #[cP B] w (Did B f (mOf k) er (pOf k (.mk k t n r cols cons names rows wh sets order limit priv opt kids)) w):=by
 by_cases k16:k=16
 · subst k16;exact ofRows_16 hx h
 by_cases k17:k=17
 · subst k17;exact ofRows_17 hx h
 by_cases k18:k=18
 · subst k18;exact ofRows_18 hx h
 by_cases k19:k=19
 · subst k19;exact ofRows_19 hx h
 omega
theorem ofPlan_any {k:Int} {t n r:Bs} {cols:List Co} {cons:List Cn} {names:List Bs} {rows:List (List Ex)} {wh:Ex} {sets:List (Bs × Ex)} {order:List (Ex × Bool)} {limit priv:Int} {opt:Bool} {kids:List St} (hk:20≤k) (hx:CkX w B f k t n r cols cons names rows wh sets order limit priv opt kids) (h:Cel w B tC (ckA f m0 er)):Calls Tryz.prog 59 #[cP B] w (Did B f (mOf k) er (pOf k (.mk k t n r cols cons names rows wh sets order limit priv opt kids)) w):=by
 by_cases k20:k=20
 · subst k20;exact ofPlan_20 hx h
 by_cases k21:k=21
 · subst k21;exact ofPlan_21 hx h
 by_cases k22:k=22
 · subst k22;exact ofPlan_22 hx h
 exact ofPlan_hi (by omega) hx h
set_option maxRecDepth 100000 in
theorem fields_any {k:Int} {t n r:Bs} {cols:List Co} {cons:List Cn} {names:List Bs} {rows:List (List Ex)} {wh:Ex} {sets:List (Bs × Ex)} {order:List (Ex × Bool)} {limit priv:Int} {opt:Bool} {kids:List St} (hx:CkX w B f k t n r cols cons names rows wh sets order limit priv opt kids) (h:Cel w B tC (ckA f m0 er)):Calls Tryz.prog 36 #[cP B] w (Did B f (mOf k) er (pOf k (.mk k t n r cols cons names rows wh sets order limit priv opt kids)) w):=by
 have k0:w.cell? ⟨B,0,none⟩=some (.int .i64 k):=(show w.cell? ⟨B,0,none⟩=some (.int .i64 f.sk) from h.at_ 0).trans (by rw [hx.all.all.1.1])
 by_cases a1:k≤9
 · have t1:decide (k≤9)=true:=decide_eq_true a1
   have HI:=Lib.hid (ofTable_any a1 hx h)
   clear h hx
   go_enter Tryz.func36,Tryz.ntmps36
   go_wp2_with (go_at_call 56;(with_reducible refine HI.out.mono ?_);rintro e1 w1 ⟨rfl,HD1⟩)
   go_end0
   exact ⟨rfl,HD1⟩
 have t1:decide (k≤9)=false:=decide_eq_false a1
 by_cases a2:k≤15
 · have t2:decide (k≤15)=true:=decide_eq_true a2
   have HI:=Lib.hid (ofRole_any ⟨by omega,a2⟩ hx h)
   clear h hx
   go_enter Tryz.func36,Tryz.ntmps36
   go_wp2_with (go_at_call 57;(with_reducible refine HI.out.mono ?_);rintro e1 w1 ⟨rfl,HD1⟩)
   go_end0
   exact ⟨rfl,HD1⟩
 have t2:decide (k≤15)=false:=decide_eq_false a2
 by_cases a3:k≤19
 · have t3:decide (k≤19)=true:=decide_eq_true a3
   have HI:=Lib.hid (ofRows_any ⟨by omega,a3⟩ hx h)
   clear h hx
   go_enter Tryz.func36,Tryz.ntmps36
   go_wp2_with (go_at_call 58;(with_reducible refine HI.out.mono ?_);rintro e1 w1 ⟨rfl,HD1⟩)
   go_end0
   exact ⟨rfl,HD1⟩
 have t3:decide (k≤19)=false:=decide_eq_false a3
 have HI:=Lib.hid (ofPlan_any (by omega) hx h)
 clear h hx
 go_enter Tryz.func36,Tryz.ntmps36
 go_wp2_with (go_at_call 59;(with_reducible refine HI.out.mono ?_);rintro e1 w1 ⟨rfl,HD1⟩)
 go_end0
 exact ⟨rfl,HD1⟩
end
theorem ckA_one (f:Fl):(ckA f m0 0).all (·.oneCell')=true:=by simp [ckA,sel,m0,Value.oneCell']
set_option maxRecDepth 100000 in
set_option maxHeartbeats 8000000 in
theorem check_st:∀x:St,CheckC x:=by
  refine St.byKids fun k t n r cols cons names rows wh sets order limit priv opt kids ih=>?_
  intro cs w hx hS hf hl
  obtain ⟨f,rfl⟩:=fl_of hx
  obtain ⟨x,hxx⟩:∃x,St.mk k t n r cols cons names rows wh sets order limit priv opt kids=x:=⟨_,rfl⟩
  show Calls Tryz.prog 20 #[.agg #[.int .i64 f.sk, .string (txt f.tt), .string (txt f.tn), .string (txt f.tr), .slice f.A4 f.n4 f.a4, .slice f.A5 f.n5 f.a5, .slice f.A6 f.n6 f.a6, .slice f.A7 f.n7 f.a7, .int .i64 f.ek, .int .i64 f.eo, .int .i64 f.vk, .int .i64 f.vn, .string f.vs, .string f.ns, .slice f.A8 f.n8 f.a8, .slice f.A9 f.n9 f.a9, .slice f.A10 f.n10 f.a10, .int .i64 f.li, .int .i64 f.pr, .bool f.op, .slice f.A14 f.n14 f.a14]] w _
  obtain ⟨W0,hW0⟩:∃W,w.alloc (.cells #[.int .i64 f.sk, .string (txt f.tt), .string (txt f.tn), .string (txt f.tr), .slice f.A4 f.n4 f.a4, .slice f.A5 f.n5 f.a5, .slice f.A6 f.n6 f.a6, .slice f.A7 f.n7 f.a7, .int .i64 f.ek, .int .i64 f.eo, .int .i64 f.vk, .int .i64 f.vn, .string f.vs, .string f.ns, .slice f.A8 f.n8 f.a8, .slice f.A9 f.n9 f.a9, .slice f.A10 f.n10 f.a10, .int .i64 f.li, .int .i64 f.pr, .bool f.op, .slice f.A14 f.n14 f.a14] tSt)=W:=⟨_,rfl⟩
  obtain ⟨W1,hW1⟩:∃W,W0.alloc (.cells (ckA f m0 0) tC)=W:=⟨_,rfl⟩
  have hs0:W0.heap.size=w.heap.size+1:=by rw [←hW0];simp
  have hb0:Below w.heap.size w W0:=by rw [←hW0];exact al (Below.refl _ _) _
  have hb:Below w.heap.size w W1:=by rw [←hW1];exact al hb0 _
  have x0:Cel W0 w.heap.size tSt f.cells.toArray:=by rw [←hW0];exact Cel.new w _ _ rfl
  have y0:W0.cell? ⟨w.heap.size,0,none⟩=some (.int .i64 f.sk):=x0.at_ 0
  have h1:Cel W1 W0.heap.size tC (ckA f m0 0):=by rw [←hW1];exact Cel.new W0 _ _ rfl
  have hB:0<W0.heap.size:=by have:=hS.lt;omega
  have hf1:FlIn W1 W0.heap.size f (.mk k t n r cols cons names rows wh sets order limit priv opt kids):=DtIn.to (w:=w) (w' :=W1) (S:=fun b=>b<w.heap.size) (S' :=fun b=>b<W0.heap.size) (fun b g=>by omega) (fun p hp=>hb.cell hp) _ _ hx
  have HX1:CkX W1 W0.heap.size f k t n r cols cons names rows wh sets order limit priv opt kids:=⟨⟨hS.below hb hS.lt,hB⟩,hf1,hf,hl,ih⟩
  have HF:=Lib.hid (show Calls Tryz.prog 36 #[cP W0.heap.size] W1 (Did W0.heap.size f (mOf k) 0 (pOf k x) W1) from by rw [←hxx];exact fields_any HX1 h1)
  obtain ⟨M,hM⟩:∃M,mOf k=M:=⟨_,rfl⟩
  have HZ:=Lib.hid (show ∀w1 er1,Cel w1 W0.heap.size tC (ckA f M er1)→Oth W0.heap.size W1 w1→(er1=0↔(0:Int)=0∧pOf k x)→∃s:Bool,
      Calls Tryz.prog 10 #[.agg f.cells.toArray, .agg (f.kept M).toArray] w1 (fun e w' =>e= .returned (.bool s)∧Below w1.heap.size w1 w')∧
      ∀w2,Below w1.heap.size w1 w2→Calls Tryz.prog 37 #[cP W0.heap.size, .bool s] w2 (fun e w' =>e= .returned (.tuple #[])∧∃q:Int,w'.cell? ⟨W0.heap.size,42,none⟩=some (.int .i64 q)∧(q=0↔OkS x)∧Below w.heap.size w w') from fun w1 er1 g1 g2 g3=>by
    refine ⟨eqB x (keep M x),?_,?_⟩
    · have g4:DtIn w1 (fun b=>b<w1.heap.size) (stDt x) f.cells:=by
        rw [←hxx]
        exact DtIn.to (w:=W1) (w' :=w1) (S:=fun b=>b<W0.heap.size) (S' :=fun b=>b<w1.heap.size) (fun b g=>Nat.lt_trans g g1.lt) (fun p hp=>g2.1.cell hp) _ _ hf1
      exact stSame_any x (keep M x) f.cells (f.kept M) w1 g4 (keep_in M g4)
    · intro w2 hw
      refine (must_any _ (g1.below hw)).mono fun e w' d=>?_
      obtain ⟨rfl,q,d1,d2,d3⟩:=d
      refine ⟨rfl,q,d1.at_ 42,?_,?_⟩
      · rw [d3,g3,eqB_iff,ok_iff,←hxx,←hM]
        exact ⟨fun g=>⟨g.1.2,g.2⟩,fun g=>⟨⟨rfl,g.1⟩,g.2⟩⟩
      · have b1:Below w.heap.size w w1:=hb.trans (g2.1.mono (by omega))
        have b2:Below w.heap.size w w2:=b1.trans (hw.mono b1.size)
        exact b2.trans (d2.1.mono (by omega)))
  rw [hM] at HF
  have HS0:=Lib.hid hs0
  have HX0:=Lib.hid x0
  clear hs0 hb0 hb x0 h1 hB hf1 HX1 hx hS hf hl ih hM
  have HW0:=Lib.hid hW0
  have HXX:=Lib.hid hxx
  clear hxx
  have HW1:=Lib.hid hW1
  clear hW1
  go_enter Tryz.func20,Tryz.ntmps20
  go_wp2_with (first|(refine load_stmt rfl _ rfl w.heap.size 0 rfl [.int .i64 f.sk, .string (txt f.tt), .string (txt f.tn), .string (txt f.tr), .slice f.A4 f.n4 f.a4, .slice f.A5 f.n5 f.a5, .slice f.A6 f.n6 f.a6, .slice f.A7 f.n7 f.a7, .int .i64 f.ek, .int .i64 f.eo, .int .i64 f.vk, .int .i64 f.vn, .string f.vs, .string f.ns, .slice f.A8 f.n8 f.a8, .slice f.A9 f.n9 f.a9, .slice f.A10 f.n10 f.a10, .int .i64 f.li, .int .i64 f.pr, .bool f.op, .slice f.A14 f.n14 f.a14] (at_cel HX0.out) rfl ?_)|(refine wpList_store_new rfl tC _ _ rfl W0 _ (ckA f m0 0) rfl rfl checker_size rfl (ckA_one f) ?_;rw [HW1.out])|(go_at_call 36;(with_reducible refine HF.out.mono ?_);rintro e1 w1 ⟨rfl,er1,hC,hO,hq⟩;obtain ⟨s,HSM,HMU⟩:=HZ.out w1 er1 hC hO hq;have HSM:=Lib.hid HSM;have HMU:=Lib.hid HMU;have HA1:=Lib.hid (ck_from hC);have HA2:=Lib.hid (ck_kept hC);clear hC hO hq)|(refine load_stmt rfl _ rfl W0.heap.size 0 rfl f.cells HA1.out rfl ?_)|(refine load_stmt rfl _ rfl W0.heap.size 21 rfl (f.kept M) HA2.out rfl ?_)|(go_at_call 10;(with_reducible refine HSM.out.mono ?_);rintro e2 w2 ⟨rfl,hb2⟩;have HM2:=Lib.hid (HMU.out w2 hb2);clear hb2)|(go_at_call 37;(with_reducible refine HM2.out.mono ?_);rintro e3 w3 ⟨rfl,q,z0,z1,z2⟩;have HQ:=Lib.hid z1;have HBL:=Lib.hid z2;clear z1 z2))
  go_ret
  exact ⟨q,rfl,by rw [HXX.out];exact HQ.out,HBL.out⟩
end Go.Proofs.YtiaomhdmllhmmaaGreatDoor.Sm
