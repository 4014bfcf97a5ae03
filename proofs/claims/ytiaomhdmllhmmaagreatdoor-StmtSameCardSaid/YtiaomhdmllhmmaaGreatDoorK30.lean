/- What a checker asks, kind by kind: roles. -/
import Derived.Test.YtiaomhdmllhmmaaGreatDoorK24
namespace Go.Proofs.YtiaomhdmllhmmaaGreatDoor.Sm
open Go.RowKit Mem Ep Right Lx Go.ChangeShapes Go.WideShapes
set_option linter.unusedVariables false
section
variable {w w' :World} {B:Nat} {f:Fl} {m:Mk} {er:Int} {P:Prop}
set_option maxRecDepth 100000 in
set_option maxHeartbeats 4000000 in
theorem ofRole_10 {t n r:Bs} {cols:List Co} {cons:List Cn} {names:List Bs} {rows:List (List Ex)} {wh:Ex} {sets:List (Bs × Ex)} {order:List (Ex × Bool)} {limit priv:Int} {opt:Bool} {kids:List St} (hx:CkX w B f 10 t n r cols cons names rows wh sets order limit priv opt kids) (h:Cel w B tC (ckA f m0 er)):Calls Tryz.prog 57 #[cP B] w (Did B f (mOf 10) er (pOf 10 (.mk 10 t n r cols cons names rows wh sets order limit priv opt kids)) w):=by
 have hlB:=h.lt
 have C0:=Lib.hid h
 have O0:=Lib.hid (Oth.refl B w)
 have X0:=Lib.hid hx
 have HK:=Lib.hid (show f.sk=10 from hx.all.all.1.1)
 have k0:w.cell? ⟨B,0,none⟩=some (.int .i64 10):=(show w.cell? ⟨B,0,none⟩=some (.int .i64 f.sk) from h.at_ 0).trans (by rw [HK.out])
 clear h hx
 go_enter Tryz.func57,Tryz.ntmps57
 have H0:=Lib.hid (show Calls Tryz.prog 118 #[cP B] w (Did B f {m0 with n:=true} er (isN f.tn) w) from name_any C0.out X0.out.env (X0.out.all.all.1.2.2.1.symm▸((sLim_mk _ _ _ _ _ _ _ _ _ _ _ _ _ _ _).1 X0.out.lim).1.1.2.1))
 go_wp2_with (go_at_call 118;(with_reducible refine H0.out.mono ?_))
 rintro e1 w1 ⟨rfl,er1,hC,hO,hq⟩
 have C1:=Lib.hid hC
 have O1:=Lib.hid (O0.out.trans hO)
 have X1:=Lib.hid (X0.out.to hO)
 have Q1:=Lib.hid (show er1=0↔er=0∧(isN f.tn) by rw [hq])
 have k1:w1.cell? ⟨B,0,none⟩=some (.int .i64 10):=(show w1.cell? ⟨B,0,none⟩=some (.int .i64 f.sk) from hC.at_ 0).trans (by rw [HK.out])
 clear hC hO hq
 have HX:=Lib.hid (show (isN f.tn)↔pOf 10 (.mk 10 t n r cols cons names rows wh sets order limit priv opt kids) by
   obtain ⟨⟨e0,e1,e2,e3,e4,e5,e6⟩, -⟩:=X0.out.all.all
   simp only [e2]
   exact Iff.rfl)
 have HD:=Lib.hid (show Did B f (mOf 10) er (pOf 10 (.mk 10 t n r cols cons names rows wh sets order limit priv opt kids)) w (.returned (.tuple #[])) w1 from ⟨rfl,er1,C1.out,O1.out,by rw [Q1.out,HX.out]⟩)
 clear HX
 go_wp2
 go_end0
 exact HD.out
set_option maxRecDepth 100000 in
set_option maxHeartbeats 4000000 in
theorem ofRole_11 {t n r:Bs} {cols:List Co} {cons:List Cn} {names:List Bs} {rows:List (List Ex)} {wh:Ex} {sets:List (Bs × Ex)} {order:List (Ex × Bool)} {limit priv:Int} {opt:Bool} {kids:List St} (hx:CkX w B f 11 t n r cols cons names rows wh sets order limit priv opt kids) (h:Cel w B tC (ckA f m0 er)):Calls Tryz.prog 57 #[cP B] w (Did B f (mOf 11) er (pOf 11 (.mk 11 t n r cols cons names rows wh sets order limit priv opt kids)) w):=by
 have hlB:=h.lt
 have C0:=Lib.hid h
 have O0:=Lib.hid (Oth.refl B w)
 have X0:=Lib.hid hx
 have HK:=Lib.hid (show f.sk=11 from hx.all.all.1.1)
 have k0:w.cell? ⟨B,0,none⟩=some (.int .i64 11):=(show w.cell? ⟨B,0,none⟩=some (.int .i64 f.sk) from h.at_ 0).trans (by rw [HK.out])
 clear h hx
 go_enter Tryz.func57,Tryz.ntmps57
 have H0:=Lib.hid (show Calls Tryz.prog 118 #[cP B] w (Did B f {m0 with n:=true} er (isN f.tn) w) from name_any C0.out X0.out.env (X0.out.all.all.1.2.2.1.symm▸((sLim_mk _ _ _ _ _ _ _ _ _ _ _ _ _ _ _).1 X0.out.lim).1.1.2.1))
 go_wp2_with (go_at_call 118;(with_reducible refine H0.out.mono ?_))
 rintro e1 w1 ⟨rfl,er1,hC,hO,hq⟩
 have C1:=Lib.hid hC
 have O1:=Lib.hid (O0.out.trans hO)
 have X1:=Lib.hid (X0.out.to hO)
 have Q1:=Lib.hid (show er1=0↔er=0∧(isN f.tn) by rw [hq])
 have k1:w1.cell? ⟨B,0,none⟩=some (.int .i64 11):=(show w1.cell? ⟨B,0,none⟩=some (.int .i64 f.sk) from hC.at_ 0).trans (by rw [HK.out])
 clear hC hO hq
 have HX:=Lib.hid (show (isN f.tn)↔pOf 11 (.mk 11 t n r cols cons names rows wh sets order limit priv opt kids) by
   obtain ⟨⟨e0,e1,e2,e3,e4,e5,e6⟩, -⟩:=X0.out.all.all
   simp only [e2]
   exact Iff.rfl)
 have HD:=Lib.hid (show Did B f (mOf 11) er (pOf 11 (.mk 11 t n r cols cons names rows wh sets order limit priv opt kids)) w (.returned (.tuple #[])) w1 from ⟨rfl,er1,C1.out,O1.out,by rw [Q1.out,HX.out]⟩)
 clear HX
 go_wp2
 go_end0
 exact HD.out
set_option maxRecDepth 100000 in
set_option maxHeartbeats 4000000 in
theorem ofRole_12 {t n r:Bs} {cols:List Co} {cons:List Cn} {names:List Bs} {rows:List (List Ex)} {wh:Ex} {sets:List (Bs × Ex)} {order:List (Ex × Bool)} {limit priv:Int} {opt:Bool} {kids:List St} (hx:CkX w B f 12 t n r cols cons names rows wh sets order limit priv opt kids) (h:Cel w B tC (ckA f m0 er)):Calls Tryz.prog 57 #[cP B] w (Did B f (mOf 12) er (pOf 12 (.mk 12 t n r cols cons names rows wh sets order limit priv opt kids)) w):=by
 have hlB:=h.lt
 have C0:=Lib.hid h
 have O0:=Lib.hid (Oth.refl B w)
 have X0:=Lib.hid hx
 have HK:=Lib.hid (show f.sk=12 from hx.all.all.1.1)
 have k0:w.cell? ⟨B,0,none⟩=some (.int .i64 12):=(show w.cell? ⟨B,0,none⟩=some (.int .i64 f.sk) from h.at_ 0).trans (by rw [HK.out])
 clear h hx
 go_enter Tryz.func57,Tryz.ntmps57
 have H0:=Lib.hid (show Calls Tryz.prog 118 #[cP B] w (Did B f {m0 with n:=true} er (isN f.tn) w) from name_any C0.out X0.out.env (X0.out.all.all.1.2.2.1.symm▸((sLim_mk _ _ _ _ _ _ _ _ _ _ _ _ _ _ _).1 X0.out.lim).1.1.2.1))
 go_wp2_with (go_at_call 118;(with_reducible refine H0.out.mono ?_))
 rintro e1 w1 ⟨rfl,er1,hC,hO,hq⟩
 have C1:=Lib.hid hC
 have O1:=Lib.hid (O0.out.trans hO)
 have X1:=Lib.hid (X0.out.to hO)
 have Q1:=Lib.hid (show er1=0↔er=0∧(isN f.tn) by rw [hq])
 have k1:w1.cell? ⟨B,0,none⟩=some (.int .i64 12):=(show w1.cell? ⟨B,0,none⟩=some (.int .i64 f.sk) from hC.at_ 0).trans (by rw [HK.out])
 clear hC hO hq
 have H1:=Lib.hid (show Calls Tryz.prog 120 #[cP B] w1 (Did B f { {m0 with n:=true} with r:=true} er1 (isN f.tr) w1) from role_any C1.out X1.out.env (X1.out.all.all.1.2.2.2.1.symm▸((sLim_mk _ _ _ _ _ _ _ _ _ _ _ _ _ _ _).1 X1.out.lim).1.1.2.2))
 go_wp2_with (go_at_call 120;(with_reducible refine H1.out.mono ?_))
 rintro e2 w2 ⟨rfl,er2,hC,hO,hq⟩
 have C2:=Lib.hid hC
 have O2:=Lib.hid (O1.out.trans hO)
 have X2:=Lib.hid (X1.out.to hO)
 have Q2:=Lib.hid (show er2=0↔er=0∧((isN f.tn)∧(isN f.tr)) by rw [hq,Q1.out,and_assoc])
 have k2:w2.cell? ⟨B,0,none⟩=some (.int .i64 12):=(show w2.cell? ⟨B,0,none⟩=some (.int .i64 f.sk) from hC.at_ 0).trans (by rw [HK.out])
 clear hC hO hq
 have HX:=Lib.hid (show ((isN f.tn)∧(isN f.tr))↔pOf 12 (.mk 12 t n r cols cons names rows wh sets order limit priv opt kids) by
   obtain ⟨⟨e0,e1,e2,e3,e4,e5,e6⟩, -⟩:=X0.out.all.all
   simp only [e2,e3]
   exact Iff.rfl)
 have HD:=Lib.hid (show Did B f (mOf 12) er (pOf 12 (.mk 12 t n r cols cons names rows wh sets order limit priv opt kids)) w (.returned (.tuple #[])) w2 from ⟨rfl,er2,C2.out,O2.out,by rw [Q2.out,HX.out]⟩)
 clear HX
 go_wp2
 go_end0
 exact HD.out
set_option maxRecDepth 100000 in
set_option maxHeartbeats 4000000 in
theorem ofRole_13 {t n r:Bs} {cols:List Co} {cons:List Cn} {names:List Bs} {rows:List (List Ex)} {wh:Ex} {sets:List (Bs × Ex)} {order:List (Ex × Bool)} {limit priv:Int} {opt:Bool} {kids:List St} (hx:CkX w B f 13 t n r cols cons names rows wh sets order limit priv opt kids) (h:Cel w B tC (ckA f m0 er)):Calls Tryz.prog 57 #[cP B] w (Did B f (mOf 13) er (pOf 13 (.mk 13 t n r cols cons names rows wh sets order limit priv opt kids)) w):=by
 have hlB:=h.lt
 have C0:=Lib.hid h
 have O0:=Lib.hid (Oth.refl B w)
 have X0:=Lib.hid hx
 have HK:=Lib.hid (show f.sk=13 from hx.all.all.1.1)
 have k0:w.cell? ⟨B,0,none⟩=some (.int .i64 13):=(show w.cell? ⟨B,0,none⟩=some (.int .i64 f.sk) from h.at_ 0).trans (by rw [HK.out])
 clear h hx
 go_enter Tryz.func57,Tryz.ntmps57
 have H0:=Lib.hid (show Calls Tryz.prog 118 #[cP B] w (Did B f {m0 with n:=true} er (isN f.tn) w) from name_any C0.out X0.out.env (X0.out.all.all.1.2.2.1.symm▸((sLim_mk _ _ _ _ _ _ _ _ _ _ _ _ _ _ _).1 X0.out.lim).1.1.2.1))
 go_wp2_with (go_at_call 118;(with_reducible refine H0.out.mono ?_))
 rintro e1 w1 ⟨rfl,er1,hC,hO,hq⟩
 have C1:=Lib.hid hC
 have O1:=Lib.hid (O0.out.trans hO)
 have X1:=Lib.hid (X0.out.to hO)
 have Q1:=Lib.hid (show er1=0↔er=0∧(isN f.tn) by rw [hq])
 have k1:w1.cell? ⟨B,0,none⟩=some (.int .i64 13):=(show w1.cell? ⟨B,0,none⟩=some (.int .i64 f.sk) from hC.at_ 0).trans (by rw [HK.out])
 clear hC hO hq
 have H1:=Lib.hid (show Calls Tryz.prog 120 #[cP B] w1 (Did B f { {m0 with n:=true} with r:=true} er1 (isN f.tr) w1) from role_any C1.out X1.out.env (X1.out.all.all.1.2.2.2.1.symm▸((sLim_mk _ _ _ _ _ _ _ _ _ _ _ _ _ _ _).1 X1.out.lim).1.1.2.2))
 go_wp2_with (go_at_call 120;(with_reducible refine H1.out.mono ?_))
 rintro e2 w2 ⟨rfl,er2,hC,hO,hq⟩
 have C2:=Lib.hid hC
 have O2:=Lib.hid (O1.out.trans hO)
 have X2:=Lib.hid (X1.out.to hO)
 have Q2:=Lib.hid (show er2=0↔er=0∧((isN f.tn)∧(isN f.tr)) by rw [hq,Q1.out,and_assoc])
 have k2:w2.cell? ⟨B,0,none⟩=some (.int .i64 13):=(show w2.cell? ⟨B,0,none⟩=some (.int .i64 f.sk) from hC.at_ 0).trans (by rw [HK.out])
 clear hC hO hq
 have HX:=Lib.hid (show ((isN f.tn)∧(isN f.tr))↔pOf 13 (.mk 13 t n r cols cons names rows wh sets order limit priv opt kids) by
   obtain ⟨⟨e0,e1,e2,e3,e4,e5,e6⟩, -⟩:=X0.out.all.all
   simp only [e2,e3]
   exact Iff.rfl)
 have HD:=Lib.hid (show Did B f (mOf 13) er (pOf 13 (.mk 13 t n r cols cons names rows wh sets order limit priv opt kids)) w (.returned (.tuple #[])) w2 from ⟨rfl,er2,C2.out,O2.out,by rw [Q2.out,HX.out]⟩)
 clear HX
 go_wp2
 go_end0
 exact HD.out
set_option maxRecDepth 100000 in
set_option maxHeartbeats 4000000 in
theorem ofRole_14 {t n r:Bs} {cols:List Co} {cons:List Cn} {names:List Bs} {rows:List (List Ex)} {wh:Ex} {sets:List (Bs × Ex)} {order:List (Ex × Bool)} {limit priv:Int} {opt:Bool} {kids:List St} (hx:CkX w B f 14 t n r cols cons names rows wh sets order limit priv opt kids) (h:Cel w B tC (ckA f m0 er)):Calls Tryz.prog 57 #[cP B] w (Did B f (mOf 14) er (pOf 14 (.mk 14 t n r cols cons names rows wh sets order limit priv opt kids)) w):=by
 have hlB:=h.lt
 have C0:=Lib.hid h
 have O0:=Lib.hid (Oth.refl B w)
 have X0:=Lib.hid hx
 have HK:=Lib.hid (show f.sk=14 from hx.all.all.1.1)
 have k0:w.cell? ⟨B,0,none⟩=some (.int .i64 14):=(show w.cell? ⟨B,0,none⟩=some (.int .i64 f.sk) from h.at_ 0).trans (by rw [HK.out])
 clear h hx
 go_enter Tryz.func57,Tryz.ntmps57
 have c19:w.cell? ⟨B,19,none⟩=some (.bool f.op):=C0.out.at_ 19
 have c40:w.cell? ⟨B,40,none⟩=some (sel m0.op (.bool f.op) (.bool false)):=C0.out.at_ 40
 have f40:=C0.out.open_ 40
 obtain ⟨w1,hw1⟩:∃W,w.setCell ⟨B,40,none⟩ (.bool f.op)=W:=⟨_,rfl⟩
 have C1:=Lib.hid (show Cel w1 B tC (ckA f {m0 with op:=true} er) by rw [←hw1];exact Cel.set C0.out 40 (.bool f.op))
 have O1:=Lib.hid (show Oth B w w1 by rw [←hw1];exact (Oth.refl B w).set 40 (.bool f.op))
 have X1:=Lib.hid (X0.out.to O1.out)
 have H1:=Lib.hid (show Calls Tryz.prog 121 #[cP B] w1 (Did B f { {m0 with op:=true} with pr:=true,t:=true,r:=true} er (okPr f.pr∧isN f.tt∧isN f.tr) w1) from cpriv_any C1.out X1.out.env (X1.out.all.all.1.2.1.symm▸((sLim_mk _ _ _ _ _ _ _ _ _ _ _ _ _ _ _).1 X1.out.lim).1.1.1) (X1.out.all.all.1.2.2.2.1.symm▸((sLim_mk _ _ _ _ _ _ _ _ _ _ _ _ _ _ _).1 X1.out.lim).1.1.2.2))
 go_wp2_with (go_at_call 121;(with_reducible refine H1.out.mono ?_))
 rintro e2 w2 ⟨rfl,er2,hC,hO,hq⟩
 have C2:=Lib.hid hC
 have O2:=Lib.hid (O1.out.trans hO)
 have X2:=Lib.hid (X1.out.to hO)
 have Q2:=Lib.hid (show er2=0↔er=0∧(okPr f.pr∧isN f.tt∧isN f.tr) by rw [hq])
 have k2:w2.cell? ⟨B,0,none⟩=some (.int .i64 14):=(show w2.cell? ⟨B,0,none⟩=some (.int .i64 f.sk) from hC.at_ 0).trans (by rw [HK.out])
 clear hC hO hq
 have HX:=Lib.hid (show (okPr f.pr∧isN f.tt∧isN f.tr)↔pOf 14 (.mk 14 t n r cols cons names rows wh sets order limit priv opt kids) by
   obtain ⟨⟨e0,e1,e2,e3,e4,e5,e6⟩, -⟩:=X0.out.all.all
   simp only [e1,e3,e5]
   exact Iff.rfl)
 have HD:=Lib.hid (show Did B f (mOf 14) er (pOf 14 (.mk 14 t n r cols cons names rows wh sets order limit priv opt kids)) w (.returned (.tuple #[])) w2 from ⟨rfl,er2,C2.out,O2.out,by rw [Q2.out,HX.out]⟩)
 clear HX
 go_wp2
 go_end0
 exact HD.out
set_option maxRecDepth 100000 in
set_option maxHeartbeats 4000000 in
theorem ofRole_15 {t n r:Bs} {cols:List Co} {cons:List Cn} {names:List Bs} {rows:List (List Ex)} {wh:Ex} {sets:List (Bs × Ex)} {order:List (Ex × Bool)} {limit priv:Int} {opt:Bool} {kids:List St} (hx:CkX w B f 15 t n r cols cons names rows wh sets order limit priv opt kids) (h:Cel w B tC (ckA f m0 er)):Calls Tryz.prog 57 #[cP B] w (Did B f (mOf 15) er (pOf 15 (.mk 15 t n r cols cons names rows wh sets order limit priv opt kids)) w):=by
 have hlB:=h.lt
 have C0:=Lib.hid h
 have O0:=Lib.hid (Oth.refl B w)
 have X0:=Lib.hid hx
 have HK:=Lib.hid (show f.sk=15 from hx.all.all.1.1)
 have k0:w.cell? ⟨B,0,none⟩=some (.int .i64 15):=(show w.cell? ⟨B,0,none⟩=some (.int .i64 f.sk) from h.at_ 0).trans (by rw [HK.out])
 clear h hx
 go_enter Tryz.func57,Tryz.ntmps57
 have H0:=Lib.hid (show Calls Tryz.prog 121 #[cP B] w (Did B f {m0 with pr:=true,t:=true,r:=true} er (okPr f.pr∧isN f.tt∧isN f.tr) w) from cpriv_any C0.out X0.out.env (X0.out.all.all.1.2.1.symm▸((sLim_mk _ _ _ _ _ _ _ _ _ _ _ _ _ _ _).1 X0.out.lim).1.1.1) (X0.out.all.all.1.2.2.2.1.symm▸((sLim_mk _ _ _ _ _ _ _ _ _ _ _ _ _ _ _).1 X0.out.lim).1.1.2.2))
 go_wp2_with (go_at_call 121;(with_reducible refine H0.out.mono ?_))
 rintro e1 w1 ⟨rfl,er1,hC,hO,hq⟩
 have C1:=Lib.hid hC
 have O1:=Lib.hid (O0.out.trans hO)
 have X1:=Lib.hid (X0.out.to hO)
 have Q1:=Lib.hid (show er1=0↔er=0∧(okPr f.pr∧isN f.tt∧isN f.tr) by rw [hq])
 have k1:w1.cell? ⟨B,0,none⟩=some (.int .i64 15):=(show w1.cell? ⟨B,0,none⟩=some (.int .i64 f.sk) from hC.at_ 0).trans (by rw [HK.out])
 clear hC hO hq
 have HX:=Lib.hid (show (okPr f.pr∧isN f.tt∧isN f.tr)↔pOf 15 (.mk 15 t n r cols cons names rows wh sets order limit priv opt kids) by
   obtain ⟨⟨e0,e1,e2,e3,e4,e5,e6⟩, -⟩:=X0.out.all.all
   simp only [e1,e3,e5]
   exact Iff.rfl)
 have HD:=Lib.hid (show Did B f (mOf 15) er (pOf 15 (.mk 15 t n r cols cons names rows wh sets order limit priv opt kids)) w (.returned (.tuple #[])) w1 from ⟨rfl,er1,C1.out,O1.out,by rw [Q1.out,HX.out]⟩)
 clear HX
 go_wp2
 go_end0
 exact HD.out
end
end Go.Proofs.YtiaomhdmllhmmaaGreatDoor.Sm
