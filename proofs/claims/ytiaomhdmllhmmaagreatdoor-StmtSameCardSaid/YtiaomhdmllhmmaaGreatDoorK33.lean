/- A statement is written: an index, a column, a constraint. A statement is written: what is changed and dropped. -/
import Derived.Test.YtiaomhdmllhmmaaGreatDoorK32
namespace Go.Proofs.YtiaomhdmllhmmaaGreatDoor.Sm
open Go.RowKit Mem Ep Right Lx Go.ChangeShapes Go.WideShapes
set_option linter.unusedVariables false
section
variable {w w' :World} {b:Nat} {l:List UInt8} {lg:Bool} {f:Fl}
theorem tx_wofTable_8 {t n r:Bs} {cols:List Co} {cons:List Cn} {names:List Bs} {rows:List (List Ex)} {wh:Ex} {sets:List (Bs × Ex)} {order:List (Ex × Bool)} {limit priv:Int} {opt:Bool} {kids:List St}:tx (stP (.mk 8 t n r cols cons names rows wh sets order limit priv opt kids))=List.flatten [[67,82,69,65,84,69,32,73,78,68,69,88,32],n, [32,79,78,32],t]++tx (none::brk (nmsP names)):=by
 rw [stP.eq_def]
 show [67,82,69,65,84,69,32,73,78,68,69,88,32]++(n++([32,79,78,32]++(t++tx (none::brk (nmsP names)))))=_;simp
set_option maxRecDepth 100000 in
set_option maxHeartbeats 4000000 in
theorem wofTable_8 {t n r:Bs} {cols:List Co} {cons:List Cn} {names:List Bs} {rows:List (List Ex)} {wh:Ex} {sets:List (Bs × Ex)} {order:List (Ex × Bool)} {limit priv:Int} {opt:Bool} {kids:List St} (hx:WX w b f 8 t n r cols cons names rows wh sets order limit priv opt kids) (hne:names≠ []) (h:Ww b l lg w) (HL:l.length+(tx (stP (.mk 8 t n r cols cons names rows wh sets order limit priv opt kids))).length≤1000000000):
   Calls Tryz.prog 41 #[.pointer (some ⟨b,0,none⟩), .agg f.cells.toArray] w (WDid b l lg (tx (stP (.mk 8 t n r cols cons names rows wh sets order limit priv opt kids))) w):=by
 obtain ⟨V1,hV1⟩:∃W1,w.alloc (.cells f.cells.toArray tSt)=W1:=⟨_,rfl⟩
 have hb:Below w.heap.size w V1:=by rw [←hV1];exact al (Below.refl _ _) _
 have X0:=Lib.hid (show Cel V1 w.heap.size tSt f.cells.toArray by rw [←hV1];exact Cel.new _ _ _ rfl)
 have hlb:=h.lt
 have hw1:=h.below hb
 have hr1:Wr b w V1:=Wr.of hb (Nat.le_of_lt hlb)
 have HLEN:=Lib.hid (show l.length+(List.flatten [[67,82,69,65,84,69,32,73,78,68,69,88,32],n, [32,79,78,32],t]++tx (none::brk (nmsP names))).length≤1000000000 by rw [←tx_wofTable_8];exact HL)
 have HX:=Lib.hid hx
 obtain ⟨⟨q0,q1,q2,q3,q4,q5,q6⟩, -⟩:=hx.all.all
 have E0:=Lib.hid q0
 have E1:=Lib.hid q1
 have E2:=Lib.hid q2
 have E3:=Lib.hid q3
 have E4:=Lib.hid q4
 have E5:=Lib.hid q5
 have E6:=Lib.hid q6
 have Yhne:=Lib.hid hne
 have W0:=Lib.hid hw1
 have R0:=Lib.hid (hr1)
 have T0:=Lib.hid (show Wt lg l [] lg l from .inl ⟨rfl,(List.append_nil l).symm⟩)
 have y0_0:V1.cell? ⟨w.heap.size,0,none⟩=some (.int .i64 8):=(X0.out.at_ 0).trans (by rw [←E0.out];rfl)
 clear h HL hb hw1 hr1 hx q0 q1 q2 q3 q4 q5 q6 hne
 go_enter Tryz.func41,Tryz.ntmps41
 have y0_1:V1.cell? ⟨w.heap.size,1,none⟩=some (.string (Ep.txt t)):=(X0.out.at_ 1).trans (by rw [←E1.out];rfl)
 have y0_2:V1.cell? ⟨w.heap.size,2,none⟩=some (.string (Ep.txt n)):=(X0.out.at_ 2).trans (by rw [←E2.out];rfl)
 have H0:=Lib.hid (show Calls Tryz.prog 73 #[.pointer (some ⟨b,0,none⟩), .slice (some ⟨V1.heap.size,0,none⟩) 4 4] (V1.alloc (.cells #[.string ⟨#[67,82,69,65,84,69,32,73,78,68,69,88,32]⟩, .string (Ep.txt n), .string ⟨#[32,79,78,32]⟩, .string (Ep.txt t)] tS)) (WDid b l lg (List.flatten [[67,82,69,65,84,69,32,73,78,68,69,88,32],n, [32,79,78,32],t]) V1) from saying [[67,82,69,65,84,69,32,73,78,68,69,88,32],n, [32,79,78,32],t] W0.out (by simp) (by have h1:=T0.out.len;have h2:=HLEN.out;simp only [List.length_append,List.length_nil] at h1 h2 ⊢;omega))
 go_wp2_with (go_at_call 73;(with_reducible refine H0.out.mono ?_))
 rintro e1 w1 ⟨rfl,l1,lg1,g1,g2,g3⟩
 have W1:=Lib.hid g1
 have R1:=Lib.hid (R0.out.trans g2)
 have T1:=Lib.hid (show Wt lg l ([]++(List.flatten [[67,82,69,65,84,69,32,73,78,68,69,88,32],n, [32,79,78,32],t])) lg1 l1 from T0.out.trans g3)
 have X1:=Lib.hid (g2.cel (by omega) (by decide) X0.out:Cel w1 w.heap.size tSt f.cells.toArray)
 clear g1 g2 g3
 have y1_6:w1.cell? ⟨w.heap.size,6,none⟩=some (.slice f.A6 f.n6 f.a6):=X1.out.at_ 6
 have H1:=Lib.hid (show Calls Tryz.prog 76 #[.pointer (some ⟨b,0,none⟩), .slice f.A6 f.n6 f.a6] w1 (WDid b l1 lg1 (tx (none::brk (nmsP names))) w1) from wnames_any Yhne.out (IsRow.to (fun c g=>g) (fun p hp=>R1.out.1.cell hp) HX.out.all.nms) W1.out (by have h1:=T1.out.len;have h2:=HLEN.out;simp only [List.length_append,List.length_nil] at h1 h2 ⊢;omega))
 go_wp2_with (go_at_call 76;(with_reducible refine H1.out.mono ?_))
 rintro e2 w2 ⟨rfl,l2,lg2,g1,g2,g3⟩
 have W2:=Lib.hid g1
 have R2:=Lib.hid (R1.out.trans g2)
 have T2:=Lib.hid (show Wt lg l ([]++(List.flatten [[67,82,69,65,84,69,32,73,78,68,69,88,32],n, [32,79,78,32],t])++(tx (none::brk (nmsP names)))) lg2 l2 from T1.out.trans g3)
 have X2:=Lib.hid (g2.cel (by omega) (by decide) X1.out:Cel w2 w.heap.size tSt f.cells.toArray)
 clear g1 g2 g3
 go_wp2
 go_end0
 exact ⟨rfl,_,_,W2.out,R2.out,by have:=T2.out;rwa [show []++(List.flatten [[67,82,69,65,84,69,32,73,78,68,69,88,32],n, [32,79,78,32],t])++(tx (none::brk (nmsP names)))=tx (stP (.mk 8 t n r cols cons names rows wh sets order limit priv opt kids)) from by rw [tx_wofTable_8];rfl] at this⟩
theorem tx_wofTable_3 {t n r:Bs} {x:Co} {cons:List Cn} {names:List Bs} {rows:List (List Ex)} {wh:Ex} {sets:List (Bs × Ex)} {order:List (Ex × Bool)} {limit priv:Int} {opt:Bool} {kids:List St}:tx (stP (.mk 3 t n r [x] cons names rows wh sets order limit priv opt kids))=List.flatten [[65,76,84,69,82,32,84,65,66,76,69,32],t, [32,65,68,68,32,67,79,76,85,77,78,32]]++tx (coP x):=by
 rw [stP.eq_def]
 show [65,76,84,69,82,32,84,65,66,76,69,32]++(t++([32,65,68,68,32,67,79,76,85,77,78,32]++tx (coP x)))=_;simp
set_option maxRecDepth 100000 in
set_option maxHeartbeats 4000000 in
theorem wofTable_3 {t n r:Bs} {x:Co} {cons:List Cn} {names:List Bs} {rows:List (List Ex)} {wh:Ex} {sets:List (Bs × Ex)} {order:List (Ex × Bool)} {limit priv:Int} {opt:Bool} {kids:List St} (hx:WX w b f 3 t n r [x] cons names rows wh sets order limit priv opt kids)  (h:Ww b l lg w) (HL:l.length+(tx (stP (.mk 3 t n r [x] cons names rows wh sets order limit priv opt kids))).length≤1000000000):
   Calls Tryz.prog 41 #[.pointer (some ⟨b,0,none⟩), .agg f.cells.toArray] w (WDid b l lg (tx (stP (.mk 3 t n r [x] cons names rows wh sets order limit priv opt kids))) w):=by
 obtain ⟨V1,hV1⟩:∃W1,w.alloc (.cells f.cells.toArray tSt)=W1:=⟨_,rfl⟩
 have hb:Below w.heap.size w V1:=by rw [←hV1];exact al (Below.refl _ _) _
 have X0:=Lib.hid (show Cel V1 w.heap.size tSt f.cells.toArray by rw [←hV1];exact Cel.new _ _ _ rfl)
 have hlb:=h.lt
 have hw1:=h.below hb
 have hr1:Wr b w V1:=Wr.of hb (Nat.le_of_lt hlb)
 have HLEN:=Lib.hid (show l.length+(List.flatten [[65,76,84,69,82,32,84,65,66,76,69,32],t, [32,65,68,68,32,67,79,76,85,77,78,32]]++tx (coP x)).length≤1000000000 by rw [←tx_wofTable_3];exact HL)
 have HX:=Lib.hid hx
 obtain ⟨⟨q0,q1,q2,q3,q4,q5,q6⟩, -⟩:=hx.all.all
 have E0:=Lib.hid q0
 have E1:=Lib.hid q1
 have E2:=Lib.hid q2
 have E3:=Lib.hid q3
 have E4:=Lib.hid q4
 have E5:=Lib.hid q5
 have E6:=Lib.hid q6
 have W0:=Lib.hid hw1
 have R0:=Lib.hid (hr1)
 have T0:=Lib.hid (show Wt lg l [] lg l from .inl ⟨rfl,(List.append_nil l).symm⟩)
 have y0_0:V1.cell? ⟨w.heap.size,0,none⟩=some (.int .i64 3):=(X0.out.at_ 0).trans (by rw [←E0.out];rfl)
 clear h HL hb hw1 hr1 hx q0 q1 q2 q3 q4 q5 q6
 go_enter Tryz.func41,Tryz.ntmps41
 have y0_1:V1.cell? ⟨w.heap.size,1,none⟩=some (.string (Ep.txt t)):=(X0.out.at_ 1).trans (by rw [←E1.out];rfl)
 have H0:=Lib.hid (show Calls Tryz.prog 73 #[.pointer (some ⟨b,0,none⟩), .slice (some ⟨V1.heap.size,0,none⟩) 3 3] (V1.alloc (.cells #[.string ⟨#[65,76,84,69,82,32,84,65,66,76,69,32]⟩, .string (Ep.txt t), .string ⟨#[32,65,68,68,32,67,79,76,85,77,78,32]⟩] tS)) (WDid b l lg (List.flatten [[65,76,84,69,82,32,84,65,66,76,69,32],t, [32,65,68,68,32,67,79,76,85,77,78,32]]) V1) from saying [[65,76,84,69,82,32,84,65,66,76,69,32],t, [32,65,68,68,32,67,79,76,85,77,78,32]] W0.out (by simp) (by have h1:=T0.out.len;have h2:=HLEN.out;simp only [List.length_append,List.length_nil] at h1 h2 ⊢;omega))
 go_wp2_with (go_at_call 73;(with_reducible refine H0.out.mono ?_))
 rintro e1 w1 ⟨rfl,l1,lg1,g1,g2,g3⟩
 have W1:=Lib.hid g1
 have R1:=Lib.hid (R0.out.trans g2)
 have T1:=Lib.hid (show Wt lg l ([]++(List.flatten [[65,76,84,69,82,32,84,65,66,76,69,32],t, [32,65,68,68,32,67,79,76,85,77,78,32]])) lg1 l1 from T0.out.trans g3)
 have X1:=Lib.hid (g2.cel (by omega) (by decide) X0.out:Cel w1 w.heap.size tSt f.cells.toArray)
 clear g1 g2 g3
 have y1_4:w1.cell? ⟨w.heap.size,4,none⟩=some (.slice f.A4 f.n4 f.a4):=X1.out.at_ 4
 have hL4:=HX.out.all.all.2.1
 obtain ⟨b1,z1,hA,hb1,p0,p1,p2⟩:=co_at (hL4.below R1.out.1).2.2 (show [x][0]?=some x from rfl)
 have hn4:f.n4=1:=hL4.1
 have z4:w1.cell? ⟨w.heap.size,4,none⟩=some (.slice (some ⟨b1,z1,none⟩) 1 f.a4):=y1_4.trans (by rw [hA,hn4])
 have c0:w1.cell? ⟨b1,z1,none⟩=some (.string (Ep.txt x.nm)):=by have c:=p0;simpa using c
 have c1:w1.cell? ⟨b1,z1+1,none⟩=some (.int .i64 x.ty):=by have c:=p1;simpa using c
 have c2:w1.cell? ⟨b1,z1+2,none⟩=some (.bool x.nn):=by have c:=p2;simpa using c
 clear p0 p1 p2 hA hb1 hL4 hn4 y1_4
 have H1:=Lib.hid (show Calls Tryz.prog 74 #[.pointer (some ⟨b,0,none⟩), .agg #[.string (Ep.txt x.nm), .int .i64 x.ty, .bool x.nn]] w1 (WDid b l1 lg1 (tx (coP x)) w1) from wcolumn_any (cs:= [.string (Ep.txt x.nm), .int .i64 x.ty, .bool x.nn]) (co_in.2 rfl) W1.out (by have h1:=T1.out.len;have h2:=HLEN.out;simp only [List.length_append,List.length_nil] at h1 h2 ⊢;omega))
 go_wp2_with (go_at_call 74;(with_reducible refine H1.out.mono ?_))
 rintro e2 w2 ⟨rfl,l2,lg2,g1,g2,g3⟩
 have W2:=Lib.hid g1
 have R2:=Lib.hid (R1.out.trans g2)
 have T2:=Lib.hid (show Wt lg l ([]++(List.flatten [[65,76,84,69,82,32,84,65,66,76,69,32],t, [32,65,68,68,32,67,79,76,85,77,78,32]])++(tx (coP x))) lg2 l2 from T1.out.trans g3)
 have X2:=Lib.hid (g2.cel (by omega) (by decide) X1.out:Cel w2 w.heap.size tSt f.cells.toArray)
 clear g1 g2 g3
 go_wp2
 go_end0
 exact ⟨rfl,_,_,W2.out,R2.out,by have:=T2.out;rwa [show []++(List.flatten [[65,76,84,69,82,32,84,65,66,76,69,32],t, [32,65,68,68,32,67,79,76,85,77,78,32]])++(tx (coP x))=tx (stP (.mk 3 t n r [x] cons names rows wh sets order limit priv opt kids)) from by rw [tx_wofTable_3];rfl] at this⟩
theorem tx_wofTable_6 {t n r:Bs} {cols:List Co} {x:Cn} {names:List Bs} {rows:List (List Ex)} {wh:Ex} {sets:List (Bs × Ex)} {order:List (Ex × Bool)} {limit priv:Int} {opt:Bool} {kids:List St}:tx (stP (.mk 6 t n r cols [x] names rows wh sets order limit priv opt kids))=List.flatten [[65,76,84,69,82,32,84,65,66,76,69,32],t, [32,65,68,68,32]]++tx (cnP x):=by
 rw [stP.eq_def]
 show [65,76,84,69,82,32,84,65,66,76,69,32]++(t++([32,65,68,68,32]++tx (cnP x)))=_;simp
set_option maxRecDepth 100000 in
set_option maxHeartbeats 4000000 in
theorem wofTable_6 {t n r:Bs} {cols:List Co} {x:Cn} {names:List Bs} {rows:List (List Ex)} {wh:Ex} {sets:List (Bs × Ex)} {order:List (Ex × Bool)} {limit priv:Int} {opt:Bool} {kids:List St} (hx:WX w b f 6 t n r cols [x] names rows wh sets order limit priv opt kids) (ho:OkCn x) (h:Ww b l lg w) (HL:l.length+(tx (stP (.mk 6 t n r cols [x] names rows wh sets order limit priv opt kids))).length≤1000000000):
   Calls Tryz.prog 41 #[.pointer (some ⟨b,0,none⟩), .agg f.cells.toArray] w (WDid b l lg (tx (stP (.mk 6 t n r cols [x] names rows wh sets order limit priv opt kids))) w):=by
 obtain ⟨V1,hV1⟩:∃W1,w.alloc (.cells f.cells.toArray tSt)=W1:=⟨_,rfl⟩
 have hb:Below w.heap.size w V1:=by rw [←hV1];exact al (Below.refl _ _) _
 have X0:=Lib.hid (show Cel V1 w.heap.size tSt f.cells.toArray by rw [←hV1];exact Cel.new _ _ _ rfl)
 have hlb:=h.lt
 have hw1:=h.below hb
 have hr1:Wr b w V1:=Wr.of hb (Nat.le_of_lt hlb)
 have HLEN:=Lib.hid (show l.length+(List.flatten [[65,76,84,69,82,32,84,65,66,76,69,32],t, [32,65,68,68,32]]++tx (cnP x)).length≤1000000000 by rw [←tx_wofTable_6];exact HL)
 have HX:=Lib.hid hx
 obtain ⟨⟨q0,q1,q2,q3,q4,q5,q6⟩, -⟩:=hx.all.all
 have E0:=Lib.hid q0
 have E1:=Lib.hid q1
 have E2:=Lib.hid q2
 have E3:=Lib.hid q3
 have E4:=Lib.hid q4
 have E5:=Lib.hid q5
 have E6:=Lib.hid q6
 have Yho:=Lib.hid ho
 have W0:=Lib.hid hw1
 have R0:=Lib.hid (hr1)
 have T0:=Lib.hid (show Wt lg l [] lg l from .inl ⟨rfl,(List.append_nil l).symm⟩)
 have y0_0:V1.cell? ⟨w.heap.size,0,none⟩=some (.int .i64 6):=(X0.out.at_ 0).trans (by rw [←E0.out];rfl)
 clear h HL hb hw1 hr1 hx q0 q1 q2 q3 q4 q5 q6 ho
 go_enter Tryz.func41,Tryz.ntmps41
 have y0_1:V1.cell? ⟨w.heap.size,1,none⟩=some (.string (Ep.txt t)):=(X0.out.at_ 1).trans (by rw [←E1.out];rfl)
 have H0:=Lib.hid (show Calls Tryz.prog 73 #[.pointer (some ⟨b,0,none⟩), .slice (some ⟨V1.heap.size,0,none⟩) 3 3] (V1.alloc (.cells #[.string ⟨#[65,76,84,69,82,32,84,65,66,76,69,32]⟩, .string (Ep.txt t), .string ⟨#[32,65,68,68,32]⟩] tS)) (WDid b l lg (List.flatten [[65,76,84,69,82,32,84,65,66,76,69,32],t, [32,65,68,68,32]]) V1) from saying [[65,76,84,69,82,32,84,65,66,76,69,32],t, [32,65,68,68,32]] W0.out (by simp) (by have h1:=T0.out.len;have h2:=HLEN.out;simp only [List.length_append,List.length_nil] at h1 h2 ⊢;omega))
 go_wp2_with (go_at_call 73;(with_reducible refine H0.out.mono ?_))
 rintro e1 w1 ⟨rfl,l1,lg1,g1,g2,g3⟩
 have W1:=Lib.hid g1
 have R1:=Lib.hid (R0.out.trans g2)
 have T1:=Lib.hid (show Wt lg l ([]++(List.flatten [[65,76,84,69,82,32,84,65,66,76,69,32],t, [32,65,68,68,32]])) lg1 l1 from T0.out.trans g3)
 have X1:=Lib.hid (g2.cel (by omega) (by decide) X0.out:Cel w1 w.heap.size tSt f.cells.toArray)
 clear g1 g2 g3
 have y1_5:w1.cell? ⟨w.heap.size,5,none⟩=some (.slice f.A5 f.n5 f.a5):=X1.out.at_ 5
 have hL5:=HX.out.all.all.2.2.1
 obtain ⟨b1,z1,nmx,kdx,Px,pnx,pcx,kx,ox,vkx,vnx,vsx,nsx,Ax,nx,cx,tbx,Qx,qnx,qcx,hA,hb1,⟨p0,p1,p2,p3,p4,p5,p6,p7,p8,p9,p10,p11⟩,in1⟩:=cn_at (hL5.below R1.out.1).2.2 (show [x][0]?=some x from rfl)
 have hn5:f.n5=1:=hL5.1
 have z5:w1.cell? ⟨w.heap.size,5,none⟩=some (.slice (some ⟨b1,z1,none⟩) 1 f.a5):=y1_5.trans (by rw [hA,hn5])
 have c0:w1.cell? ⟨b1,z1,none⟩=some (.string nmx):=by have c:=p0;simpa using c
 have c1:w1.cell? ⟨b1,z1+1,none⟩=some (.int .i64 kdx):=by have c:=p1;simpa using c
 have c2:w1.cell? ⟨b1,z1+2,none⟩=some (.slice Px pnx pcx):=by have c:=p2;simpa using c
 have c3:w1.cell? ⟨b1,z1+3,none⟩=some (.int .i64 kx):=by have c:=p3;simpa using c
 have c4:w1.cell? ⟨b1,z1+4,none⟩=some (.int .i64 ox):=by have c:=p4;simpa using c
 have c5:w1.cell? ⟨b1,z1+5,none⟩=some (.int .i64 vkx):=by have c:=p5;simpa using c
 have c6:w1.cell? ⟨b1,z1+6,none⟩=some (.int .i64 vnx):=by have c:=p6;simpa using c
 have c7:w1.cell? ⟨b1,z1+7,none⟩=some (.string vsx):=by have c:=p7;simpa using c
 have c8:w1.cell? ⟨b1,z1+8,none⟩=some (.string nsx):=by have c:=p8;simpa using c
 have c9:w1.cell? ⟨b1,z1+9,none⟩=some (.slice Ax nx cx):=by have c:=p9;simpa using c
 have c10:w1.cell? ⟨b1,z1+10,none⟩=some (.string tbx):=by have c:=p10;simpa using c
 have c11:w1.cell? ⟨b1,z1+11,none⟩=some (.slice Qx qnx qcx):=by have c:=p11;simpa using c
 have IN1:=Lib.hid in1
 clear p0 p1 p2 p3 p4 p5 p6 p7 p8 p9 p10 p11 hA hb1 hL5 hn5 y1_5 in1
 have H1:=Lib.hid (show Calls Tryz.prog 75 #[.pointer (some ⟨b,0,none⟩), .agg #[.string nmx, .int .i64 kdx, .slice Px pnx pcx, .int .i64 kx, .int .i64 ox, .int .i64 vkx, .int .i64 vnx, .string vsx, .string nsx, .slice Ax nx cx, .string tbx, .slice Qx qnx qcx]] w1 (WDid b l1 lg1 (tx (cnP x)) w1) from wcons_any (cs:= [.string nmx, .int .i64 kdx, .slice Px pnx pcx, .int .i64 kx, .int .i64 ox, .int .i64 vkx, .int .i64 vnx, .string vsx, .string nsx, .slice Ax nx cx, .string tbx, .slice Qx qnx qcx]) IN1.out Yho.out (fun hl=>(HX.out.exs _ (.inl ⟨x,by simp,rfl⟩) hl).to R1.out) W1.out (by have h1:=T1.out.len;have h2:=HLEN.out;simp only [List.length_append,List.length_nil] at h1 h2 ⊢;omega))
 go_wp2_with (go_at_call 75;(with_reducible refine H1.out.mono ?_))
 rintro e2 w2 ⟨rfl,l2,lg2,g1,g2,g3⟩
 have W2:=Lib.hid g1
 have R2:=Lib.hid (R1.out.trans g2)
 have T2:=Lib.hid (show Wt lg l ([]++(List.flatten [[65,76,84,69,82,32,84,65,66,76,69,32],t, [32,65,68,68,32]])++(tx (cnP x))) lg2 l2 from T1.out.trans g3)
 have X2:=Lib.hid (g2.cel (by omega) (by decide) X1.out:Cel w2 w.heap.size tSt f.cells.toArray)
 clear g1 g2 g3
 go_wp2
 go_end0
 exact ⟨rfl,_,_,W2.out,R2.out,by have:=T2.out;rwa [show []++(List.flatten [[65,76,84,69,82,32,84,65,66,76,69,32],t, [32,65,68,68,32]])++(tx (cnP x))=tx (stP (.mk 6 t n r cols [x] names rows wh sets order limit priv opt kids)) from by rw [tx_wofTable_6];rfl] at this⟩
end
end Go.Proofs.YtiaomhdmllhmmaaGreatDoor.Sm
namespace Go.Proofs.YtiaomhdmllhmmaaGreatDoor.Sm
open Go.RowKit Mem Ep Right Lx Go.ChangeShapes Go.WideShapes
set_option linter.unusedVariables false
section
variable {w w' :World} {b:Nat} {l:List UInt8} {lg:Bool} {f:Fl}
theorem tx_wofRows_17 {t n r:Bs} {cols:List Co} {cons:List Cn} {names:List Bs} {rows:List (List Ex)} {wh:Ex} {sets:List (Bs × Ex)} {order:List (Ex × Bool)} {limit priv:Int} {opt:Bool} {kids:List St}:tx (stP (.mk 17 t n r cols cons names rows wh sets order limit priv opt kids))=List.flatten [[85,80,68,65,84,69,32],t, [32,83,69,84,32]]++tx (sep (sets.map setP))++tx (whP wh):=by
 rw [stP.eq_def]
 show [85,80,68,65,84,69,32]++(t++([32,83,69,84,32]++tx (sep (sets.map setP)++whP wh)))=_;rw [tx_app];simp
set_option maxRecDepth 100000 in
set_option maxHeartbeats 4000000 in
theorem wofRows_17 {t n r:Bs} {cols:List Co} {cons:List Cn} {names:List Bs} {rows:List (List Ex)} {wh:Ex} {sets:List (Bs × Ex)} {order:List (Ex × Bool)} {limit priv:Int} {opt:Bool} {kids:List St} (hx:WX w b f 17 t n r cols cons names rows wh sets order limit priv opt kids) (hs:∀x∈sets,isN x.1∧Lo x.2) (hw:okWh wh) (h:Ww b l lg w) (HL:l.length+(tx (stP (.mk 17 t n r cols cons names rows wh sets order limit priv opt kids))).length≤1000000000):
   Calls Tryz.prog 43 #[.pointer (some ⟨b,0,none⟩), .agg f.cells.toArray] w (WDid b l lg (tx (stP (.mk 17 t n r cols cons names rows wh sets order limit priv opt kids))) w):=by
 obtain ⟨V1,hV1⟩:∃W1,w.alloc (.cells f.cells.toArray tSt)=W1:=⟨_,rfl⟩
 have hb:Below w.heap.size w V1:=by rw [←hV1];exact al (Below.refl _ _) _
 have X0:=Lib.hid (show Cel V1 w.heap.size tSt f.cells.toArray by rw [←hV1];exact Cel.new _ _ _ rfl)
 have hlb:=h.lt
 have hw1:=h.below hb
 have hr1:Wr b w V1:=Wr.of hb (Nat.le_of_lt hlb)
 have HLEN:=Lib.hid (show l.length+(List.flatten [[85,80,68,65,84,69,32],t, [32,83,69,84,32]]++tx (sep (sets.map setP))++tx (whP wh)).length≤1000000000 by rw [←tx_wofRows_17];exact HL)
 have HX:=Lib.hid hx
 obtain ⟨⟨q0,q1,q2,q3,q4,q5,q6⟩, -⟩:=hx.all.all
 have E0:=Lib.hid q0
 have E1:=Lib.hid q1
 have E2:=Lib.hid q2
 have E3:=Lib.hid q3
 have E4:=Lib.hid q4
 have E5:=Lib.hid q5
 have E6:=Lib.hid q6
 have Yhs:=Lib.hid hs
 have Yhw:=Lib.hid hw
 have W0:=Lib.hid hw1
 have R0:=Lib.hid (hr1)
 have T0:=Lib.hid (show Wt lg l [] lg l from .inl ⟨rfl,(List.append_nil l).symm⟩)
 have y0_0:V1.cell? ⟨w.heap.size,0,none⟩=some (.int .i64 17):=(X0.out.at_ 0).trans (by rw [←E0.out];rfl)
 clear h HL hb hw1 hr1 hx q0 q1 q2 q3 q4 q5 q6 hs hw
 go_enter Tryz.func43,Tryz.ntmps43
 have y0_1:V1.cell? ⟨w.heap.size,1,none⟩=some (.string (Ep.txt t)):=(X0.out.at_ 1).trans (by rw [←E1.out];rfl)
 have H0:=Lib.hid (show Calls Tryz.prog 73 #[.pointer (some ⟨b,0,none⟩), .slice (some ⟨V1.heap.size,0,none⟩) 3 3] (V1.alloc (.cells #[.string ⟨#[85,80,68,65,84,69,32]⟩, .string (Ep.txt t), .string ⟨#[32,83,69,84,32]⟩] tS)) (WDid b l lg (List.flatten [[85,80,68,65,84,69,32],t, [32,83,69,84,32]]) V1) from saying [[85,80,68,65,84,69,32],t, [32,83,69,84,32]] W0.out (by simp) (by have h1:=T0.out.len;have h2:=HLEN.out;simp only [List.length_append,List.length_nil] at h1 h2 ⊢;omega))
 go_wp2_with (go_at_call 73;(with_reducible refine H0.out.mono ?_))
 rintro e1 w1 ⟨rfl,l1,lg1,g1,g2,g3⟩
 have W1:=Lib.hid g1
 have R1:=Lib.hid (R0.out.trans g2)
 have T1:=Lib.hid (show Wt lg l ([]++(List.flatten [[85,80,68,65,84,69,32],t, [32,83,69,84,32]])) lg1 l1 from T0.out.trans g3)
 have X1:=Lib.hid (g2.cel (by omega) (by decide) X0.out:Cel w1 w.heap.size tSt f.cells.toArray)
 clear g1 g2 g3
 have y1_15:w1.cell? ⟨w.heap.size,15,none⟩=some (.slice f.A9 f.n9 f.a9):=X1.out.at_ 15
 have H1:=Lib.hid (show Calls Tryz.prog 78 #[.pointer (some ⟨b,0,none⟩), .slice f.A9 f.n9 f.a9, .func (.func 79) #[.pointer (some ⟨b,0,none⟩)] #[]] w1 (WDid b l1 lg1 (tx (sep (sets.map setP))) w1) from list_se W1.out (HX.out.all.all.2.2.2.2.2.2.1.below R1.out.1) (by have h1:=T1.out.len;have h2:=HLEN.out;simp only [List.length_append,List.length_nil] at h1 h2 ⊢;omega) fun x hx W l2 lg2 cs g1 g2 g3 g4=>wset_any g3 ((HX.out.exs _ (.inr (.inr (.inr (.inl ⟨x,hx,rfl⟩)))) (Yhs.out x hx).2).to (R1.out.trans g2)) g1 g4)
 go_wp2_with (go_at_call 78;(with_reducible refine H1.out.mono ?_))
 rintro e2 w2 ⟨rfl,l2,lg2,g1,g2,g3⟩
 have W2:=Lib.hid g1
 have R2:=Lib.hid (R1.out.trans g2)
 have T2:=Lib.hid (show Wt lg l ([]++(List.flatten [[85,80,68,65,84,69,32],t, [32,83,69,84,32]])++(tx (sep (sets.map setP)))) lg2 l2 from T1.out.trans g3)
 have X2:=Lib.hid (g2.cel (by omega) (by decide) X1.out:Cel w2 w.heap.size tSt f.cells.toArray)
 clear g1 g2 g3
 have y2_8:w2.cell? ⟨w.heap.size,8,none⟩=some (.int .i64 f.ek):=X2.out.at_ 8
 have y2_9:w2.cell? ⟨w.heap.size,9,none⟩=some (.int .i64 f.eo):=X2.out.at_ 9
 have y2_10:w2.cell? ⟨w.heap.size,10,none⟩=some (.int .i64 f.vk):=X2.out.at_ 10
 have y2_11:w2.cell? ⟨w.heap.size,11,none⟩=some (.int .i64 f.vn):=X2.out.at_ 11
 have y2_12:w2.cell? ⟨w.heap.size,12,none⟩=some (.string f.vs):=X2.out.at_ 12
 have y2_13:w2.cell? ⟨w.heap.size,13,none⟩=some (.string f.ns):=X2.out.at_ 13
 have y2_14:w2.cell? ⟨w.heap.size,14,none⟩=some (.slice f.A8 f.n8 f.a8):=X2.out.at_ 14
 have H2:=Lib.hid (show Calls Tryz.prog 80 #[.pointer (some ⟨b,0,none⟩), .agg #[.int .i64 f.ek, .int .i64 f.eo, .int .i64 f.vk, .int .i64 f.vn, .string f.vs, .string f.ns, .slice f.A8 f.n8 f.a8]] w2 (WDid b l2 lg2 (tx (whP wh)) w2) from wwhere_any (cs:= [.int .i64 f.ek, .int .i64 f.eo, .int .i64 f.vk, .int .i64 f.vn, .string f.vs, .string f.ns, .slice f.A8 f.n8 f.a8]) (DtIn.below HX.out.all.all.2.2.2.2.2.1 R2.out.1) Yhw.out (fun hl=>(HX.out.exs _ (.inr (.inr (.inl rfl))) hl).to R2.out) W2.out (by have h1:=T2.out.len;have h2:=HLEN.out;simp only [List.length_append,List.length_nil] at h1 h2 ⊢;omega))
 go_wp2_with (go_at_call 80;(with_reducible refine H2.out.mono ?_))
 rintro e3 w3 ⟨rfl,l3,lg3,g1,g2,g3⟩
 have W3:=Lib.hid g1
 have R3:=Lib.hid (R2.out.trans g2)
 have T3:=Lib.hid (show Wt lg l ([]++(List.flatten [[85,80,68,65,84,69,32],t, [32,83,69,84,32]])++(tx (sep (sets.map setP)))++(tx (whP wh))) lg3 l3 from T2.out.trans g3)
 have X3:=Lib.hid (g2.cel (by omega) (by decide) X2.out:Cel w3 w.heap.size tSt f.cells.toArray)
 clear g1 g2 g3
 go_wp2
 go_end0
 exact ⟨rfl,_,_,W3.out,R3.out,by have:=T3.out;rwa [show []++(List.flatten [[85,80,68,65,84,69,32],t, [32,83,69,84,32]])++(tx (sep (sets.map setP)))++(tx (whP wh))=tx (stP (.mk 17 t n r cols cons names rows wh sets order limit priv opt kids)) from by rw [tx_wofRows_17];rfl] at this⟩
theorem tx_wofRows_18 {t n r:Bs} {cols:List Co} {cons:List Cn} {names:List Bs} {rows:List (List Ex)} {wh:Ex} {sets:List (Bs × Ex)} {order:List (Ex × Bool)} {limit priv:Int} {opt:Bool} {kids:List St}:tx (stP (.mk 18 t n r cols cons names rows wh sets order limit priv opt kids))=List.flatten [[68,69,76,69,84,69,32,70,82,79,77,32],t]++tx (whP wh):=by
 rw [stP.eq_def]
 show [68,69,76,69,84,69,32,70,82,79,77,32]++(t++tx (whP wh))=_;simp
set_option maxRecDepth 100000 in
set_option maxHeartbeats 4000000 in
theorem wofRows_18 {t n r:Bs} {cols:List Co} {cons:List Cn} {names:List Bs} {rows:List (List Ex)} {wh:Ex} {sets:List (Bs × Ex)} {order:List (Ex × Bool)} {limit priv:Int} {opt:Bool} {kids:List St} (hx:WX w b f 18 t n r cols cons names rows wh sets order limit priv opt kids) (hw:okWh wh) (h:Ww b l lg w) (HL:l.length+(tx (stP (.mk 18 t n r cols cons names rows wh sets order limit priv opt kids))).length≤1000000000):
   Calls Tryz.prog 43 #[.pointer (some ⟨b,0,none⟩), .agg f.cells.toArray] w (WDid b l lg (tx (stP (.mk 18 t n r cols cons names rows wh sets order limit priv opt kids))) w):=by
 obtain ⟨V1,hV1⟩:∃W1,w.alloc (.cells f.cells.toArray tSt)=W1:=⟨_,rfl⟩
 have hb:Below w.heap.size w V1:=by rw [←hV1];exact al (Below.refl _ _) _
 have X0:=Lib.hid (show Cel V1 w.heap.size tSt f.cells.toArray by rw [←hV1];exact Cel.new _ _ _ rfl)
 have hlb:=h.lt
 have hw1:=h.below hb
 have hr1:Wr b w V1:=Wr.of hb (Nat.le_of_lt hlb)
 have HLEN:=Lib.hid (show l.length+(List.flatten [[68,69,76,69,84,69,32,70,82,79,77,32],t]++tx (whP wh)).length≤1000000000 by rw [←tx_wofRows_18];exact HL)
 have HX:=Lib.hid hx
 obtain ⟨⟨q0,q1,q2,q3,q4,q5,q6⟩, -⟩:=hx.all.all
 have E0:=Lib.hid q0
 have E1:=Lib.hid q1
 have E2:=Lib.hid q2
 have E3:=Lib.hid q3
 have E4:=Lib.hid q4
 have E5:=Lib.hid q5
 have E6:=Lib.hid q6
 have Yhw:=Lib.hid hw
 have W0:=Lib.hid hw1
 have R0:=Lib.hid (hr1)
 have T0:=Lib.hid (show Wt lg l [] lg l from .inl ⟨rfl,(List.append_nil l).symm⟩)
 have y0_0:V1.cell? ⟨w.heap.size,0,none⟩=some (.int .i64 18):=(X0.out.at_ 0).trans (by rw [←E0.out];rfl)
 clear h HL hb hw1 hr1 hx q0 q1 q2 q3 q4 q5 q6 hw
 go_enter Tryz.func43,Tryz.ntmps43
 have y0_1:V1.cell? ⟨w.heap.size,1,none⟩=some (.string (Ep.txt t)):=(X0.out.at_ 1).trans (by rw [←E1.out];rfl)
 have H0:=Lib.hid (show Calls Tryz.prog 73 #[.pointer (some ⟨b,0,none⟩), .slice (some ⟨V1.heap.size,0,none⟩) 2 2] (V1.alloc (.cells #[.string ⟨#[68,69,76,69,84,69,32,70,82,79,77,32]⟩, .string (Ep.txt t)] tS)) (WDid b l lg (List.flatten [[68,69,76,69,84,69,32,70,82,79,77,32],t]) V1) from saying [[68,69,76,69,84,69,32,70,82,79,77,32],t] W0.out (by simp) (by have h1:=T0.out.len;have h2:=HLEN.out;simp only [List.length_append,List.length_nil] at h1 h2 ⊢;omega))
 go_wp2_with (go_at_call 73;(with_reducible refine H0.out.mono ?_))
 rintro e1 w1 ⟨rfl,l1,lg1,g1,g2,g3⟩
 have W1:=Lib.hid g1
 have R1:=Lib.hid (R0.out.trans g2)
 have T1:=Lib.hid (show Wt lg l ([]++(List.flatten [[68,69,76,69,84,69,32,70,82,79,77,32],t])) lg1 l1 from T0.out.trans g3)
 have X1:=Lib.hid (g2.cel (by omega) (by decide) X0.out:Cel w1 w.heap.size tSt f.cells.toArray)
 clear g1 g2 g3
 have y1_8:w1.cell? ⟨w.heap.size,8,none⟩=some (.int .i64 f.ek):=X1.out.at_ 8
 have y1_9:w1.cell? ⟨w.heap.size,9,none⟩=some (.int .i64 f.eo):=X1.out.at_ 9
 have y1_10:w1.cell? ⟨w.heap.size,10,none⟩=some (.int .i64 f.vk):=X1.out.at_ 10
 have y1_11:w1.cell? ⟨w.heap.size,11,none⟩=some (.int .i64 f.vn):=X1.out.at_ 11
 have y1_12:w1.cell? ⟨w.heap.size,12,none⟩=some (.string f.vs):=X1.out.at_ 12
 have y1_13:w1.cell? ⟨w.heap.size,13,none⟩=some (.string f.ns):=X1.out.at_ 13
 have y1_14:w1.cell? ⟨w.heap.size,14,none⟩=some (.slice f.A8 f.n8 f.a8):=X1.out.at_ 14
 have H1:=Lib.hid (show Calls Tryz.prog 80 #[.pointer (some ⟨b,0,none⟩), .agg #[.int .i64 f.ek, .int .i64 f.eo, .int .i64 f.vk, .int .i64 f.vn, .string f.vs, .string f.ns, .slice f.A8 f.n8 f.a8]] w1 (WDid b l1 lg1 (tx (whP wh)) w1) from wwhere_any (cs:= [.int .i64 f.ek, .int .i64 f.eo, .int .i64 f.vk, .int .i64 f.vn, .string f.vs, .string f.ns, .slice f.A8 f.n8 f.a8]) (DtIn.below HX.out.all.all.2.2.2.2.2.1 R1.out.1) Yhw.out (fun hl=>(HX.out.exs _ (.inr (.inr (.inl rfl))) hl).to R1.out) W1.out (by have h1:=T1.out.len;have h2:=HLEN.out;simp only [List.length_append,List.length_nil] at h1 h2 ⊢;omega))
 go_wp2_with (go_at_call 80;(with_reducible refine H1.out.mono ?_))
 rintro e2 w2 ⟨rfl,l2,lg2,g1,g2,g3⟩
 have W2:=Lib.hid g1
 have R2:=Lib.hid (R1.out.trans g2)
 have T2:=Lib.hid (show Wt lg l ([]++(List.flatten [[68,69,76,69,84,69,32,70,82,79,77,32],t])++(tx (whP wh))) lg2 l2 from T1.out.trans g3)
 have X2:=Lib.hid (g2.cel (by omega) (by decide) X1.out:Cel w2 w.heap.size tSt f.cells.toArray)
 clear g1 g2 g3
 go_wp2
 go_end0
 exact ⟨rfl,_,_,W2.out,R2.out,by have:=T2.out;rwa [show []++(List.flatten [[68,69,76,69,84,69,32,70,82,79,77,32],t])++(tx (whP wh))=tx (stP (.mk 18 t n r cols cons names rows wh sets order limit priv opt kids)) from by rw [tx_wofRows_18];rfl] at this⟩
end
end Go.Proofs.YtiaomhdmllhmmaaGreatDoor.Sm
