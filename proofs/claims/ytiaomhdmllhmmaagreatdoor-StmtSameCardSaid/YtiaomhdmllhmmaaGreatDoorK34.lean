/- A statement is written: rows put in. A statement is written: handed on. -/
import Derived.Test.YtiaomhdmllhmmaaGreatDoorK32
namespace Go.Proofs.YtiaomhdmllhmmaaGreatDoor.Sm
open Go.RowKit Mem Ep Right Lx Go.ChangeShapes Go.WideShapes
set_option linter.unusedVariables false
section
variable {w w' :World} {b:Nat} {l:List UInt8} {lg:Bool} {f:Fl}
theorem tx_winsert_some {t n r:Bs} {cols:List Co} {cons:List Cn} {names:List Bs} {rows:List (List Ex)} {wh:Ex} {sets:List (Bs × Ex)} {order:List (Ex × Bool)} {limit priv:Int} {opt:Bool} {kids:List St} (hne:names≠ []):tx (stP (.mk 16 t n r cols cons names rows wh sets order limit priv opt kids))=List.flatten [[73,78,83,69,82,84,32,73,78,84,79,32],t]++tx (none::brk (nmsP names))++List.flatten [[32,86,65,76,85,69,83,32]]++tx (sep (rows.map rowP)):=by
 rw [stP.eq_def]
 show [73,78,83,69,82,84,32,73,78,84,79,32]++(t++(32::tx ((if names.isEmpty=true then [] else brk (nmsP names)++ [none])++(K kVALUES::none::sep (rows.map fun x=>brk (exsP x))))))=_;rw [if_neg (by rw [List.isEmpty_iff];exact hne),tx_app,tx_app];show _++(t++(32::((tx (brk (nmsP names))++ [32])++([86,65,76,85,69,83,32]++tx (sep (rows.map rowP))))))=_++(32::tx (brk (nmsP names)))++_++_;simp
set_option maxRecDepth 100000 in
set_option maxHeartbeats 4000000 in
theorem winsert_some {t n r:Bs} {cols:List Co} {cons:List Cn} {names:List Bs} {rows:List (List Ex)} {wh:Ex} {sets:List (Bs × Ex)} {order:List (Ex × Bool)} {limit priv:Int} {opt:Bool} {kids:List St} (hx:WX w b f 16 t n r cols cons names rows wh sets order limit priv opt kids) (hne:names≠ []) (hr:∀x∈rows,okEs x 6) (h:Ww b l lg w) (HL:l.length+(tx (stP (.mk 16 t n r cols cons names rows wh sets order limit priv opt kids))).length≤1000000000):
   Calls Tryz.prog 77 #[.pointer (some ⟨b,0,none⟩), .agg f.cells.toArray] w (WDid b l lg (tx (stP (.mk 16 t n r cols cons names rows wh sets order limit priv opt kids))) w):=by
 obtain ⟨V1,hV1⟩:∃W1,w.alloc (.cells f.cells.toArray tSt)=W1:=⟨_,rfl⟩
 have hb:Below w.heap.size w V1:=by rw [←hV1];exact al (Below.refl _ _) _
 have X0:=Lib.hid (show Cel V1 w.heap.size tSt f.cells.toArray by rw [←hV1];exact Cel.new _ _ _ rfl)
 have hlb:=h.lt
 have hw1:=h.below hb
 have hr1:Wr b w V1:=Wr.of hb (Nat.le_of_lt hlb)
 have HLEN:=Lib.hid (show l.length+(List.flatten [[73,78,83,69,82,84,32,73,78,84,79,32],t]++tx (none::brk (nmsP names))++List.flatten [[32,86,65,76,85,69,83,32]]++tx (sep (rows.map rowP))).length≤1000000000 by rw [←tx_winsert_some hne];exact HL)
 have HX:=Lib.hid hx
 obtain ⟨⟨q0,q1,q2,q3,q4,q5,q6⟩, -⟩:=hx.all.all
 have E0:=Lib.hid q0
 have E1:=Lib.hid q1
 have E2:=Lib.hid q2
 have E3:=Lib.hid q3
 have E4:=Lib.hid q4
 have E5:=Lib.hid q5
 have E6:=Lib.hid q6
 have Yhne:=Lib.hid hne
 have Yhr:=Lib.hid hr
 have W0:=Lib.hid hw1
 have R0:=Lib.hid (hr1)
 have T0:=Lib.hid (show Wt lg l [] lg l from .inl ⟨rfl,(List.append_nil l).symm⟩)
 have y0_0:V1.cell? ⟨w.heap.size,0,none⟩=some (.int .i64 16):=(X0.out.at_ 0).trans (by rw [←E0.out];rfl)
 clear h HL hb hw1 hr1 hx q0 q1 q2 q3 q4 q5 q6 hne hr
 go_enter Tryz.func77,Tryz.ntmps77
 have y0_1:V1.cell? ⟨w.heap.size,1,none⟩=some (.string (Ep.txt t)):=(X0.out.at_ 1).trans (by rw [←E1.out];rfl)
 have H0:=Lib.hid (show Calls Tryz.prog 73 #[.pointer (some ⟨b,0,none⟩), .slice (some ⟨V1.heap.size,0,none⟩) 2 2] (V1.alloc (.cells #[.string ⟨#[73,78,83,69,82,84,32,73,78,84,79,32]⟩, .string (Ep.txt t)] tS)) (WDid b l lg (List.flatten [[73,78,83,69,82,84,32,73,78,84,79,32],t]) V1) from saying [[73,78,83,69,82,84,32,73,78,84,79,32],t] W0.out (by simp) (by have h1:=T0.out.len;have h2:=HLEN.out;simp only [List.length_append,List.length_nil] at h1 h2 ⊢;omega))
 go_wp2_with (go_at_call 73;(with_reducible refine H0.out.mono ?_))
 rintro e1 w1 ⟨rfl,l1,lg1,g1,g2,g3⟩
 have W1:=Lib.hid g1
 have R1:=Lib.hid (R0.out.trans g2)
 have T1:=Lib.hid (show Wt lg l ([]++(List.flatten [[73,78,83,69,82,84,32,73,78,84,79,32],t])) lg1 l1 from T0.out.trans g3)
 have X1:=Lib.hid (g2.cel (by omega) (by decide) X0.out:Cel w1 w.heap.size tSt f.cells.toArray)
 clear g1 g2 g3
 have y1_6:w1.cell? ⟨w.heap.size,6,none⟩=some (.slice f.A6 f.n6 f.a6):=X1.out.at_ 6
 have hn6:=HX.out.all.all.2.2.2.1.1
 have t6:decide ((0:Int)<(f.n6:Int))=true:=decide_eq_true (by have:=List.length_pos_iff.2 Yhne.out;rw [List.length_map] at hn6;omega)
 have t66:decide (0<f.n6)=true:=decide_eq_true (by have:=List.length_pos_iff.2 Yhne.out;rw [List.length_map] at hn6;omega)
 clear hn6
 have H1:=Lib.hid (show Calls Tryz.prog 76 #[.pointer (some ⟨b,0,none⟩), .slice f.A6 f.n6 f.a6] w1 (WDid b l1 lg1 (tx (none::brk (nmsP names))) w1) from wnames_any Yhne.out (IsRow.to (fun c g=>g) (fun p hp=>R1.out.1.cell hp) HX.out.all.nms) W1.out (by have h1:=T1.out.len;have h2:=HLEN.out;simp only [List.length_append,List.length_nil] at h1 h2 ⊢;omega))
 go_wp2_with (go_at_call 76;(with_reducible refine H1.out.mono ?_))
 rintro e2 w2 ⟨rfl,l2,lg2,g1,g2,g3⟩
 have W2:=Lib.hid g1
 have R2:=Lib.hid (R1.out.trans g2)
 have T2:=Lib.hid (show Wt lg l ([]++(List.flatten [[73,78,83,69,82,84,32,73,78,84,79,32],t])++(tx (none::brk (nmsP names)))) lg2 l2 from T1.out.trans g3)
 have X2:=Lib.hid (g2.cel (by omega) (by decide) X1.out:Cel w2 w.heap.size tSt f.cells.toArray)
 clear g1 g2 g3
 have H2:=Lib.hid (show Calls Tryz.prog 73 #[.pointer (some ⟨b,0,none⟩), .slice (some ⟨w2.heap.size,0,none⟩) 1 1] (w2.alloc (.cells #[.string ⟨#[32,86,65,76,85,69,83,32]⟩] tS)) (WDid b l2 lg2 (List.flatten [[32,86,65,76,85,69,83,32]]) w2) from saying [[32,86,65,76,85,69,83,32]] W2.out (by simp) (by have h1:=T2.out.len;have h2:=HLEN.out;simp only [List.length_append,List.length_nil] at h1 h2 ⊢;omega))
 go_wp2_with (go_at_call 73;(with_reducible refine H2.out.mono ?_))
 rintro e3 w3 ⟨rfl,l3,lg3,g1,g2,g3⟩
 have W3:=Lib.hid g1
 have R3:=Lib.hid (R2.out.trans g2)
 have T3:=Lib.hid (show Wt lg l ([]++(List.flatten [[73,78,83,69,82,84,32,73,78,84,79,32],t])++(tx (none::brk (nmsP names)))++(List.flatten [[32,86,65,76,85,69,83,32]])) lg3 l3 from T2.out.trans g3)
 have X3:=Lib.hid (g2.cel (by omega) (by decide) X2.out:Cel w3 w.heap.size tSt f.cells.toArray)
 clear g1 g2 g3
 have y3_7:w3.cell? ⟨w.heap.size,7,none⟩=some (.slice f.A7 f.n7 f.a7):=X3.out.at_ 7
 have H3:=Lib.hid (show Calls Tryz.prog 132 #[.pointer (some ⟨b,0,none⟩), .slice f.A7 f.n7 f.a7, .func (.func 82) #[.pointer (some ⟨b,0,none⟩)] #[]] w3 (WDid b l3 lg3 (tx (sep (rows.map rowP))) w3) from list_rw W3.out (HX.out.all.all.2.2.2.2.1.below R3.out.1) (by have h1:=T3.out.len;have h2:=HLEN.out;simp only [List.length_append,List.length_nil] at h1 h2 ⊢;omega) fun x hx W l2 lg2 cs g1 g2 g3 g4=>(by obtain ⟨u,hu,hr⟩:=row_is.1 g3;subst hu;obtain ⟨A,n,c,rfl⟩:=row_form hr;exact wrow_any hr (fun e he=>(HX.out.exs _ (.inr (.inl ⟨x,hx,he⟩)) ((Yhr.out x hx).2.2 e he)).to (R3.out.trans g2)) g1 g4))
 go_wp2_with (go_at_call 132;(with_reducible refine H3.out.mono ?_))
 rintro e4 w4 ⟨rfl,l4,lg4,g1,g2,g3⟩
 have W4:=Lib.hid g1
 have R4:=Lib.hid (R3.out.trans g2)
 have T4:=Lib.hid (show Wt lg l ([]++(List.flatten [[73,78,83,69,82,84,32,73,78,84,79,32],t])++(tx (none::brk (nmsP names)))++(List.flatten [[32,86,65,76,85,69,83,32]])++(tx (sep (rows.map rowP)))) lg4 l4 from T3.out.trans g3)
 have X4:=Lib.hid (g2.cel (by omega) (by decide) X3.out:Cel w4 w.heap.size tSt f.cells.toArray)
 clear g1 g2 g3
 go_wp2
 go_end0
 exact ⟨rfl,_,_,W4.out,R4.out,by have:=T4.out;rwa [show []++(List.flatten [[73,78,83,69,82,84,32,73,78,84,79,32],t])++(tx (none::brk (nmsP names)))++(List.flatten [[32,86,65,76,85,69,83,32]])++(tx (sep (rows.map rowP)))=tx (stP (.mk 16 t n r cols cons names rows wh sets order limit priv opt kids)) from by rw [tx_winsert_some Yhne.out];rfl] at this⟩
theorem tx_winsert_none {t n r:Bs} {cols:List Co} {cons:List Cn} {rows:List (List Ex)} {wh:Ex} {sets:List (Bs × Ex)} {order:List (Ex × Bool)} {limit priv:Int} {opt:Bool} {kids:List St}:tx (stP (.mk 16 t n r cols cons [] rows wh sets order limit priv opt kids))=List.flatten [[73,78,83,69,82,84,32,73,78,84,79,32],t]++List.flatten [[32,86,65,76,85,69,83,32]]++tx (sep (rows.map rowP)):=by
 rw [stP.eq_def]
 show [73,78,83,69,82,84,32,73,78,84,79,32]++(t++([32,86,65,76,85,69,83,32]++tx (sep (rows.map rowP))))=_;simp
set_option maxRecDepth 100000 in
set_option maxHeartbeats 4000000 in
theorem winsert_none {t n r:Bs} {cols:List Co} {cons:List Cn} {rows:List (List Ex)} {wh:Ex} {sets:List (Bs × Ex)} {order:List (Ex × Bool)} {limit priv:Int} {opt:Bool} {kids:List St} (hx:WX w b f 16 t n r cols cons [] rows wh sets order limit priv opt kids) (hr:∀x∈rows,okEs x 6) (h:Ww b l lg w) (HL:l.length+(tx (stP (.mk 16 t n r cols cons [] rows wh sets order limit priv opt kids))).length≤1000000000):
   Calls Tryz.prog 77 #[.pointer (some ⟨b,0,none⟩), .agg f.cells.toArray] w (WDid b l lg (tx (stP (.mk 16 t n r cols cons [] rows wh sets order limit priv opt kids))) w):=by
 obtain ⟨V1,hV1⟩:∃W1,w.alloc (.cells f.cells.toArray tSt)=W1:=⟨_,rfl⟩
 have hb:Below w.heap.size w V1:=by rw [←hV1];exact al (Below.refl _ _) _
 have X0:=Lib.hid (show Cel V1 w.heap.size tSt f.cells.toArray by rw [←hV1];exact Cel.new _ _ _ rfl)
 have hlb:=h.lt
 have hw1:=h.below hb
 have hr1:Wr b w V1:=Wr.of hb (Nat.le_of_lt hlb)
 have HLEN:=Lib.hid (show l.length+(List.flatten [[73,78,83,69,82,84,32,73,78,84,79,32],t]++List.flatten [[32,86,65,76,85,69,83,32]]++tx (sep (rows.map rowP))).length≤1000000000 by rw [←tx_winsert_none];exact HL)
 have HX:=Lib.hid hx
 obtain ⟨⟨q0,q1,q2,q3,q4,q5,q6⟩, -⟩:=hx.all.all
 have E0:=Lib.hid q0
 have E1:=Lib.hid q1
 have E2:=Lib.hid q2
 have E3:=Lib.hid q3
 have E4:=Lib.hid q4
 have E5:=Lib.hid q5
 have E6:=Lib.hid q6
 have Yhr:=Lib.hid hr
 have W0:=Lib.hid hw1
 have R0:=Lib.hid (hr1)
 have T0:=Lib.hid (show Wt lg l [] lg l from .inl ⟨rfl,(List.append_nil l).symm⟩)
 have y0_0:V1.cell? ⟨w.heap.size,0,none⟩=some (.int .i64 16):=(X0.out.at_ 0).trans (by rw [←E0.out];rfl)
 clear h HL hb hw1 hr1 hx q0 q1 q2 q3 q4 q5 q6 hr
 go_enter Tryz.func77,Tryz.ntmps77
 have y0_1:V1.cell? ⟨w.heap.size,1,none⟩=some (.string (Ep.txt t)):=(X0.out.at_ 1).trans (by rw [←E1.out];rfl)
 have H0:=Lib.hid (show Calls Tryz.prog 73 #[.pointer (some ⟨b,0,none⟩), .slice (some ⟨V1.heap.size,0,none⟩) 2 2] (V1.alloc (.cells #[.string ⟨#[73,78,83,69,82,84,32,73,78,84,79,32]⟩, .string (Ep.txt t)] tS)) (WDid b l lg (List.flatten [[73,78,83,69,82,84,32,73,78,84,79,32],t]) V1) from saying [[73,78,83,69,82,84,32,73,78,84,79,32],t] W0.out (by simp) (by have h1:=T0.out.len;have h2:=HLEN.out;simp only [List.length_append,List.length_nil] at h1 h2 ⊢;omega))
 go_wp2_with (go_at_call 73;(with_reducible refine H0.out.mono ?_))
 rintro e1 w1 ⟨rfl,l1,lg1,g1,g2,g3⟩
 have W1:=Lib.hid g1
 have R1:=Lib.hid (R0.out.trans g2)
 have T1:=Lib.hid (show Wt lg l ([]++(List.flatten [[73,78,83,69,82,84,32,73,78,84,79,32],t])) lg1 l1 from T0.out.trans g3)
 have X1:=Lib.hid (g2.cel (by omega) (by decide) X0.out:Cel w1 w.heap.size tSt f.cells.toArray)
 clear g1 g2 g3
 have y1_6:w1.cell? ⟨w.heap.size,6,none⟩=some (.slice f.A6 f.n6 f.a6):=X1.out.at_ 6
 have hn6:=HX.out.all.all.2.2.2.1.1
 have z6:w1.cell? ⟨w.heap.size,6,none⟩=some (.slice f.A6 0 f.a6):=y1_6.trans (by rw [hn6];rfl)
 clear hn6 y1_6
 have H1:=Lib.hid (show Calls Tryz.prog 73 #[.pointer (some ⟨b,0,none⟩), .slice (some ⟨w1.heap.size,0,none⟩) 1 1] (w1.alloc (.cells #[.string ⟨#[32,86,65,76,85,69,83,32]⟩] tS)) (WDid b l1 lg1 (List.flatten [[32,86,65,76,85,69,83,32]]) w1) from saying [[32,86,65,76,85,69,83,32]] W1.out (by simp) (by have h1:=T1.out.len;have h2:=HLEN.out;simp only [List.length_append,List.length_nil] at h1 h2 ⊢;omega))
 go_wp2_with (go_at_call 73;(with_reducible refine H1.out.mono ?_))
 rintro e2 w2 ⟨rfl,l2,lg2,g1,g2,g3⟩
 have W2:=Lib.hid g1
 have R2:=Lib.hid (R1.out.trans g2)
 have T2:=Lib.hid (show Wt lg l ([]++(List.flatten [[73,78,83,69,82,84,32,73,78,84,79,32],t])++(List.flatten [[32,86,65,76,85,69,83,32]])) lg2 l2 from T1.out.trans g3)
 have X2:=Lib.hid (g2.cel (by omega) (by decide) X1.out:Cel w2 w.heap.size tSt f.cells.toArray)
 clear g1 g2 g3
 have y2_7:w2.cell? ⟨w.heap.size,7,none⟩=some (.slice f.A7 f.n7 f.a7):=X2.out.at_ 7
 have H2:=Lib.hid (show Calls Tryz.prog 132 #[.pointer (some ⟨b,0,none⟩), .slice f.A7 f.n7 f.a7, .func (.func 82) #[.pointer (some ⟨b,0,none⟩)] #[]] w2 (WDid b l2 lg2 (tx (sep (rows.map rowP))) w2) from list_rw W2.out (HX.out.all.all.2.2.2.2.1.below R2.out.1) (by have h1:=T2.out.len;have h2:=HLEN.out;simp only [List.length_append,List.length_nil] at h1 h2 ⊢;omega) fun x hx W l2 lg2 cs g1 g2 g3 g4=>(by obtain ⟨u,hu,hr⟩:=row_is.1 g3;subst hu;obtain ⟨A,n,c,rfl⟩:=row_form hr;exact wrow_any hr (fun e he=>(HX.out.exs _ (.inr (.inl ⟨x,hx,he⟩)) ((Yhr.out x hx).2.2 e he)).to (R2.out.trans g2)) g1 g4))
 go_wp2_with (go_at_call 132;(with_reducible refine H2.out.mono ?_))
 rintro e3 w3 ⟨rfl,l3,lg3,g1,g2,g3⟩
 have W3:=Lib.hid g1
 have R3:=Lib.hid (R2.out.trans g2)
 have T3:=Lib.hid (show Wt lg l ([]++(List.flatten [[73,78,83,69,82,84,32,73,78,84,79,32],t])++(List.flatten [[32,86,65,76,85,69,83,32]])++(tx (sep (rows.map rowP)))) lg3 l3 from T2.out.trans g3)
 have X3:=Lib.hid (g2.cel (by omega) (by decide) X2.out:Cel w3 w.heap.size tSt f.cells.toArray)
 clear g1 g2 g3
 go_wp2
 go_end0
 exact ⟨rfl,_,_,W3.out,R3.out,by have:=T3.out;rwa [show []++(List.flatten [[73,78,83,69,82,84,32,73,78,84,79,32],t])++(List.flatten [[32,86,65,76,85,69,83,32]])++(tx (sep (rows.map rowP)))=tx (stP (.mk 16 t n r cols cons [] rows wh sets order limit priv opt kids)) from by rw [tx_winsert_none];rfl] at this⟩
end
end Go.Proofs.YtiaomhdmllhmmaaGreatDoor.Sm
namespace Go.Proofs.YtiaomhdmllhmmaaGreatDoor.Sm
open Go.RowKit Mem Ep Right Lx Go.ChangeShapes Go.WideShapes
set_option linter.unusedVariables false
section
variable {w w' :World} {b:Nat} {l:List UInt8} {lg:Bool} {f:Fl}
set_option maxRecDepth 100000 in
theorem wst_table {k:Int} {t n r:Bs} {cols:List Co} {cons:List Cn} {names:List Bs} {rows:List (List Ex)} {wh:Ex} {sets:List (Bs × Ex)} {order:List (Ex × Bool)} {limit priv:Int} {opt:Bool} {kids:List St} (hk:k≤9) (hx:WX w b f k t n r cols cons names rows wh sets order limit priv opt kids) (h:Ww b l lg w) {T:List UInt8} (hc:∀W l1 lg1,Ww b l1 lg1 W→Wr b w W→l1=l→lg1=lg→Calls Tryz.prog 41 #[.pointer (some ⟨b,0,none⟩), .agg f.cells.toArray] W (WDid b l lg T W)):
   Calls Tryz.prog 27 #[.pointer (some ⟨b,0,none⟩), .agg f.cells.toArray] w (WDid b l lg T w):=by
 obtain ⟨V1,hV1⟩:∃W1,w.alloc (.cells f.cells.toArray tSt)=W1:=⟨_,rfl⟩
 have hb:Below w.heap.size w V1:=by rw [←hV1];exact al (Below.refl _ _) _
 have X0:=Lib.hid (show Cel V1 w.heap.size tSt f.cells.toArray by rw [←hV1];exact Cel.new _ _ _ rfl)
 have hlb:=h.lt
 have hr1:Wr b w V1:=Wr.of hb (Nat.le_of_lt hlb)
 have HC:=Lib.hid (show Calls Tryz.prog 41 #[.pointer (some ⟨b,0,none⟩), .agg f.cells.toArray] V1 (WDid b l lg T w) from (hc V1 l lg (h.below hb) hr1 rfl rfl).mono fun _ _ d=>(by
   obtain ⟨d1,l',lg',d2,d3,d4⟩:=d
   exact ⟨d1,l',lg',d2,hr1.trans d3,d4⟩))
 have E0:=Lib.hid hx.all.all.1.1
 have y0:V1.cell? ⟨w.heap.size,0,none⟩=some (.int .i64 k):=(X0.out.at_ 0).trans (by rw [←E0.out];rfl)
 clear hx h hc hb hr1
 have t0:decide (k≤9)=true:=decide_eq_true (by omega)
 go_enter Tryz.func27,Tryz.ntmps27
 go_wp2_with (first|(refine load_stmt rfl _ rfl w.heap.size 0 rfl f.cells (at_cel X0.out) rfl ?_)|(go_at_call 41;(with_reducible refine HC.out.mono ?_);rintro e1 w2 ⟨rfl,HD1⟩))
 go_end0
 exact ⟨rfl,HD1⟩
set_option maxRecDepth 100000 in
theorem wst_role {k:Int} {t n r:Bs} {cols:List Co} {cons:List Cn} {names:List Bs} {rows:List (List Ex)} {wh:Ex} {sets:List (Bs × Ex)} {order:List (Ex × Bool)} {limit priv:Int} {opt:Bool} {kids:List St} (hk:10≤k∧k≤15) (hx:WX w b f k t n r cols cons names rows wh sets order limit priv opt kids) (h:Ww b l lg w) {T:List UInt8} (hc:∀W l1 lg1,Ww b l1 lg1 W→Wr b w W→l1=l→lg1=lg→Calls Tryz.prog 42 #[.pointer (some ⟨b,0,none⟩), .agg f.cells.toArray] W (WDid b l lg T W)):
   Calls Tryz.prog 27 #[.pointer (some ⟨b,0,none⟩), .agg f.cells.toArray] w (WDid b l lg T w):=by
 obtain ⟨V1,hV1⟩:∃W1,w.alloc (.cells f.cells.toArray tSt)=W1:=⟨_,rfl⟩
 have hb:Below w.heap.size w V1:=by rw [←hV1];exact al (Below.refl _ _) _
 have X0:=Lib.hid (show Cel V1 w.heap.size tSt f.cells.toArray by rw [←hV1];exact Cel.new _ _ _ rfl)
 have hlb:=h.lt
 have hr1:Wr b w V1:=Wr.of hb (Nat.le_of_lt hlb)
 have HC:=Lib.hid (show Calls Tryz.prog 42 #[.pointer (some ⟨b,0,none⟩), .agg f.cells.toArray] V1 (WDid b l lg T w) from (hc V1 l lg (h.below hb) hr1 rfl rfl).mono fun _ _ d=>(by
   obtain ⟨d1,l',lg',d2,d3,d4⟩:=d
   exact ⟨d1,l',lg',d2,hr1.trans d3,d4⟩))
 have E0:=Lib.hid hx.all.all.1.1
 have y0:V1.cell? ⟨w.heap.size,0,none⟩=some (.int .i64 k):=(X0.out.at_ 0).trans (by rw [←E0.out];rfl)
 clear hx h hc hb hr1
 have t0:decide (k≤9)=false:=decide_eq_false (by omega)
 have t1:decide (k≤15)=true:=decide_eq_true (by omega)
 go_enter Tryz.func27,Tryz.ntmps27
 go_wp2_with (first|(refine load_stmt rfl _ rfl w.heap.size 0 rfl f.cells (at_cel X0.out) rfl ?_)|(go_at_call 42;(with_reducible refine HC.out.mono ?_);rintro e1 w2 ⟨rfl,HD1⟩))
 go_end0
 exact ⟨rfl,HD1⟩
set_option maxRecDepth 100000 in
theorem wst_rows {k:Int} {t n r:Bs} {cols:List Co} {cons:List Cn} {names:List Bs} {rows:List (List Ex)} {wh:Ex} {sets:List (Bs × Ex)} {order:List (Ex × Bool)} {limit priv:Int} {opt:Bool} {kids:List St} (hk:16≤k∧k≤19) (hx:WX w b f k t n r cols cons names rows wh sets order limit priv opt kids) (h:Ww b l lg w) {T:List UInt8} (hc:∀W l1 lg1,Ww b l1 lg1 W→Wr b w W→l1=l→lg1=lg→Calls Tryz.prog 43 #[.pointer (some ⟨b,0,none⟩), .agg f.cells.toArray] W (WDid b l lg T W)):
   Calls Tryz.prog 27 #[.pointer (some ⟨b,0,none⟩), .agg f.cells.toArray] w (WDid b l lg T w):=by
 obtain ⟨V1,hV1⟩:∃W1,w.alloc (.cells f.cells.toArray tSt)=W1:=⟨_,rfl⟩
 have hb:Below w.heap.size w V1:=by rw [←hV1];exact al (Below.refl _ _) _
 have X0:=Lib.hid (show Cel V1 w.heap.size tSt f.cells.toArray by rw [←hV1];exact Cel.new _ _ _ rfl)
 have hlb:=h.lt
 have hr1:Wr b w V1:=Wr.of hb (Nat.le_of_lt hlb)
 have HC:=Lib.hid (show Calls Tryz.prog 43 #[.pointer (some ⟨b,0,none⟩), .agg f.cells.toArray] V1 (WDid b l lg T w) from (hc V1 l lg (h.below hb) hr1 rfl rfl).mono fun _ _ d=>(by
   obtain ⟨d1,l',lg',d2,d3,d4⟩:=d
   exact ⟨d1,l',lg',d2,hr1.trans d3,d4⟩))
 have E0:=Lib.hid hx.all.all.1.1
 have y0:V1.cell? ⟨w.heap.size,0,none⟩=some (.int .i64 k):=(X0.out.at_ 0).trans (by rw [←E0.out];rfl)
 clear hx h hc hb hr1
 have t0:decide (k≤9)=false:=decide_eq_false (by omega)
 have t1:decide (k≤15)=false:=decide_eq_false (by omega)
 have t2:decide (k≤19)=true:=decide_eq_true (by omega)
 go_enter Tryz.func27,Tryz.ntmps27
 go_wp2_with (first|(refine load_stmt rfl _ rfl w.heap.size 0 rfl f.cells (at_cel X0.out) rfl ?_)|(go_at_call 43;(with_reducible refine HC.out.mono ?_);rintro e1 w2 ⟨rfl,HD1⟩))
 go_end0
 exact ⟨rfl,HD1⟩
set_option maxRecDepth 100000 in
theorem wst_plan {k:Int} {t n r:Bs} {cols:List Co} {cons:List Cn} {names:List Bs} {rows:List (List Ex)} {wh:Ex} {sets:List (Bs × Ex)} {order:List (Ex × Bool)} {limit priv:Int} {opt:Bool} {kids:List St} (hk:20≤k) (hx:WX w b f k t n r cols cons names rows wh sets order limit priv opt kids) (h:Ww b l lg w) {T:List UInt8} (hc:∀W l1 lg1,Ww b l1 lg1 W→Wr b w W→l1=l→lg1=lg→Calls Tryz.prog 44 #[.pointer (some ⟨b,0,none⟩), .agg f.cells.toArray] W (WDid b l lg T W)):
   Calls Tryz.prog 27 #[.pointer (some ⟨b,0,none⟩), .agg f.cells.toArray] w (WDid b l lg T w):=by
 obtain ⟨V1,hV1⟩:∃W1,w.alloc (.cells f.cells.toArray tSt)=W1:=⟨_,rfl⟩
 have hb:Below w.heap.size w V1:=by rw [←hV1];exact al (Below.refl _ _) _
 have X0:=Lib.hid (show Cel V1 w.heap.size tSt f.cells.toArray by rw [←hV1];exact Cel.new _ _ _ rfl)
 have hlb:=h.lt
 have hr1:Wr b w V1:=Wr.of hb (Nat.le_of_lt hlb)
 have HC:=Lib.hid (show Calls Tryz.prog 44 #[.pointer (some ⟨b,0,none⟩), .agg f.cells.toArray] V1 (WDid b l lg T w) from (hc V1 l lg (h.below hb) hr1 rfl rfl).mono fun _ _ d=>(by
   obtain ⟨d1,l',lg',d2,d3,d4⟩:=d
   exact ⟨d1,l',lg',d2,hr1.trans d3,d4⟩))
 have E0:=Lib.hid hx.all.all.1.1
 have y0:V1.cell? ⟨w.heap.size,0,none⟩=some (.int .i64 k):=(X0.out.at_ 0).trans (by rw [←E0.out];rfl)
 clear hx h hc hb hr1
 have t0:decide (k≤9)=false:=decide_eq_false (by omega)
 have t1:decide (k≤15)=false:=decide_eq_false (by omega)
 have t2:decide (k≤19)=false:=decide_eq_false (by omega)
 go_enter Tryz.func27,Tryz.ntmps27
 go_wp2_with (first|(refine load_stmt rfl _ rfl w.heap.size 0 rfl f.cells (at_cel X0.out) rfl ?_)|(go_at_call 44;(with_reducible refine HC.out.mono ?_);rintro e1 w2 ⟨rfl,HD1⟩))
 go_end0
 exact ⟨rfl,HD1⟩
set_option maxRecDepth 100000 in
theorem wof_create {t n r:Bs} {cols:List Co} {cons:List Cn} {names:List Bs} {rows:List (List Ex)} {wh:Ex} {sets:List (Bs × Ex)} {order:List (Ex × Bool)} {limit priv:Int} {opt:Bool} {kids:List St} (hx:WX w b f 1 t n r cols cons names rows wh sets order limit priv opt kids) (h:Ww b l lg w) {T:List UInt8} (hc:∀W l1 lg1,Ww b l1 lg1 W→Wr b w W→l1=l→lg1=lg→Calls Tryz.prog 72 #[.pointer (some ⟨b,0,none⟩), .agg f.cells.toArray] W (WDid b l lg T W)):
   Calls Tryz.prog 41 #[.pointer (some ⟨b,0,none⟩), .agg f.cells.toArray] w (WDid b l lg T w):=by
 obtain ⟨V1,hV1⟩:∃W1,w.alloc (.cells f.cells.toArray tSt)=W1:=⟨_,rfl⟩
 have hb:Below w.heap.size w V1:=by rw [←hV1];exact al (Below.refl _ _) _
 have X0:=Lib.hid (show Cel V1 w.heap.size tSt f.cells.toArray by rw [←hV1];exact Cel.new _ _ _ rfl)
 have hlb:=h.lt
 have hr1:Wr b w V1:=Wr.of hb (Nat.le_of_lt hlb)
 have HC:=Lib.hid (show Calls Tryz.prog 72 #[.pointer (some ⟨b,0,none⟩), .agg f.cells.toArray] V1 (WDid b l lg T w) from (hc V1 l lg (h.below hb) hr1 rfl rfl).mono fun _ _ d=>(by
   obtain ⟨d1,l',lg',d2,d3,d4⟩:=d
   exact ⟨d1,l',lg',d2,hr1.trans d3,d4⟩))
 have E0:=Lib.hid hx.all.all.1.1
 have y0:V1.cell? ⟨w.heap.size,0,none⟩=some (.int .i64 1):=(X0.out.at_ 0).trans (by rw [←E0.out];rfl)
 clear hx h hc hb hr1
 go_enter Tryz.func41,Tryz.ntmps41
 go_wp2_with (first|(refine load_stmt rfl _ rfl w.heap.size 0 rfl f.cells (at_cel X0.out) rfl ?_)|(go_at_call 72;(with_reducible refine HC.out.mono ?_);rintro e1 w2 ⟨rfl,HD1⟩))
 go_end0
 exact ⟨rfl,HD1⟩
set_option maxRecDepth 100000 in
theorem wof_insert {t n r:Bs} {cols:List Co} {cons:List Cn} {names:List Bs} {rows:List (List Ex)} {wh:Ex} {sets:List (Bs × Ex)} {order:List (Ex × Bool)} {limit priv:Int} {opt:Bool} {kids:List St} (hx:WX w b f 16 t n r cols cons names rows wh sets order limit priv opt kids) (h:Ww b l lg w) {T:List UInt8} (hc:∀W l1 lg1,Ww b l1 lg1 W→Wr b w W→l1=l→lg1=lg→Calls Tryz.prog 77 #[.pointer (some ⟨b,0,none⟩), .agg f.cells.toArray] W (WDid b l lg T W)):
   Calls Tryz.prog 43 #[.pointer (some ⟨b,0,none⟩), .agg f.cells.toArray] w (WDid b l lg T w):=by
 obtain ⟨V1,hV1⟩:∃W1,w.alloc (.cells f.cells.toArray tSt)=W1:=⟨_,rfl⟩
 have hb:Below w.heap.size w V1:=by rw [←hV1];exact al (Below.refl _ _) _
 have X0:=Lib.hid (show Cel V1 w.heap.size tSt f.cells.toArray by rw [←hV1];exact Cel.new _ _ _ rfl)
 have hlb:=h.lt
 have hr1:Wr b w V1:=Wr.of hb (Nat.le_of_lt hlb)
 have HC:=Lib.hid (show Calls Tryz.prog 77 #[.pointer (some ⟨b,0,none⟩), .agg f.cells.toArray] V1 (WDid b l lg T w) from (hc V1 l lg (h.below hb) hr1 rfl rfl).mono fun _ _ d=>(by
   obtain ⟨d1,l',lg',d2,d3,d4⟩:=d
   exact ⟨d1,l',lg',d2,hr1.trans d3,d4⟩))
 have E0:=Lib.hid hx.all.all.1.1
 have y0:V1.cell? ⟨w.heap.size,0,none⟩=some (.int .i64 16):=(X0.out.at_ 0).trans (by rw [←E0.out];rfl)
 clear hx h hc hb hr1
 go_enter Tryz.func43,Tryz.ntmps43
 go_wp2_with (first|(refine load_stmt rfl _ rfl w.heap.size 0 rfl f.cells (at_cel X0.out) rfl ?_)|(go_at_call 77;(with_reducible refine HC.out.mono ?_);rintro e1 w2 ⟨rfl,HD1⟩))
 go_end0
 exact ⟨rfl,HD1⟩
set_option maxRecDepth 100000 in
theorem wof_select {t n r:Bs} {cols:List Co} {cons:List Cn} {names:List Bs} {rows:List (List Ex)} {wh:Ex} {sets:List (Bs × Ex)} {order:List (Ex × Bool)} {limit priv:Int} {opt:Bool} {kids:List St} (hx:WX w b f 19 t n r cols cons names rows wh sets order limit priv opt kids) (h:Ww b l lg w) {T:List UInt8} (hc:∀W l1 lg1,Ww b l1 lg1 W→Wr b w W→l1=l→lg1=lg→Calls Tryz.prog 81 #[.pointer (some ⟨b,0,none⟩), .agg f.cells.toArray] W (WDid b l lg T W)):
   Calls Tryz.prog 43 #[.pointer (some ⟨b,0,none⟩), .agg f.cells.toArray] w (WDid b l lg T w):=by
 obtain ⟨V1,hV1⟩:∃W1,w.alloc (.cells f.cells.toArray tSt)=W1:=⟨_,rfl⟩
 have hb:Below w.heap.size w V1:=by rw [←hV1];exact al (Below.refl _ _) _
 have X0:=Lib.hid (show Cel V1 w.heap.size tSt f.cells.toArray by rw [←hV1];exact Cel.new _ _ _ rfl)
 have hlb:=h.lt
 have hr1:Wr b w V1:=Wr.of hb (Nat.le_of_lt hlb)
 have HC:=Lib.hid (show Calls Tryz.prog 81 #[.pointer (some ⟨b,0,none⟩), .agg f.cells.toArray] V1 (WDid b l lg T w) from (hc V1 l lg (h.below hb) hr1 rfl rfl).mono fun _ _ d=>(by
   obtain ⟨d1,l',lg',d2,d3,d4⟩:=d
   exact ⟨d1,l',lg',d2,hr1.trans d3,d4⟩))
 have E0:=Lib.hid hx.all.all.1.1
 have y0:V1.cell? ⟨w.heap.size,0,none⟩=some (.int .i64 19):=(X0.out.at_ 0).trans (by rw [←E0.out];rfl)
 clear hx h hc hb hr1
 go_enter Tryz.func43,Tryz.ntmps43
 go_wp2_with (first|(refine load_stmt rfl _ rfl w.heap.size 0 rfl f.cells (at_cel X0.out) rfl ?_)|(go_at_call 81;(with_reducible refine HC.out.mono ?_);rintro e1 w2 ⟨rfl,HD1⟩))
 go_end0
 exact ⟨rfl,HD1⟩
end
end Go.Proofs.YtiaomhdmllhmmaaGreatDoor.Sm
