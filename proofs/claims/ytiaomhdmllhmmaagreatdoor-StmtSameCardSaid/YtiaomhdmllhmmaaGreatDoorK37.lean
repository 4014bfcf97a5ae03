/- SELECT's text, part by part. A statement is written: SELECT. -/
import Derived.Test.YtiaomhdmllhmmaaGreatDoorK32
namespace Go.Proofs.YtiaomhdmllhmmaaGreatDoor.Sm
open Go.RowKit Mem Ep Right Lx Go.ChangeShapes Go.WideShapes
set_option linter.unusedVariables false
theorem tx_sel {t n r:Bs} {cols:List Co} {cons:List Cn} {names:List Bs} {rows:List (List Ex)} {wh:Ex} {sets:List (Bs × Ex)} {order:List (Ex × Bool)} {limit priv:Int} {opt:Bool} {kids:List St}:tx (stP (.mk 19 t n r cols cons names rows wh sets order limit priv opt kids))= [83,69,76,69,67,84,32]++(tx (selX rows)++([32,70,82,79,77,32]++(t++(tx (whP wh)++(tx (if order.isEmpty=true then [] else none::K kORDER::none::K kBY::none::sep (order.map ordP))++tx (limP limit)))))):=by
 rw [stP.eq_def]
 show [83,69,76,69,67,84,32]++tx (selX rows++(none::K kFROM::none::N t::(whP wh++((if order.isEmpty=true then [] else none::K kORDER::none::K kBY::none::sep (order.map ordP))++limP limit))))=_
 rw [tx_app]
 show _++(_++([32,70,82,79,77,32]++(t++tx (whP wh++((if order.isEmpty=true then [] else none::K kORDER::none::K kBY::none::sep (order.map ordP))++limP limit)))))=_
 rw [tx_app,tx_app]
theorem tx_lim {n:Int} (h:0≤n):tx (limP n)=List.flatten [[32,76,73,77,73,84,32],Num.dgz n]:=by
 unfold limP
 rw [if_pos h]
 rfl
theorem tx_ord {order:List (Ex × Bool)} (h:order≠ []):tx (if order.isEmpty=true then [] else none::K kORDER::none::K kBY::none::sep (order.map ordP))=List.flatten [[32,79,82,68,69,82,32,66,89,32]]++tx (sep (order.map ordP)):=by
 rw [if_neg (by rw [List.isEmpty_iff];exact h)]
 rfl
end Go.Proofs.YtiaomhdmllhmmaaGreatDoor.Sm
namespace Go.Proofs.YtiaomhdmllhmmaaGreatDoor.Sm
open Go.RowKit Mem Ep Right Lx Go.ChangeShapes Go.WideShapes
set_option linter.unusedVariables false
section
variable {w w' :World} {b:Nat} {l:List UInt8} {lg:Bool} {f:Fl}
theorem tx_wsel_000 {t n r:Bs} {cols:List Co} {cons:List Cn} {names:List Bs} {wh:Ex} {sets:List (Bs × Ex)} {priv:Int} {opt:Bool} {kids:List St}:tx (stP (.mk 19 t n r cols cons names [] wh sets [] (-1) priv opt kids))=List.flatten [[83,69,76,69,67,84,32]]++List.flatten [[42]]++List.flatten [[32,70,82,79,77,32],t]++tx (whP wh):=by
 rw [tx_sel];show [83,69,76,69,67,84,32]++([42]++([32,70,82,79,77,32]++(t++(tx (whP wh)++([]++ [])))))=_;simp
set_option maxRecDepth 100000 in
set_option maxHeartbeats 4000000 in
theorem wsel_000 {t n r:Bs} {cols:List Co} {cons:List Cn} {names:List Bs} {wh:Ex} {sets:List (Bs × Ex)} {priv:Int} {opt:Bool} {kids:List St} (hx:WX w b f 19 t n r cols cons names [] wh sets [] (-1) priv opt kids) (hw:okWh wh) (h:Ww b l lg w) (HL:l.length+(tx (stP (.mk 19 t n r cols cons names [] wh sets [] (-1) priv opt kids))).length≤1000000000):
   Calls Tryz.prog 81 #[.pointer (some ⟨b,0,none⟩), .agg f.cells.toArray] w (WDid b l lg (tx (stP (.mk 19 t n r cols cons names [] wh sets [] (-1) priv opt kids))) w):=by
 obtain ⟨V1,hV1⟩:∃W1,w.alloc (.cells f.cells.toArray tSt)=W1:=⟨_,rfl⟩
 have hb:Below w.heap.size w V1:=by rw [←hV1];exact al (Below.refl _ _) _
 have X0:=Lib.hid (show Cel V1 w.heap.size tSt f.cells.toArray by rw [←hV1];exact Cel.new _ _ _ rfl)
 have hlb:=h.lt
 have hw1:=h.below hb
 have hr1:Wr b w V1:=Wr.of hb (Nat.le_of_lt hlb)
 have HLEN:=Lib.hid (show l.length+(List.flatten [[83,69,76,69,67,84,32]]++List.flatten [[42]]++List.flatten [[32,70,82,79,77,32],t]++tx (whP wh)).length≤1000000000 by rw [←tx_wsel_000];exact HL)
 have HX:=Lib.hid hx
 obtain ⟨⟨q0,q1,q2,q3,q4,q5,q6⟩, -⟩:=hx.all.all
 have E0:=Lib.hid q0
 have E1:=Lib.hid q1
 have E2:=Lib.hid q2
 have E3:=Lib.hid q3
 have E4:=Lib.hid q4
 have E5:=Lib.hid q5
 have E6:=Lib.hid q6
 have Yhw:=Lib.hid hw
 have W0:=Lib.hid hw1
 have R0:=Lib.hid (hr1)
 have T0:=Lib.hid (show Wt lg l [] lg l from .inl ⟨rfl,(List.append_nil l).symm⟩)
 have y0_0:V1.cell? ⟨w.heap.size,0,none⟩=some (.int .i64 19):=(X0.out.at_ 0).trans (by rw [←E0.out];rfl)
 clear h HL hb hw1 hr1 hx q0 q1 q2 q3 q4 q5 q6 hw
 go_enter Tryz.func81,Tryz.ntmps81
 have H0:=Lib.hid (show Calls Tryz.prog 73 #[.pointer (some ⟨b,0,none⟩), .slice (some ⟨V1.heap.size,0,none⟩) 1 1] (V1.alloc (.cells #[.string ⟨#[83,69,76,69,67,84,32]⟩] tS)) (WDid b l lg (List.flatten [[83,69,76,69,67,84,32]]) V1) from saying [[83,69,76,69,67,84,32]] W0.out (by simp) (by have h1:=T0.out.len;have h2:=HLEN.out;simp only [List.length_append,List.length_nil] at h1 h2 ⊢;omega))
 go_wp2_with (go_at_call 73;(with_reducible refine H0.out.mono ?_))
 rintro e1 w1 ⟨rfl,l1,lg1,g1,g2,g3⟩
 have W1:=Lib.hid g1
 have R1:=Lib.hid (R0.out.trans g2)
 have T1:=Lib.hid (show Wt lg l ([]++(List.flatten [[83,69,76,69,67,84,32]])) lg1 l1 from T0.out.trans g3)
 have X1:=Lib.hid (g2.cel (by omega) (by decide) X0.out:Cel w1 w.heap.size tSt f.cells.toArray)
 clear g1 g2 g3
 have y1_7:w1.cell? ⟨w.heap.size,7,none⟩=some (.slice f.A7 f.n7 f.a7):=X1.out.at_ 7
 have hL7:=HX.out.all.all.2.2.2.2.1
 have hn7:f.n7=0:=hL7.1
 have z7:w1.cell? ⟨w.heap.size,7,none⟩=some (.slice f.A7 0 f.a7):=y1_7.trans (by rw [hn7])
 have HN7:=Lib.hid hn7
 clear hL7 hn7 y1_7
 have H1:=Lib.hid (show Calls Tryz.prog 73 #[.pointer (some ⟨b,0,none⟩), .slice (some ⟨w1.heap.size,0,none⟩) 1 1] (w1.alloc (.cells #[.string ⟨#[42]⟩] tS)) (WDid b l1 lg1 (List.flatten [[42]]) w1) from saying [[42]] W1.out (by simp) (by have h1:=T1.out.len;have h2:=HLEN.out;simp only [List.length_append,List.length_nil] at h1 h2 ⊢;omega))
 go_wp2_with (go_at_call 73;(with_reducible refine H1.out.mono ?_))
 rintro e2 w2 ⟨rfl,l2,lg2,g1,g2,g3⟩
 have W2:=Lib.hid g1
 have R2:=Lib.hid (R1.out.trans g2)
 have T2:=Lib.hid (show Wt lg l ([]++(List.flatten [[83,69,76,69,67,84,32]])++(List.flatten [[42]])) lg2 l2 from T1.out.trans g3)
 have X2:=Lib.hid (g2.cel (by omega) (by decide) X1.out:Cel w2 w.heap.size tSt f.cells.toArray)
 clear g1 g2 g3
 have z72:w2.cell? ⟨w.heap.size,7,none⟩=some (.slice f.A7 0 f.a7):=(show w2.cell? ⟨w.heap.size,7,none⟩=some (.slice f.A7 f.n7 f.a7) from X2.out.at_ 7).trans (by rw [HN7.out])
 go_wp2
 go_loopw [19] (fun i wr=>i= .int .i64 0∧wr=w2) (fun _ _=>0)
 case atStart=>exact ⟨rfl,rfl⟩
 case round=>
   obtain ⟨rfl,rfl⟩:=hrel
   have y2_1:wr.cell? ⟨w.heap.size,1,none⟩=some (.string (Ep.txt t)):=(X2.out.at_ 1).trans (by rw [←E1.out];rfl)
   have H2:=Lib.hid (show Calls Tryz.prog 73 #[.pointer (some ⟨b,0,none⟩), .slice (some ⟨wr.heap.size,0,none⟩) 2 2] (wr.alloc (.cells #[.string ⟨#[32,70,82,79,77,32]⟩, .string (Ep.txt t)] tS)) (WDid b l2 lg2 (List.flatten [[32,70,82,79,77,32],t]) wr) from saying [[32,70,82,79,77,32],t] W2.out (by simp) (by have h1:=T2.out.len;have h2:=HLEN.out;simp only [List.length_append,List.length_nil] at h1 h2 ⊢;omega))
   go_wp2_with (go_at_call 73;(with_reducible refine H2.out.mono ?_))
   rintro e3 w3 ⟨rfl,l3,lg3,g1,g2,g3⟩
   have W3:=Lib.hid g1
   have R3:=Lib.hid (R2.out.trans g2)
   have T3:=Lib.hid (show Wt lg l ([]++(List.flatten [[83,69,76,69,67,84,32]])++(List.flatten [[42]])++(List.flatten [[32,70,82,79,77,32],t])) lg3 l3 from T2.out.trans g3)
   have X3:=Lib.hid (g2.cel (by omega) (by decide) X2.out:Cel w3 w.heap.size tSt f.cells.toArray)
   clear g1 g2 g3
   have y3_8:w3.cell? ⟨w.heap.size,8,none⟩=some (.int .i64 f.ek):=X3.out.at_ 8
   have y3_9:w3.cell? ⟨w.heap.size,9,none⟩=some (.int .i64 f.eo):=X3.out.at_ 9
   have y3_10:w3.cell? ⟨w.heap.size,10,none⟩=some (.int .i64 f.vk):=X3.out.at_ 10
   have y3_11:w3.cell? ⟨w.heap.size,11,none⟩=some (.int .i64 f.vn):=X3.out.at_ 11
   have y3_12:w3.cell? ⟨w.heap.size,12,none⟩=some (.string f.vs):=X3.out.at_ 12
   have y3_13:w3.cell? ⟨w.heap.size,13,none⟩=some (.string f.ns):=X3.out.at_ 13
   have y3_14:w3.cell? ⟨w.heap.size,14,none⟩=some (.slice f.A8 f.n8 f.a8):=X3.out.at_ 14
   have H3:=Lib.hid (show Calls Tryz.prog 80 #[.pointer (some ⟨b,0,none⟩), .agg #[.int .i64 f.ek, .int .i64 f.eo, .int .i64 f.vk, .int .i64 f.vn, .string f.vs, .string f.ns, .slice f.A8 f.n8 f.a8]] w3 (WDid b l3 lg3 (tx (whP wh)) w3) from wwhere_any (cs:= [.int .i64 f.ek, .int .i64 f.eo, .int .i64 f.vk, .int .i64 f.vn, .string f.vs, .string f.ns, .slice f.A8 f.n8 f.a8]) (DtIn.below HX.out.all.all.2.2.2.2.2.1 R3.out.1) Yhw.out (fun hl=>(HX.out.exs _ (.inr (.inr (.inl rfl))) hl).to R3.out) W3.out (by have h1:=T3.out.len;have h2:=HLEN.out;simp only [List.length_append,List.length_nil] at h1 h2 ⊢;omega))
   go_wp2_with (go_at_call 80;(with_reducible refine H3.out.mono ?_))
   rintro e4 w4 ⟨rfl,l4,lg4,g1,g2,g3⟩
   have W4:=Lib.hid g1
   have R4:=Lib.hid (R3.out.trans g2)
   have T4:=Lib.hid (show Wt lg l ([]++(List.flatten [[83,69,76,69,67,84,32]])++(List.flatten [[42]])++(List.flatten [[32,70,82,79,77,32],t])++(tx (whP wh))) lg4 l4 from T3.out.trans g3)
   have X4:=Lib.hid (g2.cel (by omega) (by decide) X3.out:Cel w4 w.heap.size tSt f.cells.toArray)
   clear g1 g2 g3
   have y4_16:w4.cell? ⟨w.heap.size,16,none⟩=some (.slice f.A10 f.n10 f.a10):=X4.out.at_ 16
   have hn10:f.n10=0:=HX.out.all.all.2.2.2.2.2.2.2.1.1
   have z10:w4.cell? ⟨w.heap.size,16,none⟩=some (.slice f.A10 0 f.a10):=y4_16.trans (by rw [hn10])
   clear hn10 y4_16
   have y4_17:w4.cell? ⟨w.heap.size,17,none⟩=some (.int .i64 (-1)):=(X4.out.at_ 17).trans (by rw [←E4.out];rfl)
   go_wp2
   go_end0
   exact ⟨rfl,_,_,W4.out,R4.out,by have:=T4.out;rwa [show []++(List.flatten [[83,69,76,69,67,84,32]])++(List.flatten [[42]])++(List.flatten [[32,70,82,79,77,32],t])++(tx (whP wh))=tx (stP (.mk 19 t n r cols cons names [] wh sets [] (-1) priv opt kids)) from by rw [tx_wsel_000];rfl] at this⟩
theorem tx_wsel_001 {t n r:Bs} {cols:List Co} {cons:List Cn} {names:List Bs} {wh:Ex} {sets:List (Bs × Ex)} {limit priv:Int} {opt:Bool} {kids:List St} (hlm:0≤limit):tx (stP (.mk 19 t n r cols cons names [] wh sets [] limit priv opt kids))=List.flatten [[83,69,76,69,67,84,32]]++List.flatten [[42]]++List.flatten [[32,70,82,79,77,32],t]++tx (whP wh)++List.flatten [[32,76,73,77,73,84,32],Num.dgz limit]:=by
 rw [tx_sel,tx_lim hlm];show [83,69,76,69,67,84,32]++([42]++([32,70,82,79,77,32]++(t++(tx (whP wh)++([]++List.flatten [[32,76,73,77,73,84,32],Num.dgz limit])))))=_;simp
set_option maxRecDepth 100000 in
set_option maxHeartbeats 4000000 in
theorem wsel_001 {t n r:Bs} {cols:List Co} {cons:List Cn} {names:List Bs} {wh:Ex} {sets:List (Bs × Ex)} {limit priv:Int} {opt:Bool} {kids:List St} (hx:WX w b f 19 t n r cols cons names [] wh sets [] limit priv opt kids) (hw:okWh wh) (hlm:0≤limit) (hl2:limit≤9223372036854775807) (h:Ww b l lg w) (HL:l.length+(tx (stP (.mk 19 t n r cols cons names [] wh sets [] limit priv opt kids))).length≤1000000000):
   Calls Tryz.prog 81 #[.pointer (some ⟨b,0,none⟩), .agg f.cells.toArray] w (WDid b l lg (tx (stP (.mk 19 t n r cols cons names [] wh sets [] limit priv opt kids))) w):=by
 obtain ⟨V1,hV1⟩:∃W1,w.alloc (.cells f.cells.toArray tSt)=W1:=⟨_,rfl⟩
 have hb:Below w.heap.size w V1:=by rw [←hV1];exact al (Below.refl _ _) _
 have X0:=Lib.hid (show Cel V1 w.heap.size tSt f.cells.toArray by rw [←hV1];exact Cel.new _ _ _ rfl)
 have hlb:=h.lt
 have hw1:=h.below hb
 have hr1:Wr b w V1:=Wr.of hb (Nat.le_of_lt hlb)
 have HLEN:=Lib.hid (show l.length+(List.flatten [[83,69,76,69,67,84,32]]++List.flatten [[42]]++List.flatten [[32,70,82,79,77,32],t]++tx (whP wh)++List.flatten [[32,76,73,77,73,84,32],Num.dgz limit]).length≤1000000000 by rw [←tx_wsel_001 hlm];exact HL)
 have HX:=Lib.hid hx
 obtain ⟨⟨q0,q1,q2,q3,q4,q5,q6⟩, -⟩:=hx.all.all
 have E0:=Lib.hid q0
 have E1:=Lib.hid q1
 have E2:=Lib.hid q2
 have E3:=Lib.hid q3
 have E4:=Lib.hid q4
 have E5:=Lib.hid q5
 have E6:=Lib.hid q6
 have Yhw:=Lib.hid hw
 have Yhlm:=Lib.hid hlm
 have Yhl2:=Lib.hid hl2
 have W0:=Lib.hid hw1
 have R0:=Lib.hid (hr1)
 have T0:=Lib.hid (show Wt lg l [] lg l from .inl ⟨rfl,(List.append_nil l).symm⟩)
 have y0_0:V1.cell? ⟨w.heap.size,0,none⟩=some (.int .i64 19):=(X0.out.at_ 0).trans (by rw [←E0.out];rfl)
 clear h HL hb hw1 hr1 hx q0 q1 q2 q3 q4 q5 q6 hw hlm hl2
 go_enter Tryz.func81,Tryz.ntmps81
 have H0:=Lib.hid (show Calls Tryz.prog 73 #[.pointer (some ⟨b,0,none⟩), .slice (some ⟨V1.heap.size,0,none⟩) 1 1] (V1.alloc (.cells #[.string ⟨#[83,69,76,69,67,84,32]⟩] tS)) (WDid b l lg (List.flatten [[83,69,76,69,67,84,32]]) V1) from saying [[83,69,76,69,67,84,32]] W0.out (by simp) (by have h1:=T0.out.len;have h2:=HLEN.out;simp only [List.length_append,List.length_nil] at h1 h2 ⊢;omega))
 go_wp2_with (go_at_call 73;(with_reducible refine H0.out.mono ?_))
 rintro e1 w1 ⟨rfl,l1,lg1,g1,g2,g3⟩
 have W1:=Lib.hid g1
 have R1:=Lib.hid (R0.out.trans g2)
 have T1:=Lib.hid (show Wt lg l ([]++(List.flatten [[83,69,76,69,67,84,32]])) lg1 l1 from T0.out.trans g3)
 have X1:=Lib.hid (g2.cel (by omega) (by decide) X0.out:Cel w1 w.heap.size tSt f.cells.toArray)
 clear g1 g2 g3
 have y1_7:w1.cell? ⟨w.heap.size,7,none⟩=some (.slice f.A7 f.n7 f.a7):=X1.out.at_ 7
 have hL7:=HX.out.all.all.2.2.2.2.1
 have hn7:f.n7=0:=hL7.1
 have z7:w1.cell? ⟨w.heap.size,7,none⟩=some (.slice f.A7 0 f.a7):=y1_7.trans (by rw [hn7])
 have HN7:=Lib.hid hn7
 clear hL7 hn7 y1_7
 have H1:=Lib.hid (show Calls Tryz.prog 73 #[.pointer (some ⟨b,0,none⟩), .slice (some ⟨w1.heap.size,0,none⟩) 1 1] (w1.alloc (.cells #[.string ⟨#[42]⟩] tS)) (WDid b l1 lg1 (List.flatten [[42]]) w1) from saying [[42]] W1.out (by simp) (by have h1:=T1.out.len;have h2:=HLEN.out;simp only [List.length_append,List.length_nil] at h1 h2 ⊢;omega))
 go_wp2_with (go_at_call 73;(with_reducible refine H1.out.mono ?_))
 rintro e2 w2 ⟨rfl,l2,lg2,g1,g2,g3⟩
 have W2:=Lib.hid g1
 have R2:=Lib.hid (R1.out.trans g2)
 have T2:=Lib.hid (show Wt lg l ([]++(List.flatten [[83,69,76,69,67,84,32]])++(List.flatten [[42]])) lg2 l2 from T1.out.trans g3)
 have X2:=Lib.hid (g2.cel (by omega) (by decide) X1.out:Cel w2 w.heap.size tSt f.cells.toArray)
 clear g1 g2 g3
 have z72:w2.cell? ⟨w.heap.size,7,none⟩=some (.slice f.A7 0 f.a7):=(show w2.cell? ⟨w.heap.size,7,none⟩=some (.slice f.A7 f.n7 f.a7) from X2.out.at_ 7).trans (by rw [HN7.out])
 go_wp2
 go_loopw [19] (fun i wr=>i= .int .i64 0∧wr=w2) (fun _ _=>0)
 case atStart=>exact ⟨rfl,rfl⟩
 case round=>
   obtain ⟨rfl,rfl⟩:=hrel
   have y2_1:wr.cell? ⟨w.heap.size,1,none⟩=some (.string (Ep.txt t)):=(X2.out.at_ 1).trans (by rw [←E1.out];rfl)
   have H2:=Lib.hid (show Calls Tryz.prog 73 #[.pointer (some ⟨b,0,none⟩), .slice (some ⟨wr.heap.size,0,none⟩) 2 2] (wr.alloc (.cells #[.string ⟨#[32,70,82,79,77,32]⟩, .string (Ep.txt t)] tS)) (WDid b l2 lg2 (List.flatten [[32,70,82,79,77,32],t]) wr) from saying [[32,70,82,79,77,32],t] W2.out (by simp) (by have h1:=T2.out.len;have h2:=HLEN.out;simp only [List.length_append,List.length_nil] at h1 h2 ⊢;omega))
   go_wp2_with (go_at_call 73;(with_reducible refine H2.out.mono ?_))
   rintro e3 w3 ⟨rfl,l3,lg3,g1,g2,g3⟩
   have W3:=Lib.hid g1
   have R3:=Lib.hid (R2.out.trans g2)
   have T3:=Lib.hid (show Wt lg l ([]++(List.flatten [[83,69,76,69,67,84,32]])++(List.flatten [[42]])++(List.flatten [[32,70,82,79,77,32],t])) lg3 l3 from T2.out.trans g3)
   have X3:=Lib.hid (g2.cel (by omega) (by decide) X2.out:Cel w3 w.heap.size tSt f.cells.toArray)
   clear g1 g2 g3
   have y3_8:w3.cell? ⟨w.heap.size,8,none⟩=some (.int .i64 f.ek):=X3.out.at_ 8
   have y3_9:w3.cell? ⟨w.heap.size,9,none⟩=some (.int .i64 f.eo):=X3.out.at_ 9
   have y3_10:w3.cell? ⟨w.heap.size,10,none⟩=some (.int .i64 f.vk):=X3.out.at_ 10
   have y3_11:w3.cell? ⟨w.heap.size,11,none⟩=some (.int .i64 f.vn):=X3.out.at_ 11
   have y3_12:w3.cell? ⟨w.heap.size,12,none⟩=some (.string f.vs):=X3.out.at_ 12
   have y3_13:w3.cell? ⟨w.heap.size,13,none⟩=some (.string f.ns):=X3.out.at_ 13
   have y3_14:w3.cell? ⟨w.heap.size,14,none⟩=some (.slice f.A8 f.n8 f.a8):=X3.out.at_ 14
   have H3:=Lib.hid (show Calls Tryz.prog 80 #[.pointer (some ⟨b,0,none⟩), .agg #[.int .i64 f.ek, .int .i64 f.eo, .int .i64 f.vk, .int .i64 f.vn, .string f.vs, .string f.ns, .slice f.A8 f.n8 f.a8]] w3 (WDid b l3 lg3 (tx (whP wh)) w3) from wwhere_any (cs:= [.int .i64 f.ek, .int .i64 f.eo, .int .i64 f.vk, .int .i64 f.vn, .string f.vs, .string f.ns, .slice f.A8 f.n8 f.a8]) (DtIn.below HX.out.all.all.2.2.2.2.2.1 R3.out.1) Yhw.out (fun hl=>(HX.out.exs _ (.inr (.inr (.inl rfl))) hl).to R3.out) W3.out (by have h1:=T3.out.len;have h2:=HLEN.out;simp only [List.length_append,List.length_nil] at h1 h2 ⊢;omega))
   go_wp2_with (go_at_call 80;(with_reducible refine H3.out.mono ?_))
   rintro e4 w4 ⟨rfl,l4,lg4,g1,g2,g3⟩
   have W4:=Lib.hid g1
   have R4:=Lib.hid (R3.out.trans g2)
   have T4:=Lib.hid (show Wt lg l ([]++(List.flatten [[83,69,76,69,67,84,32]])++(List.flatten [[42]])++(List.flatten [[32,70,82,79,77,32],t])++(tx (whP wh))) lg4 l4 from T3.out.trans g3)
   have X4:=Lib.hid (g2.cel (by omega) (by decide) X3.out:Cel w4 w.heap.size tSt f.cells.toArray)
   clear g1 g2 g3
   have y4_16:w4.cell? ⟨w.heap.size,16,none⟩=some (.slice f.A10 f.n10 f.a10):=X4.out.at_ 16
   have hn10:f.n10=0:=HX.out.all.all.2.2.2.2.2.2.2.1.1
   have z10:w4.cell? ⟨w.heap.size,16,none⟩=some (.slice f.A10 0 f.a10):=y4_16.trans (by rw [hn10])
   clear hn10 y4_16
   have y4_17:w4.cell? ⟨w.heap.size,17,none⟩=some (.int .i64 limit):=(X4.out.at_ 17).trans (by rw [←E4.out];rfl)
   have tlm:(limit != -1)=true:=bne_yes (by have:=Yhlm.out;omega)
   have HIT:=Lib.hid (show Calls Tryz.prog 136 #[.int .i64 limit] w4 fun e w' =>e= .returned (.string (Ep.txt (Num.dgz limit)))∧Below w4.heap.size w4 w' from itoa_any limit Yhlm.out Yhl2.out ((HX.out.env.below R4.out.1).2.2.1))
   go_wp2_with (go_at_call 136;(with_reducible refine HIT.out.mono ?_))
   rintro e5 w5 ⟨rfl,hb⟩
   have W5:=Lib.hid (W4.out.below hb)
   have R5:=Lib.hid (R4.out.trans (Wr.of hb (Nat.le_of_lt W4.out.lt)))
   have T5:=T4
   have X5:=Lib.hid (X4.out.below hb)
   clear hb
   have H5:=Lib.hid (show Calls Tryz.prog 73 #[.pointer (some ⟨b,0,none⟩), .slice (some ⟨w5.heap.size,0,none⟩) 2 2] (w5.alloc (.cells #[.string ⟨#[32,76,73,77,73,84,32]⟩, .string (Ep.txt (Num.dgz limit))] tS)) (WDid b l4 lg4 (List.flatten [[32,76,73,77,73,84,32],Num.dgz limit]) w5) from saying [[32,76,73,77,73,84,32],(Num.dgz limit)] W5.out (by simp) (by have h1:=T5.out.len;have h2:=HLEN.out;simp only [List.length_append,List.length_nil] at h1 h2 ⊢;omega))
   go_wp2_with (go_at_call 73;(with_reducible refine H5.out.mono ?_))
   rintro e6 w6 ⟨rfl,l6,lg6,g1,g2,g3⟩
   have W6:=Lib.hid g1
   have R6:=Lib.hid (R5.out.trans g2)
   have T6:=Lib.hid (show Wt lg l ([]++(List.flatten [[83,69,76,69,67,84,32]])++(List.flatten [[42]])++(List.flatten [[32,70,82,79,77,32],t])++(tx (whP wh))++(List.flatten [[32,76,73,77,73,84,32],Num.dgz limit])) lg6 l6 from T5.out.trans g3)
   have X6:=Lib.hid (g2.cel (by omega) (by decide) X5.out:Cel w6 w.heap.size tSt f.cells.toArray)
   clear g1 g2 g3
   go_wp2
   go_end0
   exact ⟨rfl,_,_,W6.out,R6.out,by have:=T6.out;rwa [show []++(List.flatten [[83,69,76,69,67,84,32]])++(List.flatten [[42]])++(List.flatten [[32,70,82,79,77,32],t])++(tx (whP wh))++(List.flatten [[32,76,73,77,73,84,32],Num.dgz limit])=tx (stP (.mk 19 t n r cols cons names [] wh sets [] limit priv opt kids)) from by rw [tx_wsel_001 Yhlm.out];rfl] at this⟩
end
end Go.Proofs.YtiaomhdmllhmmaaGreatDoor.Sm
