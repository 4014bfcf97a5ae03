/- What a writer knows of a statement. A statement is written: tables, roles. -/
import Derived.Test.YtiaomhdmllhmmaaGreatDoorK28
import Derived.Test.YtiaomhdmllhmmaaGreatDoorK31
namespace Go.Proofs.YtiaomhdmllhmmaaGreatDoor.Sm
open Go.RowKit Mem Ep Right Lx Go.ChangeShapes Go.WideShapes
set_option linter.unusedVariables false
def ExOf (cons:List Cn) (rows:List (List Ex)) (wh:Ex) (sets:List (Bs × Ex)) (order:List (Ex × Bool)) (e:Ex):Prop:=(∃x∈cons,e=x.chk) ∨ (∃x∈rows,e∈x) ∨ e=wh ∨ (∃x∈sets,e=x.2) ∨ (∃x∈order,e=x.1)
structure WX (w:World) (b:Nat) (f:Fl) (k:Int) (t n r:Bs) (cols:List Co) (cons:List Cn) (names:List Bs) (rows:List (List Ex)) (wh:Ex) (sets:List (Bs × Ex)) (order:List (Ex × Bool)) (limit priv:Int) (opt:Bool) (kids:List St):Prop where
 env:WrE w b
 all:FlIn w b f (.mk k t n r cols cons names rows wh sets order limit priv opt kids)
 exs:∀e,ExOf cons rows wh sets order e→Lo e→ExW w b e
section
variable {w w' :World} {b:Nat} {f:Fl} {k:Int} {t n r:Bs} {cols:List Co} {cons:List Cn} {names:List Bs} {rows:List (List Ex)} {wh:Ex} {sets:List (Bs × Ex)} {order:List (Ex × Bool)} {limit priv:Int} {opt:Bool} {kids:List St}
theorem WX.to (h:WX w b f k t n r cols cons names rows wh sets order limit priv opt kids) (hr:Wr b w w'):WX w' b f k t n r cols cons names rows wh sets order limit priv opt kids:=⟨h.env.below hr.1,h.all.below hr.1,fun e he hl=>(h.exs e he hl).to hr⟩
theorem FlIn.nms {B:Nat} (h:FlIn w B f (.mk k t n r cols cons names rows wh sets order limit priv opt kids)):IsRow w (fun b=>b<B) 1 (names.map sDt) (.slice f.A6 f.n6 f.a6):=by
 obtain ⟨u4,u5,u6,u7,e,u9,u10,u14,hc,g4,g5,g6,g7,g8,g9,g10,g14⟩:=st_in.1 h
 obtain ⟨b0,b1,b2,b3,b4,b5,b6,b7,b8,rfl⟩:=ex_form g8
 unfold Fl.cells at hc
 simp only [List.cons_append,List.nil_append,List.cons.injEq] at hc
 obtain ⟨-, -, -, -, -, -,e6, -⟩:=hc
 rw [e6]
 exact g6
end
def csP (l:List Cn):List Pc:=l.flatMap fun x=>C 44::none::cnP x
theorem sep_cs:∀(a:List (List Pc)) (l:List Cn),a≠ []→sep (a++l.map cnP)=sep a++csP l
 |a, [],h=>by rw [List.map_nil,List.append_nil];show sep a=sep a++ [];rw [List.append_nil]
 | a,x::l,h=>by
   have hh:=sep_cs (a++ [cnP x]) l (by simp)
   rw [List.append_assoc,List.singleton_append] at hh
   rw [List.map_cons,hh,sep_snoc a _ h]
   show _=sep a++((C 44::none::cnP x)++csP l)
   rw [List.append_assoc]
theorem tcs_on {l:List Cn} {j:Nat} {x:Cn} (hx:l[j]?=some x):tx (csP (l.take (j+1)))=tx (csP (l.take j))++([44,32]++tx (cnP x)):=by
 rw [List.take_add_one,hx]
 unfold csP
 rw [List.flatMap_append,tx_app]
 show _++tx ((C 44::none::cnP x)++ [])=_
 rw [List.append_nil]
 rfl
theorem tcs_le {l:List Cn} {j:Nat}:(tx (csP (l.take j))).length≤(tx (csP l)).length:=by
 conv=>rhs;rw [←List.take_append_drop j l]
 unfold csP
 rw [List.flatMap_append,tx_app,List.length_append]
 omega
end Go.Proofs.YtiaomhdmllhmmaaGreatDoor.Sm
namespace Go.Proofs.YtiaomhdmllhmmaaGreatDoor.Sm
open Go.RowKit Mem Ep Right Lx Go.ChangeShapes Go.WideShapes
set_option linter.unusedVariables false
section
variable {w w' :World} {b:Nat} {l:List UInt8} {lg:Bool} {f:Fl}
theorem tx_wofTable_2 {t n r:Bs} {cols:List Co} {cons:List Cn} {names:List Bs} {rows:List (List Ex)} {wh:Ex} {sets:List (Bs × Ex)} {order:List (Ex × Bool)} {limit priv:Int} {opt:Bool} {kids:List St}:tx (stP (.mk 2 t n r cols cons names rows wh sets order limit priv opt kids))=List.flatten [[68,82,79,80,32,84,65,66,76,69,32],t]:=by
 rw [stP.eq_def]
 rfl
set_option maxRecDepth 100000 in
set_option maxHeartbeats 4000000 in
theorem wofTable_2 {t n r:Bs} {cols:List Co} {cons:List Cn} {names:List Bs} {rows:List (List Ex)} {wh:Ex} {sets:List (Bs × Ex)} {order:List (Ex × Bool)} {limit priv:Int} {opt:Bool} {kids:List St} (hx:WX w b f 2 t n r cols cons names rows wh sets order limit priv opt kids)  (h:Ww b l lg w) (HL:l.length+(tx (stP (.mk 2 t n r cols cons names rows wh sets order limit priv opt kids))).length≤1000000000):
   Calls Tryz.prog 41 #[.pointer (some ⟨b,0,none⟩), .agg f.cells.toArray] w (WDid b l lg (tx (stP (.mk 2 t n r cols cons names rows wh sets order limit priv opt kids))) w):=by
 obtain ⟨V1,hV1⟩:∃W1,w.alloc (.cells f.cells.toArray tSt)=W1:=⟨_,rfl⟩
 have hb:Below w.heap.size w V1:=by rw [←hV1];exact al (Below.refl _ _) _
 have X0:=Lib.hid (show Cel V1 w.heap.size tSt f.cells.toArray by rw [←hV1];exact Cel.new _ _ _ rfl)
 have hlb:=h.lt
 have hw1:=h.below hb
 have hr1:Wr b w V1:=Wr.of hb (Nat.le_of_lt hlb)
 have HLEN:=Lib.hid (show l.length+(List.flatten [[68,82,79,80,32,84,65,66,76,69,32],t]).length≤1000000000 by rw [←tx_wofTable_2];exact HL)
 have HX:=Lib.hid hx
 obtain ⟨⟨q0,q1,q2,q3,q4,q5,q6⟩, -⟩:=hx.all.all
 have E0:=Lib.hid q0
 have E1:=Lib.hid q1
 have E2:=Lib.hid q2
 have E3:=Lib.hid q3
 have E4:=Lib.hid q4
 have E5:=Lib.hid q5
 have E6:=Lib.hid q6
 have W0:=Lib.hid hw1
 have R0:=Lib.hid (hr1)
 have T0:=Lib.hid (show Wt lg l [] lg l from .inl ⟨rfl,(List.append_nil l).symm⟩)
 have y0_0:V1.cell? ⟨w.heap.size,0,none⟩=some (.int .i64 2):=(X0.out.at_ 0).trans (by rw [←E0.out];rfl)
 clear h HL hb hw1 hr1 hx q0 q1 q2 q3 q4 q5 q6
 go_enter Tryz.func41,Tryz.ntmps41
 have y0_1:V1.cell? ⟨w.heap.size,1,none⟩=some (.string (Ep.txt t)):=(X0.out.at_ 1).trans (by rw [←E1.out];rfl)
 have H0:=Lib.hid (show Calls Tryz.prog 73 #[.pointer (some ⟨b,0,none⟩), .slice (some ⟨V1.heap.size,0,none⟩) 2 2] (V1.alloc (.cells #[.string ⟨#[68,82,79,80,32,84,65,66,76,69,32]⟩, .string (Ep.txt t)] tS)) (WDid b l lg (List.flatten [[68,82,79,80,32,84,65,66,76,69,32],t]) V1) from saying [[68,82,79,80,32,84,65,66,76,69,32],t] W0.out (by simp) HLEN.out)
 go_wp2_with (go_at_call 73;(with_reducible refine H0.out.mono ?_))
 rintro e1 w1 ⟨rfl,l1,lg1,g1,g2,g3⟩
 have W1:=Lib.hid g1
 have R1:=Lib.hid (R0.out.trans g2)
 have T1:=Lib.hid (show Wt lg l ([]++(List.flatten [[68,82,79,80,32,84,65,66,76,69,32],t])) lg1 l1 from T0.out.trans g3)
 have X1:=Lib.hid (g2.cel (by omega) (by decide) X0.out:Cel w1 w.heap.size tSt f.cells.toArray)
 clear g1 g2 g3
 go_wp2
 go_end0
 exact ⟨rfl,_,_,W1.out,R1.out,by have:=T1.out;rwa [show []++(List.flatten [[68,82,79,80,32,84,65,66,76,69,32],t])=tx (stP (.mk 2 t n r cols cons names rows wh sets order limit priv opt kids)) from by rw [tx_wofTable_2];rfl] at this⟩
theorem tx_wofTable_4 {t n r:Bs} {cols:List Co} {cons:List Cn} {names:List Bs} {rows:List (List Ex)} {wh:Ex} {sets:List (Bs × Ex)} {order:List (Ex × Bool)} {limit priv:Int} {opt:Bool} {kids:List St}:tx (stP (.mk 4 t n r cols cons names rows wh sets order limit priv opt kids))=List.flatten [[65,76,84,69,82,32,84,65,66,76,69,32],t, [32,68,82,79,80,32,67,79,76,85,77,78,32],n]:=by
 rw [stP.eq_def]
 rfl
set_option maxRecDepth 100000 in
set_option maxHeartbeats 4000000 in
theorem wofTable_4 {t n r:Bs} {cols:List Co} {cons:List Cn} {names:List Bs} {rows:List (List Ex)} {wh:Ex} {sets:List (Bs × Ex)} {order:List (Ex × Bool)} {limit priv:Int} {opt:Bool} {kids:List St} (hx:WX w b f 4 t n r cols cons names rows wh sets order limit priv opt kids)  (h:Ww b l lg w) (HL:l.length+(tx (stP (.mk 4 t n r cols cons names rows wh sets order limit priv opt kids))).length≤1000000000):
   Calls Tryz.prog 41 #[.pointer (some ⟨b,0,none⟩), .agg f.cells.toArray] w (WDid b l lg (tx (stP (.mk 4 t n r cols cons names rows wh sets order limit priv opt kids))) w):=by
 obtain ⟨V1,hV1⟩:∃W1,w.alloc (.cells f.cells.toArray tSt)=W1:=⟨_,rfl⟩
 have hb:Below w.heap.size w V1:=by rw [←hV1];exact al (Below.refl _ _) _
 have X0:=Lib.hid (show Cel V1 w.heap.size tSt f.cells.toArray by rw [←hV1];exact Cel.new _ _ _ rfl)
 have hlb:=h.lt
 have hw1:=h.below hb
 have hr1:Wr b w V1:=Wr.of hb (Nat.le_of_lt hlb)
 have HLEN:=Lib.hid (show l.length+(List.flatten [[65,76,84,69,82,32,84,65,66,76,69,32],t, [32,68,82,79,80,32,67,79,76,85,77,78,32],n]).length≤1000000000 by rw [←tx_wofTable_4];exact HL)
 have HX:=Lib.hid hx
 obtain ⟨⟨q0,q1,q2,q3,q4,q5,q6⟩, -⟩:=hx.all.all
 have E0:=Lib.hid q0
 have E1:=Lib.hid q1
 have E2:=Lib.hid q2
 have E3:=Lib.hid q3
 have E4:=Lib.hid q4
 have E5:=Lib.hid q5
 have E6:=Lib.hid q6
 have W0:=Lib.hid hw1
 have R0:=Lib.hid (hr1)
 have T0:=Lib.hid (show Wt lg l [] lg l from .inl ⟨rfl,(List.append_nil l).symm⟩)
 have y0_0:V1.cell? ⟨w.heap.size,0,none⟩=some (.int .i64 4):=(X0.out.at_ 0).trans (by rw [←E0.out];rfl)
 clear h HL hb hw1 hr1 hx q0 q1 q2 q3 q4 q5 q6
 go_enter Tryz.func41,Tryz.ntmps41
 have y0_1:V1.cell? ⟨w.heap.size,1,none⟩=some (.string (Ep.txt t)):=(X0.out.at_ 1).trans (by rw [←E1.out];rfl)
 have y0_2:V1.cell? ⟨w.heap.size,2,none⟩=some (.string (Ep.txt n)):=(X0.out.at_ 2).trans (by rw [←E2.out];rfl)
 have H0:=Lib.hid (show Calls Tryz.prog 73 #[.pointer (some ⟨b,0,none⟩), .slice (some ⟨V1.heap.size,0,none⟩) 4 4] (V1.alloc (.cells #[.string ⟨#[65,76,84,69,82,32,84,65,66,76,69,32]⟩, .string (Ep.txt t), .string ⟨#[32,68,82,79,80,32,67,79,76,85,77,78,32]⟩, .string (Ep.txt n)] tS)) (WDid b l lg (List.flatten [[65,76,84,69,82,32,84,65,66,76,69,32],t, [32,68,82,79,80,32,67,79,76,85,77,78,32],n]) V1) from saying [[65,76,84,69,82,32,84,65,66,76,69,32],t, [32,68,82,79,80,32,67,79,76,85,77,78,32],n] W0.out (by simp) HLEN.out)
 go_wp2_with (go_at_call 73;(with_reducible refine H0.out.mono ?_))
 rintro e1 w1 ⟨rfl,l1,lg1,g1,g2,g3⟩
 have W1:=Lib.hid g1
 have R1:=Lib.hid (R0.out.trans g2)
 have T1:=Lib.hid (show Wt lg l ([]++(List.flatten [[65,76,84,69,82,32,84,65,66,76,69,32],t, [32,68,82,79,80,32,67,79,76,85,77,78,32],n])) lg1 l1 from T0.out.trans g3)
 have X1:=Lib.hid (g2.cel (by omega) (by decide) X0.out:Cel w1 w.heap.size tSt f.cells.toArray)
 clear g1 g2 g3
 go_wp2
 go_end0
 exact ⟨rfl,_,_,W1.out,R1.out,by have:=T1.out;rwa [show []++(List.flatten [[65,76,84,69,82,32,84,65,66,76,69,32],t, [32,68,82,79,80,32,67,79,76,85,77,78,32],n])=tx (stP (.mk 4 t n r cols cons names rows wh sets order limit priv opt kids)) from by rw [tx_wofTable_4];rfl] at this⟩
theorem tx_wofTable_5 {t n r:Bs} {cols:List Co} {cons:List Cn} {names:List Bs} {rows:List (List Ex)} {wh:Ex} {sets:List (Bs × Ex)} {order:List (Ex × Bool)} {limit priv:Int} {opt:Bool} {kids:List St}:tx (stP (.mk 5 t n r cols cons names rows wh sets order limit priv opt kids))=List.flatten [[65,76,84,69,82,32,84,65,66,76,69,32],t, [32,82,69,78,65,77,69,32,84,79,32],n]:=by
 rw [stP.eq_def]
 rfl
set_option maxRecDepth 100000 in
set_option maxHeartbeats 4000000 in
theorem wofTable_5 {t n r:Bs} {cols:List Co} {cons:List Cn} {names:List Bs} {rows:List (List Ex)} {wh:Ex} {sets:List (Bs × Ex)} {order:List (Ex × Bool)} {limit priv:Int} {opt:Bool} {kids:List St} (hx:WX w b f 5 t n r cols cons names rows wh sets order limit priv opt kids)  (h:Ww b l lg w) (HL:l.length+(tx (stP (.mk 5 t n r cols cons names rows wh sets order limit priv opt kids))).length≤1000000000):
   Calls Tryz.prog 41 #[.pointer (some ⟨b,0,none⟩), .agg f.cells.toArray] w (WDid b l lg (tx (stP (.mk 5 t n r cols cons names rows wh sets order limit priv opt kids))) w):=by
 obtain ⟨V1,hV1⟩:∃W1,w.alloc (.cells f.cells.toArray tSt)=W1:=⟨_,rfl⟩
 have hb:Below w.heap.size w V1:=by rw [←hV1];exact al (Below.refl _ _) _
 have X0:=Lib.hid (show Cel V1 w.heap.size tSt f.cells.toArray by rw [←hV1];exact Cel.new _ _ _ rfl)
 have hlb:=h.lt
 have hw1:=h.below hb
 have hr1:Wr b w V1:=Wr.of hb (Nat.le_of_lt hlb)
 have HLEN:=Lib.hid (show l.length+(List.flatten [[65,76,84,69,82,32,84,65,66,76,69,32],t, [32,82,69,78,65,77,69,32,84,79,32],n]).length≤1000000000 by rw [←tx_wofTable_5];exact HL)
 have HX:=Lib.hid hx
 obtain ⟨⟨q0,q1,q2,q3,q4,q5,q6⟩, -⟩:=hx.all.all
 have E0:=Lib.hid q0
 have E1:=Lib.hid q1
 have E2:=Lib.hid q2
 have E3:=Lib.hid q3
 have E4:=Lib.hid q4
 have E5:=Lib.hid q5
 have E6:=Lib.hid q6
 have W0:=Lib.hid hw1
 have R0:=Lib.hid (hr1)
 have T0:=Lib.hid (show Wt lg l [] lg l from .inl ⟨rfl,(List.append_nil l).symm⟩)
 have y0_0:V1.cell? ⟨w.heap.size,0,none⟩=some (.int .i64 5):=(X0.out.at_ 0).trans (by rw [←E0.out];rfl)
 clear h HL hb hw1 hr1 hx q0 q1 q2 q3 q4 q5 q6
 go_enter Tryz.func41,Tryz.ntmps41
 have y0_1:V1.cell? ⟨w.heap.size,1,none⟩=some (.string (Ep.txt t)):=(X0.out.at_ 1).trans (by rw [←E1.out];rfl)
 have y0_2:V1.cell? ⟨w.heap.size,2,none⟩=some (.string (Ep.txt n)):=(X0.out.at_ 2).trans (by rw [←E2.out];rfl)
 have H0:=Lib.hid (show Calls Tryz.prog 73 #[.pointer (some ⟨b,0,none⟩), .slice (some ⟨V1.heap.size,0,none⟩) 4 4] (V1.alloc (.cells #[.string ⟨#[65,76,84,69,82,32,84,65,66,76,69,32]⟩, .string (Ep.txt t), .string ⟨#[32,82,69,78,65,77,69,32,84,79,32]⟩, .string (Ep.txt n)] tS)) (WDid b l lg (List.flatten [[65,76,84,69,82,32,84,65,66,76,69,32],t, [32,82,69,78,65,77,69,32,84,79,32],n]) V1) from saying [[65,76,84,69,82,32,84,65,66,76,69,32],t, [32,82,69,78,65,77,69,32,84,79,32],n] W0.out (by simp) HLEN.out)
 go_wp2_with (go_at_call 73;(with_reducible refine H0.out.mono ?_))
 rintro e1 w1 ⟨rfl,l1,lg1,g1,g2,g3⟩
 have W1:=Lib.hid g1
 have R1:=Lib.hid (R0.out.trans g2)
 have T1:=Lib.hid (show Wt lg l ([]++(List.flatten [[65,76,84,69,82,32,84,65,66,76,69,32],t, [32,82,69,78,65,77,69,32,84,79,32],n])) lg1 l1 from T0.out.trans g3)
 have X1:=Lib.hid (g2.cel (by omega) (by decide) X0.out:Cel w1 w.heap.size tSt f.cells.toArray)
 clear g1 g2 g3
 go_wp2
 go_end0
 exact ⟨rfl,_,_,W1.out,R1.out,by have:=T1.out;rwa [show []++(List.flatten [[65,76,84,69,82,32,84,65,66,76,69,32],t, [32,82,69,78,65,77,69,32,84,79,32],n])=tx (stP (.mk 5 t n r cols cons names rows wh sets order limit priv opt kids)) from by rw [tx_wofTable_5];rfl] at this⟩
theorem tx_wofTable_7 {t n r:Bs} {cols:List Co} {cons:List Cn} {names:List Bs} {rows:List (List Ex)} {wh:Ex} {sets:List (Bs × Ex)} {order:List (Ex × Bool)} {limit priv:Int} {opt:Bool} {kids:List St}:tx (stP (.mk 7 t n r cols cons names rows wh sets order limit priv opt kids))=List.flatten [[65,76,84,69,82,32,84,65,66,76,69,32],t, [32,68,82,79,80,32,67,79,78,83,84,82,65,73,78,84,32],n]:=by
 rw [stP.eq_def]
 rfl
set_option maxRecDepth 100000 in
set_option maxHeartbeats 4000000 in
theorem wofTable_7 {t n r:Bs} {cols:List Co} {cons:List Cn} {names:List Bs} {rows:List (List Ex)} {wh:Ex} {sets:List (Bs × Ex)} {order:List (Ex × Bool)} {limit priv:Int} {opt:Bool} {kids:List St} (hx:WX w b f 7 t n r cols cons names rows wh sets order limit priv opt kids)  (h:Ww b l lg w) (HL:l.length+(tx (stP (.mk 7 t n r cols cons names rows wh sets order limit priv opt kids))).length≤1000000000):
   Calls Tryz.prog 41 #[.pointer (some ⟨b,0,none⟩), .agg f.cells.toArray] w (WDid b l lg (tx (stP (.mk 7 t n r cols cons names rows wh sets order limit priv opt kids))) w):=by
 obtain ⟨V1,hV1⟩:∃W1,w.alloc (.cells f.cells.toArray tSt)=W1:=⟨_,rfl⟩
 have hb:Below w.heap.size w V1:=by rw [←hV1];exact al (Below.refl _ _) _
 have X0:=Lib.hid (show Cel V1 w.heap.size tSt f.cells.toArray by rw [←hV1];exact Cel.new _ _ _ rfl)
 have hlb:=h.lt
 have hw1:=h.below hb
 have hr1:Wr b w V1:=Wr.of hb (Nat.le_of_lt hlb)
 have HLEN:=Lib.hid (show l.length+(List.flatten [[65,76,84,69,82,32,84,65,66,76,69,32],t, [32,68,82,79,80,32,67,79,78,83,84,82,65,73,78,84,32],n]).length≤1000000000 by rw [←tx_wofTable_7];exact HL)
 have HX:=Lib.hid hx
 obtain ⟨⟨q0,q1,q2,q3,q4,q5,q6⟩, -⟩:=hx.all.all
 have E0:=Lib.hid q0
 have E1:=Lib.hid q1
 have E2:=Lib.hid q2
 have E3:=Lib.hid q3
 have E4:=Lib.hid q4
 have E5:=Lib.hid q5
 have E6:=Lib.hid q6
 have W0:=Lib.hid hw1
 have R0:=Lib.hid (hr1)
 have T0:=Lib.hid (show Wt lg l [] lg l from .inl ⟨rfl,(List.append_nil l).symm⟩)
 have y0_0:V1.cell? ⟨w.heap.size,0,none⟩=some (.int .i64 7):=(X0.out.at_ 0).trans (by rw [←E0.out];rfl)
 clear h HL hb hw1 hr1 hx q0 q1 q2 q3 q4 q5 q6
 go_enter Tryz.func41,Tryz.ntmps41
 have y0_1:V1.cell? ⟨w.heap.size,1,none⟩=some (.string (Ep.txt t)):=(X0.out.at_ 1).trans (by rw [←E1.out];rfl)
 have y0_2:V1.cell? ⟨w.heap.size,2,none⟩=some (.string (Ep.txt n)):=(X0.out.at_ 2).trans (by rw [←E2.out];rfl)
 have H0:=Lib.hid (show Calls Tryz.prog 73 #[.pointer (some ⟨b,0,none⟩), .slice (some ⟨V1.heap.size,0,none⟩) 4 4] (V1.alloc (.cells #[.string ⟨#[65,76,84,69,82,32,84,65,66,76,69,32]⟩, .string (Ep.txt t), .string ⟨#[32,68,82,79,80,32,67,79,78,83,84,82,65,73,78,84,32]⟩, .string (Ep.txt n)] tS)) (WDid b l lg (List.flatten [[65,76,84,69,82,32,84,65,66,76,69,32],t, [32,68,82,79,80,32,67,79,78,83,84,82,65,73,78,84,32],n]) V1) from saying [[65,76,84,69,82,32,84,65,66,76,69,32],t, [32,68,82,79,80,32,67,79,78,83,84,82,65,73,78,84,32],n] W0.out (by simp) HLEN.out)
 go_wp2_with (go_at_call 73;(with_reducible refine H0.out.mono ?_))
 rintro e1 w1 ⟨rfl,l1,lg1,g1,g2,g3⟩
 have W1:=Lib.hid g1
 have R1:=Lib.hid (R0.out.trans g2)
 have T1:=Lib.hid (show Wt lg l ([]++(List.flatten [[65,76,84,69,82,32,84,65,66,76,69,32],t, [32,68,82,79,80,32,67,79,78,83,84,82,65,73,78,84,32],n])) lg1 l1 from T0.out.trans g3)
 have X1:=Lib.hid (g2.cel (by omega) (by decide) X0.out:Cel w1 w.heap.size tSt f.cells.toArray)
 clear g1 g2 g3
 go_wp2
 go_end0
 exact ⟨rfl,_,_,W1.out,R1.out,by have:=T1.out;rwa [show []++(List.flatten [[65,76,84,69,82,32,84,65,66,76,69,32],t, [32,68,82,79,80,32,67,79,78,83,84,82,65,73,78,84,32],n])=tx (stP (.mk 7 t n r cols cons names rows wh sets order limit priv opt kids)) from by rw [tx_wofTable_7];rfl] at this⟩
theorem tx_wofTable_9 {t n r:Bs} {cols:List Co} {cons:List Cn} {names:List Bs} {rows:List (List Ex)} {wh:Ex} {sets:List (Bs × Ex)} {order:List (Ex × Bool)} {limit priv:Int} {opt:Bool} {kids:List St}:tx (stP (.mk 9 t n r cols cons names rows wh sets order limit priv opt kids))=List.flatten [[68,82,79,80,32,73,78,68,69,88,32],n, [32,79,78,32],t]:=by
 rw [stP.eq_def]
 rfl
set_option maxRecDepth 100000 in
set_option maxHeartbeats 4000000 in
theorem wofTable_9 {t n r:Bs} {cols:List Co} {cons:List Cn} {names:List Bs} {rows:List (List Ex)} {wh:Ex} {sets:List (Bs × Ex)} {order:List (Ex × Bool)} {limit priv:Int} {opt:Bool} {kids:List St} (hx:WX w b f 9 t n r cols cons names rows wh sets order limit priv opt kids)  (h:Ww b l lg w) (HL:l.length+(tx (stP (.mk 9 t n r cols cons names rows wh sets order limit priv opt kids))).length≤1000000000):
   Calls Tryz.prog 41 #[.pointer (some ⟨b,0,none⟩), .agg f.cells.toArray] w (WDid b l lg (tx (stP (.mk 9 t n r cols cons names rows wh sets order limit priv opt kids))) w):=by
 obtain ⟨V1,hV1⟩:∃W1,w.alloc (.cells f.cells.toArray tSt)=W1:=⟨_,rfl⟩
 have hb:Below w.heap.size w V1:=by rw [←hV1];exact al (Below.refl _ _) _
 have X0:=Lib.hid (show Cel V1 w.heap.size tSt f.cells.toArray by rw [←hV1];exact Cel.new _ _ _ rfl)
 have hlb:=h.lt
 have hw1:=h.below hb
 have hr1:Wr b w V1:=Wr.of hb (Nat.le_of_lt hlb)
 have HLEN:=Lib.hid (show l.length+(List.flatten [[68,82,79,80,32,73,78,68,69,88,32],n, [32,79,78,32],t]).length≤1000000000 by rw [←tx_wofTable_9];exact HL)
 have HX:=Lib.hid hx
 obtain ⟨⟨q0,q1,q2,q3,q4,q5,q6⟩, -⟩:=hx.all.all
 have E0:=Lib.hid q0
 have E1:=Lib.hid q1
 have E2:=Lib.hid q2
 have E3:=Lib.hid q3
 have E4:=Lib.hid q4
 have E5:=Lib.hid q5
 have E6:=Lib.hid q6
 have W0:=Lib.hid hw1
 have R0:=Lib.hid (hr1)
 have T0:=Lib.hid (show Wt lg l [] lg l from .inl ⟨rfl,(List.append_nil l).symm⟩)
 have y0_0:V1.cell? ⟨w.heap.size,0,none⟩=some (.int .i64 9):=(X0.out.at_ 0).trans (by rw [←E0.out];rfl)
 clear h HL hb hw1 hr1 hx q0 q1 q2 q3 q4 q5 q6
 go_enter Tryz.func41,Tryz.ntmps41
 have y0_1:V1.cell? ⟨w.heap.size,1,none⟩=some (.string (Ep.txt t)):=(X0.out.at_ 1).trans (by rw [←E1.out];rfl)
 have y0_2:V1.cell? ⟨w.heap.size,2,none⟩=some (.string (Ep.txt n)):=(X0.out.at_ 2).trans (by rw [←E2.out];rfl)
 have H0:=Lib.hid (show Calls Tryz.prog 73 #[.pointer (some ⟨b,0,none⟩), .slice (some ⟨V1.heap.size,0,none⟩) 4 4] (V1.alloc (.cells #[.string ⟨#[68,82,79,80,32,73,78,68,69,88,32]⟩, .string (Ep.txt n), .string ⟨#[32,79,78,32]⟩, .string (Ep.txt t)] tS)) (WDid b l lg (List.flatten [[68,82,79,80,32,73,78,68,69,88,32],n, [32,79,78,32],t]) V1) from saying [[68,82,79,80,32,73,78,68,69,88,32],n, [32,79,78,32],t] W0.out (by simp) HLEN.out)
 go_wp2_with (go_at_call 73;(with_reducible refine H0.out.mono ?_))
 rintro e1 w1 ⟨rfl,l1,lg1,g1,g2,g3⟩
 have W1:=Lib.hid g1
 have R1:=Lib.hid (R0.out.trans g2)
 have T1:=Lib.hid (show Wt lg l ([]++(List.flatten [[68,82,79,80,32,73,78,68,69,88,32],n, [32,79,78,32],t])) lg1 l1 from T0.out.trans g3)
 have X1:=Lib.hid (g2.cel (by omega) (by decide) X0.out:Cel w1 w.heap.size tSt f.cells.toArray)
 clear g1 g2 g3
 go_wp2
 go_end0
 exact ⟨rfl,_,_,W1.out,R1.out,by have:=T1.out;rwa [show []++(List.flatten [[68,82,79,80,32,73,78,68,69,88,32],n, [32,79,78,32],t])=tx (stP (.mk 9 t n r cols cons names rows wh sets order limit priv opt kids)) from by rw [tx_wofTable_9];rfl] at this⟩
theorem tx_wofRole_10 {t n r:Bs} {cols:List Co} {cons:List Cn} {names:List Bs} {rows:List (List Ex)} {wh:Ex} {sets:List (Bs × Ex)} {order:List (Ex × Bool)} {limit priv:Int} {opt:Bool} {kids:List St}:tx (stP (.mk 10 t n r cols cons names rows wh sets order limit priv opt kids))=List.flatten [[67,82,69,65,84,69,32,82,79,76,69,32],n]:=by
 rw [stP.eq_def]
 rfl
set_option maxRecDepth 100000 in
set_option maxHeartbeats 4000000 in
theorem wofRole_10 {t n r:Bs} {cols:List Co} {cons:List Cn} {names:List Bs} {rows:List (List Ex)} {wh:Ex} {sets:List (Bs × Ex)} {order:List (Ex × Bool)} {limit priv:Int} {opt:Bool} {kids:List St} (hx:WX w b f 10 t n r cols cons names rows wh sets order limit priv opt kids)  (h:Ww b l lg w) (HL:l.length+(tx (stP (.mk 10 t n r cols cons names rows wh sets order limit priv opt kids))).length≤1000000000):
   Calls Tryz.prog 42 #[.pointer (some ⟨b,0,none⟩), .agg f.cells.toArray] w (WDid b l lg (tx (stP (.mk 10 t n r cols cons names rows wh sets order limit priv opt kids))) w):=by
 obtain ⟨V1,hV1⟩:∃W1,w.alloc (.cells f.cells.toArray tSt)=W1:=⟨_,rfl⟩
 have hb:Below w.heap.size w V1:=by rw [←hV1];exact al (Below.refl _ _) _
 have X0:=Lib.hid (show Cel V1 w.heap.size tSt f.cells.toArray by rw [←hV1];exact Cel.new _ _ _ rfl)
 have hlb:=h.lt
 have hw1:=h.below hb
 have hr1:Wr b w V1:=Wr.of hb (Nat.le_of_lt hlb)
 have HLEN:=Lib.hid (show l.length+(List.flatten [[67,82,69,65,84,69,32,82,79,76,69,32],n]).length≤1000000000 by rw [←tx_wofRole_10];exact HL)
 have HX:=Lib.hid hx
 obtain ⟨⟨q0,q1,q2,q3,q4,q5,q6⟩, -⟩:=hx.all.all
 have E0:=Lib.hid q0
 have E1:=Lib.hid q1
 have E2:=Lib.hid q2
 have E3:=Lib.hid q3
 have E4:=Lib.hid q4
 have E5:=Lib.hid q5
 have E6:=Lib.hid q6
 have W0:=Lib.hid hw1
 have R0:=Lib.hid (hr1)
 have T0:=Lib.hid (show Wt lg l [] lg l from .inl ⟨rfl,(List.append_nil l).symm⟩)
 have y0_0:V1.cell? ⟨w.heap.size,0,none⟩=some (.int .i64 10):=(X0.out.at_ 0).trans (by rw [←E0.out];rfl)
 clear h HL hb hw1 hr1 hx q0 q1 q2 q3 q4 q5 q6
 go_enter Tryz.func42,Tryz.ntmps42
 have y0_2:V1.cell? ⟨w.heap.size,2,none⟩=some (.string (Ep.txt n)):=(X0.out.at_ 2).trans (by rw [←E2.out];rfl)
 have H0:=Lib.hid (show Calls Tryz.prog 73 #[.pointer (some ⟨b,0,none⟩), .slice (some ⟨V1.heap.size,0,none⟩) 2 2] (V1.alloc (.cells #[.string ⟨#[67,82,69,65,84,69,32,82,79,76,69,32]⟩, .string (Ep.txt n)] tS)) (WDid b l lg (List.flatten [[67,82,69,65,84,69,32,82,79,76,69,32],n]) V1) from saying [[67,82,69,65,84,69,32,82,79,76,69,32],n] W0.out (by simp) HLEN.out)
 go_wp2_with (go_at_call 73;(with_reducible refine H0.out.mono ?_))
 rintro e1 w1 ⟨rfl,l1,lg1,g1,g2,g3⟩
 have W1:=Lib.hid g1
 have R1:=Lib.hid (R0.out.trans g2)
 have T1:=Lib.hid (show Wt lg l ([]++(List.flatten [[67,82,69,65,84,69,32,82,79,76,69,32],n])) lg1 l1 from T0.out.trans g3)
 have X1:=Lib.hid (g2.cel (by omega) (by decide) X0.out:Cel w1 w.heap.size tSt f.cells.toArray)
 clear g1 g2 g3
 go_wp2
 go_end0
 exact ⟨rfl,_,_,W1.out,R1.out,by have:=T1.out;rwa [show []++(List.flatten [[67,82,69,65,84,69,32,82,79,76,69,32],n])=tx (stP (.mk 10 t n r cols cons names rows wh sets order limit priv opt kids)) from by rw [tx_wofRole_10];rfl] at this⟩
theorem tx_wofRole_11 {t n r:Bs} {cols:List Co} {cons:List Cn} {names:List Bs} {rows:List (List Ex)} {wh:Ex} {sets:List (Bs × Ex)} {order:List (Ex × Bool)} {limit priv:Int} {opt:Bool} {kids:List St}:tx (stP (.mk 11 t n r cols cons names rows wh sets order limit priv opt kids))=List.flatten [[68,82,79,80,32,82,79,76,69,32],n]:=by
 rw [stP.eq_def]
 rfl
set_option maxRecDepth 100000 in
set_option maxHeartbeats 4000000 in
theorem wofRole_11 {t n r:Bs} {cols:List Co} {cons:List Cn} {names:List Bs} {rows:List (List Ex)} {wh:Ex} {sets:List (Bs × Ex)} {order:List (Ex × Bool)} {limit priv:Int} {opt:Bool} {kids:List St} (hx:WX w b f 11 t n r cols cons names rows wh sets order limit priv opt kids)  (h:Ww b l lg w) (HL:l.length+(tx (stP (.mk 11 t n r cols cons names rows wh sets order limit priv opt kids))).length≤1000000000):
   Calls Tryz.prog 42 #[.pointer (some ⟨b,0,none⟩), .agg f.cells.toArray] w (WDid b l lg (tx (stP (.mk 11 t n r cols cons names rows wh sets order limit priv opt kids))) w):=by
 obtain ⟨V1,hV1⟩:∃W1,w.alloc (.cells f.cells.toArray tSt)=W1:=⟨_,rfl⟩
 have hb:Below w.heap.size w V1:=by rw [←hV1];exact al (Below.refl _ _) _
 have X0:=Lib.hid (show Cel V1 w.heap.size tSt f.cells.toArray by rw [←hV1];exact Cel.new _ _ _ rfl)
 have hlb:=h.lt
 have hw1:=h.below hb
 have hr1:Wr b w V1:=Wr.of hb (Nat.le_of_lt hlb)
 have HLEN:=Lib.hid (show l.length+(List.flatten [[68,82,79,80,32,82,79,76,69,32],n]).length≤1000000000 by rw [←tx_wofRole_11];exact HL)
 have HX:=Lib.hid hx
 obtain ⟨⟨q0,q1,q2,q3,q4,q5,q6⟩, -⟩:=hx.all.all
 have E0:=Lib.hid q0
 have E1:=Lib.hid q1
 have E2:=Lib.hid q2
 have E3:=Lib.hid q3
 have E4:=Lib.hid q4
 have E5:=Lib.hid q5
 have E6:=Lib.hid q6
 have W0:=Lib.hid hw1
 have R0:=Lib.hid (hr1)
 have T0:=Lib.hid (show Wt lg l [] lg l from .inl ⟨rfl,(List.append_nil l).symm⟩)
 have y0_0:V1.cell? ⟨w.heap.size,0,none⟩=some (.int .i64 11):=(X0.out.at_ 0).trans (by rw [←E0.out];rfl)
 clear h HL hb hw1 hr1 hx q0 q1 q2 q3 q4 q5 q6
 go_enter Tryz.func42,Tryz.ntmps42
 have y0_2:V1.cell? ⟨w.heap.size,2,none⟩=some (.string (Ep.txt n)):=(X0.out.at_ 2).trans (by rw [←E2.out];rfl)
 have H0:=Lib.hid (show Calls Tryz.prog 73 #[.pointer (some ⟨b,0,none⟩), .slice (some ⟨V1.heap.size,0,none⟩) 2 2] (V1.alloc (.cells #[.string ⟨#[68,82,79,80,32,82,79,76,69,32]⟩, .string (Ep.txt n)] tS)) (WDid b l lg (List.flatten [[68,82,79,80,32,82,79,76,69,32],n]) V1) from saying [[68,82,79,80,32,82,79,76,69,32],n] W0.out (by simp) HLEN.out)
 go_wp2_with (go_at_call 73;(with_reducible refine H0.out.mono ?_))
 rintro e1 w1 ⟨rfl,l1,lg1,g1,g2,g3⟩
 have W1:=Lib.hid g1
 have R1:=Lib.hid (R0.out.trans g2)
 have T1:=Lib.hid (show Wt lg l ([]++(List.flatten [[68,82,79,80,32,82,79,76,69,32],n])) lg1 l1 from T0.out.trans g3)
 have X1:=Lib.hid (g2.cel (by omega) (by decide) X0.out:Cel w1 w.heap.size tSt f.cells.toArray)
 clear g1 g2 g3
 go_wp2
 go_end0
 exact ⟨rfl,_,_,W1.out,R1.out,by have:=T1.out;rwa [show []++(List.flatten [[68,82,79,80,32,82,79,76,69,32],n])=tx (stP (.mk 11 t n r cols cons names rows wh sets order limit priv opt kids)) from by rw [tx_wofRole_11];rfl] at this⟩
theorem tx_wofRole_12 {t n r:Bs} {cols:List Co} {cons:List Cn} {names:List Bs} {rows:List (List Ex)} {wh:Ex} {sets:List (Bs × Ex)} {order:List (Ex × Bool)} {limit priv:Int} {opt:Bool} {kids:List St}:tx (stP (.mk 12 t n r cols cons names rows wh sets order limit priv opt kids))=List.flatten [[71,82,65,78,84,32,82,79,76,69,32],n, [32,84,79,32],r]:=by
 rw [stP.eq_def]
 rfl
set_option maxRecDepth 100000 in
set_option maxHeartbeats 4000000 in
theorem wofRole_12 {t n r:Bs} {cols:List Co} {cons:List Cn} {names:List Bs} {rows:List (List Ex)} {wh:Ex} {sets:List (Bs × Ex)} {order:List (Ex × Bool)} {limit priv:Int} {opt:Bool} {kids:List St} (hx:WX w b f 12 t n r cols cons names rows wh sets order limit priv opt kids)  (h:Ww b l lg w) (HL:l.length+(tx (stP (.mk 12 t n r cols cons names rows wh sets order limit priv opt kids))).length≤1000000000):
   Calls Tryz.prog 42 #[.pointer (some ⟨b,0,none⟩), .agg f.cells.toArray] w (WDid b l lg (tx (stP (.mk 12 t n r cols cons names rows wh sets order limit priv opt kids))) w):=by
 obtain ⟨V1,hV1⟩:∃W1,w.alloc (.cells f.cells.toArray tSt)=W1:=⟨_,rfl⟩
 have hb:Below w.heap.size w V1:=by rw [←hV1];exact al (Below.refl _ _) _
 have X0:=Lib.hid (show Cel V1 w.heap.size tSt f.cells.toArray by rw [←hV1];exact Cel.new _ _ _ rfl)
 have hlb:=h.lt
 have hw1:=h.below hb
 have hr1:Wr b w V1:=Wr.of hb (Nat.le_of_lt hlb)
 have HLEN:=Lib.hid (show l.length+(List.flatten [[71,82,65,78,84,32,82,79,76,69,32],n, [32,84,79,32],r]).length≤1000000000 by rw [←tx_wofRole_12];exact HL)
 have HX:=Lib.hid hx
 obtain ⟨⟨q0,q1,q2,q3,q4,q5,q6⟩, -⟩:=hx.all.all
 have E0:=Lib.hid q0
 have E1:=Lib.hid q1
 have E2:=Lib.hid q2
 have E3:=Lib.hid q3
 have E4:=Lib.hid q4
 have E5:=Lib.hid q5
 have E6:=Lib.hid q6
 have W0:=Lib.hid hw1
 have R0:=Lib.hid (hr1)
 have T0:=Lib.hid (show Wt lg l [] lg l from .inl ⟨rfl,(List.append_nil l).symm⟩)
 have y0_0:V1.cell? ⟨w.heap.size,0,none⟩=some (.int .i64 12):=(X0.out.at_ 0).trans (by rw [←E0.out];rfl)
 clear h HL hb hw1 hr1 hx q0 q1 q2 q3 q4 q5 q6
 go_enter Tryz.func42,Tryz.ntmps42
 have y0_2:V1.cell? ⟨w.heap.size,2,none⟩=some (.string (Ep.txt n)):=(X0.out.at_ 2).trans (by rw [←E2.out];rfl)
 have y0_3:V1.cell? ⟨w.heap.size,3,none⟩=some (.string (Ep.txt r)):=(X0.out.at_ 3).trans (by rw [←E3.out];rfl)
 have H0:=Lib.hid (show Calls Tryz.prog 73 #[.pointer (some ⟨b,0,none⟩), .slice (some ⟨V1.heap.size,0,none⟩) 4 4] (V1.alloc (.cells #[.string ⟨#[71,82,65,78,84,32,82,79,76,69,32]⟩, .string (Ep.txt n), .string ⟨#[32,84,79,32]⟩, .string (Ep.txt r)] tS)) (WDid b l lg (List.flatten [[71,82,65,78,84,32,82,79,76,69,32],n, [32,84,79,32],r]) V1) from saying [[71,82,65,78,84,32,82,79,76,69,32],n, [32,84,79,32],r] W0.out (by simp) HLEN.out)
 go_wp2_with (go_at_call 73;(with_reducible refine H0.out.mono ?_))
 rintro e1 w1 ⟨rfl,l1,lg1,g1,g2,g3⟩
 have W1:=Lib.hid g1
 have R1:=Lib.hid (R0.out.trans g2)
 have T1:=Lib.hid (show Wt lg l ([]++(List.flatten [[71,82,65,78,84,32,82,79,76,69,32],n, [32,84,79,32],r])) lg1 l1 from T0.out.trans g3)
 have X1:=Lib.hid (g2.cel (by omega) (by decide) X0.out:Cel w1 w.heap.size tSt f.cells.toArray)
 clear g1 g2 g3
 go_wp2
 go_end0
 exact ⟨rfl,_,_,W1.out,R1.out,by have:=T1.out;rwa [show []++(List.flatten [[71,82,65,78,84,32,82,79,76,69,32],n, [32,84,79,32],r])=tx (stP (.mk 12 t n r cols cons names rows wh sets order limit priv opt kids)) from by rw [tx_wofRole_12];rfl] at this⟩
theorem tx_wofRole_13 {t n r:Bs} {cols:List Co} {cons:List Cn} {names:List Bs} {rows:List (List Ex)} {wh:Ex} {sets:List (Bs × Ex)} {order:List (Ex × Bool)} {limit priv:Int} {opt:Bool} {kids:List St}:tx (stP (.mk 13 t n r cols cons names rows wh sets order limit priv opt kids))=List.flatten [[82,69,86,79,75,69,32,82,79,76,69,32],n, [32,70,82,79,77,32],r]:=by
 rw [stP.eq_def]
 rfl
set_option maxRecDepth 100000 in
set_option maxHeartbeats 4000000 in
theorem wofRole_13 {t n r:Bs} {cols:List Co} {cons:List Cn} {names:List Bs} {rows:List (List Ex)} {wh:Ex} {sets:List (Bs × Ex)} {order:List (Ex × Bool)} {limit priv:Int} {opt:Bool} {kids:List St} (hx:WX w b f 13 t n r cols cons names rows wh sets order limit priv opt kids)  (h:Ww b l lg w) (HL:l.length+(tx (stP (.mk 13 t n r cols cons names rows wh sets order limit priv opt kids))).length≤1000000000):
   Calls Tryz.prog 42 #[.pointer (some ⟨b,0,none⟩), .agg f.cells.toArray] w (WDid b l lg (tx (stP (.mk 13 t n r cols cons names rows wh sets order limit priv opt kids))) w):=by
 obtain ⟨V1,hV1⟩:∃W1,w.alloc (.cells f.cells.toArray tSt)=W1:=⟨_,rfl⟩
 have hb:Below w.heap.size w V1:=by rw [←hV1];exact al (Below.refl _ _) _
 have X0:=Lib.hid (show Cel V1 w.heap.size tSt f.cells.toArray by rw [←hV1];exact Cel.new _ _ _ rfl)
 have hlb:=h.lt
 have hw1:=h.below hb
 have hr1:Wr b w V1:=Wr.of hb (Nat.le_of_lt hlb)
 have HLEN:=Lib.hid (show l.length+(List.flatten [[82,69,86,79,75,69,32,82,79,76,69,32],n, [32,70,82,79,77,32],r]).length≤1000000000 by rw [←tx_wofRole_13];exact HL)
 have HX:=Lib.hid hx
 obtain ⟨⟨q0,q1,q2,q3,q4,q5,q6⟩, -⟩:=hx.all.all
 have E0:=Lib.hid q0
 have E1:=Lib.hid q1
 have E2:=Lib.hid q2
 have E3:=Lib.hid q3
 have E4:=Lib.hid q4
 have E5:=Lib.hid q5
 have E6:=Lib.hid q6
 have W0:=Lib.hid hw1
 have R0:=Lib.hid (hr1)
 have T0:=Lib.hid (show Wt lg l [] lg l from .inl ⟨rfl,(List.append_nil l).symm⟩)
 have y0_0:V1.cell? ⟨w.heap.size,0,none⟩=some (.int .i64 13):=(X0.out.at_ 0).trans (by rw [←E0.out];rfl)
 clear h HL hb hw1 hr1 hx q0 q1 q2 q3 q4 q5 q6
 go_enter Tryz.func42,Tryz.ntmps42
 have y0_2:V1.cell? ⟨w.heap.size,2,none⟩=some (.string (Ep.txt n)):=(X0.out.at_ 2).trans (by rw [←E2.out];rfl)
 have y0_3:V1.cell? ⟨w.heap.size,3,none⟩=some (.string (Ep.txt r)):=(X0.out.at_ 3).trans (by rw [←E3.out];rfl)
 have H0:=Lib.hid (show Calls Tryz.prog 73 #[.pointer (some ⟨b,0,none⟩), .slice (some ⟨V1.heap.size,0,none⟩) 4 4] (V1.alloc (.cells #[.string ⟨#[82,69,86,79,75,69,32,82,79,76,69,32]⟩, .string (Ep.txt n), .string ⟨#[32,70,82,79,77,32]⟩, .string (Ep.txt r)] tS)) (WDid b l lg (List.flatten [[82,69,86,79,75,69,32,82,79,76,69,32],n, [32,70,82,79,77,32],r]) V1) from saying [[82,69,86,79,75,69,32,82,79,76,69,32],n, [32,70,82,79,77,32],r] W0.out (by simp) HLEN.out)
 go_wp2_with (go_at_call 73;(with_reducible refine H0.out.mono ?_))
 rintro e1 w1 ⟨rfl,l1,lg1,g1,g2,g3⟩
 have W1:=Lib.hid g1
 have R1:=Lib.hid (R0.out.trans g2)
 have T1:=Lib.hid (show Wt lg l ([]++(List.flatten [[82,69,86,79,75,69,32,82,79,76,69,32],n, [32,70,82,79,77,32],r])) lg1 l1 from T0.out.trans g3)
 have X1:=Lib.hid (g2.cel (by omega) (by decide) X0.out:Cel w1 w.heap.size tSt f.cells.toArray)
 clear g1 g2 g3
 go_wp2
 go_end0
 exact ⟨rfl,_,_,W1.out,R1.out,by have:=T1.out;rwa [show []++(List.flatten [[82,69,86,79,75,69,32,82,79,76,69,32],n, [32,70,82,79,77,32],r])=tx (stP (.mk 13 t n r cols cons names rows wh sets order limit priv opt kids)) from by rw [tx_wofRole_13];rfl] at this⟩
theorem tx_wofPlan_22 {t n r:Bs} {cols:List Co} {cons:List Cn} {names:List Bs} {rows:List (List Ex)} {wh:Ex} {sets:List (Bs × Ex)} {order:List (Ex × Bool)} {limit priv:Int} {opt:Bool} {kids:List St}:tx (stP (.mk 22 t n r cols cons names rows wh sets order limit priv opt kids))=List.flatten [[68,69,65,76,76,79,67,65,84,69,32],n]:=by
 rw [stP.eq_def]
 rfl
set_option maxRecDepth 100000 in
set_option maxHeartbeats 4000000 in
theorem wofPlan_22 {t n r:Bs} {cols:List Co} {cons:List Cn} {names:List Bs} {rows:List (List Ex)} {wh:Ex} {sets:List (Bs × Ex)} {order:List (Ex × Bool)} {limit priv:Int} {opt:Bool} {kids:List St} (hx:WX w b f 22 t n r cols cons names rows wh sets order limit priv opt kids)  (h:Ww b l lg w) (HL:l.length+(tx (stP (.mk 22 t n r cols cons names rows wh sets order limit priv opt kids))).length≤1000000000):
   Calls Tryz.prog 44 #[.pointer (some ⟨b,0,none⟩), .agg f.cells.toArray] w (WDid b l lg (tx (stP (.mk 22 t n r cols cons names rows wh sets order limit priv opt kids))) w):=by
 obtain ⟨V1,hV1⟩:∃W1,w.alloc (.cells f.cells.toArray tSt)=W1:=⟨_,rfl⟩
 have hb:Below w.heap.size w V1:=by rw [←hV1];exact al (Below.refl _ _) _
 have X0:=Lib.hid (show Cel V1 w.heap.size tSt f.cells.toArray by rw [←hV1];exact Cel.new _ _ _ rfl)
 have hlb:=h.lt
 have hw1:=h.below hb
 have hr1:Wr b w V1:=Wr.of hb (Nat.le_of_lt hlb)
 have HLEN:=Lib.hid (show l.length+(List.flatten [[68,69,65,76,76,79,67,65,84,69,32],n]).length≤1000000000 by rw [←tx_wofPlan_22];exact HL)
 have HX:=Lib.hid hx
 obtain ⟨⟨q0,q1,q2,q3,q4,q5,q6⟩, -⟩:=hx.all.all
 have E0:=Lib.hid q0
 have E1:=Lib.hid q1
 have E2:=Lib.hid q2
 have E3:=Lib.hid q3
 have E4:=Lib.hid q4
 have E5:=Lib.hid q5
 have E6:=Lib.hid q6
 have W0:=Lib.hid hw1
 have R0:=Lib.hid (hr1)
 have T0:=Lib.hid (show Wt lg l [] lg l from .inl ⟨rfl,(List.append_nil l).symm⟩)
 have y0_0:V1.cell? ⟨w.heap.size,0,none⟩=some (.int .i64 22):=(X0.out.at_ 0).trans (by rw [←E0.out];rfl)
 clear h HL hb hw1 hr1 hx q0 q1 q2 q3 q4 q5 q6
 go_enter Tryz.func44,Tryz.ntmps44
 have y0_2:V1.cell? ⟨w.heap.size,2,none⟩=some (.string (Ep.txt n)):=(X0.out.at_ 2).trans (by rw [←E2.out];rfl)
 have H0:=Lib.hid (show Calls Tryz.prog 73 #[.pointer (some ⟨b,0,none⟩), .slice (some ⟨V1.heap.size,0,none⟩) 2 2] (V1.alloc (.cells #[.string ⟨#[68,69,65,76,76,79,67,65,84,69,32]⟩, .string (Ep.txt n)] tS)) (WDid b l lg (List.flatten [[68,69,65,76,76,79,67,65,84,69,32],n]) V1) from saying [[68,69,65,76,76,79,67,65,84,69,32],n] W0.out (by simp) HLEN.out)
 go_wp2_with (go_at_call 73;(with_reducible refine H0.out.mono ?_))
 rintro e1 w1 ⟨rfl,l1,lg1,g1,g2,g3⟩
 have W1:=Lib.hid g1
 have R1:=Lib.hid (R0.out.trans g2)
 have T1:=Lib.hid (show Wt lg l ([]++(List.flatten [[68,69,65,76,76,79,67,65,84,69,32],n])) lg1 l1 from T0.out.trans g3)
 have X1:=Lib.hid (g2.cel (by omega) (by decide) X0.out:Cel w1 w.heap.size tSt f.cells.toArray)
 clear g1 g2 g3
 go_wp2
 go_end0
 exact ⟨rfl,_,_,W1.out,R1.out,by have:=T1.out;rwa [show []++(List.flatten [[68,69,65,76,76,79,67,65,84,69,32],n])=tx (stP (.mk 22 t n r cols cons names rows wh sets order limit priv opt kids)) from by rw [tx_wofPlan_22];rfl] at this⟩
end
end Go.Proofs.YtiaomhdmllhmmaaGreatDoor.Sm
