/- A statement is written: a privilege. A statement is written: a privilege taken back. -/
import Derived.Test.YtiaomhdmllhmmaaGreatDoorK32
namespace Go.Proofs.YtiaomhdmllhmmaaGreatDoor.Sm
open Go.RowKit Mem Ep Right Lx Go.ChangeShapes Go.WideShapes
set_option linter.unusedVariables false
section
variable {w w' :World} {b:Nat} {l:List UInt8} {lg:Bool} {f:Fl}
theorem tx_wofRole_14_false {t n r:Bs} {cols:List Co} {cons:List Cn} {names:List Bs} {rows:List (List Ex)} {wh:Ex} {sets:List (Bs × Ex)} {order:List (Ex × Bool)} {limit priv:Int} {kids:List St}:tx (stP (.mk 14 t n r cols cons names rows wh sets order limit priv false kids))=List.flatten [[71,82,65,78,84,32],prW priv, [32,79,78,32],t, [32,84,79,32],r]:=by
 rw [stP.eq_def]
 show [71,82,65,78,84,32]++(prW priv++([32,79,78,32]++(t++([32,84,79,32]++(r++ [])))))=_;simp
set_option maxRecDepth 100000 in
set_option maxHeartbeats 4000000 in
theorem wofRole_14_false {t n r:Bs} {cols:List Co} {cons:List Cn} {names:List Bs} {rows:List (List Ex)} {wh:Ex} {sets:List (Bs × Ex)} {order:List (Ex × Bool)} {limit priv:Int} {kids:List St} (hx:WX w b f 14 t n r cols cons names rows wh sets order limit priv false kids)  (h:Ww b l lg w) (HL:l.length+(tx (stP (.mk 14 t n r cols cons names rows wh sets order limit priv false kids))).length≤1000000000):
   Calls Tryz.prog 42 #[.pointer (some ⟨b,0,none⟩), .agg f.cells.toArray] w (WDid b l lg (tx (stP (.mk 14 t n r cols cons names rows wh sets order limit priv false kids))) w):=by
 obtain ⟨V1,hV1⟩:∃W1,w.alloc (.cells f.cells.toArray tSt)=W1:=⟨_,rfl⟩
 have hb:Below w.heap.size w V1:=by rw [←hV1];exact al (Below.refl _ _) _
 have X0:=Lib.hid (show Cel V1 w.heap.size tSt f.cells.toArray by rw [←hV1];exact Cel.new _ _ _ rfl)
 have hlb:=h.lt
 have hw1:=h.below hb
 have hr1:Wr b w V1:=Wr.of hb (Nat.le_of_lt hlb)
 have HLEN:=Lib.hid (show l.length+(List.flatten [[71,82,65,78,84,32],prW priv, [32,79,78,32],t, [32,84,79,32],r]).length≤1000000000 by rw [←tx_wofRole_14_false];exact HL)
 have HX:=Lib.hid hx
 obtain ⟨⟨q0,q1,q2,q3,q4,q5,q6⟩, -⟩:=hx.all.all
 have E0:=Lib.hid q0
 have E1:=Lib.hid q1
 have E2:=Lib.hid q2
 have E3:=Lib.hid q3
 have E4:=Lib.hid q4
 have E5:=Lib.hid q5
 have E6:=Lib.hid q6
 have W0:=Lib.hid hw1
 have R0:=Lib.hid (hr1)
 have T0:=Lib.hid (show Wt lg l [] lg l from .inl ⟨rfl,(List.append_nil l).symm⟩)
 have y0_0:V1.cell? ⟨w.heap.size,0,none⟩=some (.int .i64 14):=(X0.out.at_ 0).trans (by rw [←E0.out];rfl)
 clear h HL hb hw1 hr1 hx q0 q1 q2 q3 q4 q5 q6
 have y0_18:V1.cell? ⟨w.heap.size,18,none⟩=some (.int .i64 priv):=(X0.out.at_ 18).trans (by rw [←E5.out];rfl)
 have y0_1:V1.cell? ⟨w.heap.size,1,none⟩=some (.string (Ep.txt t)):=(X0.out.at_ 1).trans (by rw [←E1.out];rfl)
 have y0_3:V1.cell? ⟨w.heap.size,3,none⟩=some (.string (Ep.txt r)):=(X0.out.at_ 3).trans (by rw [←E3.out];rfl)
 have y0_19:V1.cell? ⟨w.heap.size,19,none⟩=some (.bool false):=(X0.out.at_ 19).trans (by rw [←E6.out];rfl)
 have HT:=Lib.hid (show ∀W,Calls Tryz.prog 15 #[.int .i64 priv] W fun e w' =>e= .returned (.string (Ep.txt (prW priv)))∧W=w' from fun W=>by rw [←privV_txt];exact priv_any priv W)
 have HS:=Lib.hid (show Calls Tryz.prog 73 #[.pointer (some ⟨b,0,none⟩), .slice (some ⟨V1.heap.size,0,none⟩) 6 6] (V1.drew.alloc (.cells #[.string ⟨#[71,82,65,78,84,32]⟩, .string (Ep.txt (prW priv)), .string ⟨#[32,79,78,32]⟩, .string (Ep.txt (t)), .string ⟨#[32,84,79,32]⟩, .string (Ep.txt (r))] tS)) (fun e w' =>e= .returned (.tuple #[])∧∃l' lg',Ww b l' lg' w' ∧Wr b w w' ∧Wt lg l ([]++(List.flatten [[71,82,65,78,84,32],prW priv, [32,79,78,32],t, [32,84,79,32],r])) lg' l' ∧Cel w' w.heap.size tSt f.cells.toArray) from (saying [[71,82,65,78,84,32],prW priv, [32,79,78,32],t, [32,84,79,32],r] (W0.out.drew:Ww b l lg V1.drew) (by simp) (by have h2:=HLEN.out;first|(simp only [List.length_append] at h2;omega)|omega)).mono fun e w' d=>(by
     obtain ⟨d1,l',lg',d2,d3,d4⟩:=d
     exact ⟨d1,l',lg',d2,(R0.out.drewN 1).trans d3,d4,d3.cel (by omega) (by decide) (show Cel V1.drew w.heap.size tSt f.cells.toArray from X0.out)⟩))
 go_enter Tryz.func42,Tryz.ntmps42
 go_wp2
 go_region_with ((first|(go_at_call 15;(with_reducible refine (HT.out _).mono ?_);rintro e1 w1 ⟨rfl,rfl⟩)|(go_at_call 73;refine HS.out.mono ?_;rintro e1 w1 ⟨rfl,l1,lg1,g1,g2,g3,g4⟩;have W1:=Lib.hid g1;have R1:=Lib.hid g2;have T1:=Lib.hid g3;have X1:=Lib.hid g4;have u19:w1.cell? ⟨w.heap.size,19,none⟩=some (.bool false):=(X1.out.at_ 19).trans (by rw [←E6.out];rfl);clear g1 g2 g3 g4)))
 all_goals
   go_wp2
   go_end0
   exact ⟨rfl,_,_,W1.out,R1.out,by have:=T1.out;rwa [show []++(List.flatten [[71,82,65,78,84,32],prW priv, [32,79,78,32],t, [32,84,79,32],r])=tx (stP (.mk 14 t n r cols cons names rows wh sets order limit priv false kids)) from by rw [tx_wofRole_14_false];rfl] at this⟩
end
end Go.Proofs.YtiaomhdmllhmmaaGreatDoor.Sm
namespace Go.Proofs.YtiaomhdmllhmmaaGreatDoor.Sm
open Go.RowKit Mem Ep Right Lx Go.ChangeShapes Go.WideShapes
set_option linter.unusedVariables false
section
variable {w w' :World} {b:Nat} {l:List UInt8} {lg:Bool} {f:Fl}
theorem tx_wofRole_15 {t n r:Bs} {cols:List Co} {cons:List Cn} {names:List Bs} {rows:List (List Ex)} {wh:Ex} {sets:List (Bs × Ex)} {order:List (Ex × Bool)} {limit priv:Int} {opt:Bool} {kids:List St}:tx (stP (.mk 15 t n r cols cons names rows wh sets order limit priv opt kids))=List.flatten [[82,69,86,79,75,69,32],prW priv, [32,79,78,32],t, [32,70,82,79,77,32],r]:=by
 rw [stP.eq_def]
 rfl
set_option maxRecDepth 100000 in
set_option maxHeartbeats 4000000 in
theorem wofRole_15 {t n r:Bs} {cols:List Co} {cons:List Cn} {names:List Bs} {rows:List (List Ex)} {wh:Ex} {sets:List (Bs × Ex)} {order:List (Ex × Bool)} {limit priv:Int} {opt:Bool} {kids:List St} (hx:WX w b f 15 t n r cols cons names rows wh sets order limit priv opt kids)  (h:Ww b l lg w) (HL:l.length+(tx (stP (.mk 15 t n r cols cons names rows wh sets order limit priv opt kids))).length≤1000000000):
   Calls Tryz.prog 42 #[.pointer (some ⟨b,0,none⟩), .agg f.cells.toArray] w (WDid b l lg (tx (stP (.mk 15 t n r cols cons names rows wh sets order limit priv opt kids))) w):=by
 obtain ⟨V1,hV1⟩:∃W1,w.alloc (.cells f.cells.toArray tSt)=W1:=⟨_,rfl⟩
 have hb:Below w.heap.size w V1:=by rw [←hV1];exact al (Below.refl _ _) _
 have X0:=Lib.hid (show Cel V1 w.heap.size tSt f.cells.toArray by rw [←hV1];exact Cel.new _ _ _ rfl)
 have hlb:=h.lt
 have hw1:=h.below hb
 have hr1:Wr b w V1:=Wr.of hb (Nat.le_of_lt hlb)
 have HLEN:=Lib.hid (show l.length+(List.flatten [[82,69,86,79,75,69,32],prW priv, [32,79,78,32],t, [32,70,82,79,77,32],r]).length≤1000000000 by rw [←tx_wofRole_15];exact HL)
 have HX:=Lib.hid hx
 obtain ⟨⟨q0,q1,q2,q3,q4,q5,q6⟩, -⟩:=hx.all.all
 have E0:=Lib.hid q0
 have E1:=Lib.hid q1
 have E2:=Lib.hid q2
 have E3:=Lib.hid q3
 have E4:=Lib.hid q4
 have E5:=Lib.hid q5
 have E6:=Lib.hid q6
 have W0:=Lib.hid hw1
 have R0:=Lib.hid (hr1)
 have T0:=Lib.hid (show Wt lg l [] lg l from .inl ⟨rfl,(List.append_nil l).symm⟩)
 have y0_0:V1.cell? ⟨w.heap.size,0,none⟩=some (.int .i64 15):=(X0.out.at_ 0).trans (by rw [←E0.out];rfl)
 clear h HL hb hw1 hr1 hx q0 q1 q2 q3 q4 q5 q6
 have y0_18:V1.cell? ⟨w.heap.size,18,none⟩=some (.int .i64 priv):=(X0.out.at_ 18).trans (by rw [←E5.out];rfl)
 have y0_1:V1.cell? ⟨w.heap.size,1,none⟩=some (.string (Ep.txt t)):=(X0.out.at_ 1).trans (by rw [←E1.out];rfl)
 have y0_3:V1.cell? ⟨w.heap.size,3,none⟩=some (.string (Ep.txt r)):=(X0.out.at_ 3).trans (by rw [←E3.out];rfl)
 have HT:=Lib.hid (show ∀W,Calls Tryz.prog 15 #[.int .i64 priv] W fun e w' =>e= .returned (.string (Ep.txt (prW priv)))∧W=w' from fun W=>by rw [←privV_txt];exact priv_any priv W)
 have HS:=Lib.hid (show Calls Tryz.prog 73 #[.pointer (some ⟨b,0,none⟩), .slice (some ⟨V1.heap.size,0,none⟩) 6 6] (V1.drew.alloc (.cells #[.string ⟨#[82,69,86,79,75,69,32]⟩, .string (Ep.txt (prW priv)), .string ⟨#[32,79,78,32]⟩, .string (Ep.txt (t)), .string ⟨#[32,70,82,79,77,32]⟩, .string (Ep.txt (r))] tS)) (fun e w' =>e= .returned (.tuple #[])∧∃l' lg',Ww b l' lg' w' ∧Wr b w w' ∧Wt lg l ([]++(List.flatten [[82,69,86,79,75,69,32],prW priv, [32,79,78,32],t, [32,70,82,79,77,32],r])) lg' l' ∧Cel w' w.heap.size tSt f.cells.toArray) from (saying [[82,69,86,79,75,69,32],prW priv, [32,79,78,32],t, [32,70,82,79,77,32],r] (W0.out.drew:Ww b l lg V1.drew) (by simp) (by have h2:=HLEN.out;first|(simp only [List.length_append] at h2;omega)|omega)).mono fun e w' d=>(by
     obtain ⟨d1,l',lg',d2,d3,d4⟩:=d
     exact ⟨d1,l',lg',d2,(R0.out.drewN 1).trans d3,d4,d3.cel (by omega) (by decide) (show Cel V1.drew w.heap.size tSt f.cells.toArray from X0.out)⟩))
 go_enter Tryz.func42,Tryz.ntmps42
 go_wp2
 go_region_with ((first|(go_at_call 15;(with_reducible refine (HT.out _).mono ?_);rintro e1 w1 ⟨rfl,rfl⟩)|(go_at_call 73;refine HS.out.mono ?_;rintro e1 w1 ⟨rfl,l1,lg1,g1,g2,g3,g4⟩;have W1:=Lib.hid g1;have R1:=Lib.hid g2;have T1:=Lib.hid g3;have X1:=Lib.hid g4;clear g1 g2 g3 g4)))
 all_goals
   go_wp2
   go_end0
   exact ⟨rfl,_,_,W1.out,R1.out,by have:=T1.out;rwa [show []++(List.flatten [[82,69,86,79,75,69,32],prW priv, [32,79,78,32],t, [32,70,82,79,77,32],r])=tx (stP (.mk 15 t n r cols cons names rows wh sets order limit priv opt kids)) from by rw [tx_wofRole_15];rfl] at this⟩
end
end Go.Proofs.YtiaomhdmllhmmaaGreatDoor.Sm
