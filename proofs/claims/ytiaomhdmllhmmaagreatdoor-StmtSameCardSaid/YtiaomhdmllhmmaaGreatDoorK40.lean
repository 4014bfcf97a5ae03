/- A statement is written: SELECT. A statement that may be is written. -/
import Derived.Test.YtiaomhdmllhmmaaGreatDoorK37
import Derived.Test.YtiaomhdmllhmmaaGreatDoorK32
import Derived.Test.YtiaomhdmllhmmaaGreatDoorK33
import Derived.Test.YtiaomhdmllhmmaaGreatDoorK34
import Derived.Test.YtiaomhdmllhmmaaGreatDoorK35
import Derived.Test.YtiaomhdmllhmmaaGreatDoorK36
import Derived.Test.YtiaomhdmllhmmaaGreatDoorK38
import Derived.Test.YtiaomhdmllhmmaaGreatDoorK39
namespace Go.Proofs.YtiaomhdmllhmmaaGreatDoor.Sm
open Go.RowKit Mem Ep Right Lx Go.ChangeShapes Go.WideShapes
set_option linter.unusedVariables false
section
variable {w w' :World} {b:Nat} {l:List UInt8} {lg:Bool} {f:Fl}
theorem tx_wsel_110 {t n r:Bs} {cols:List Co} {cons:List Cn} {names:List Bs} {x:List Ex} {wh:Ex} {sets:List (Bs × Ex)} {order:List (Ex × Bool)} {priv:Int} {opt:Bool} {kids:List St} (hod:order≠ []):tx (stP (.mk 19 t n r cols cons names [x] wh sets order (-1) priv opt kids))=List.flatten [[83,69,76,69,67,84,32]]++tx (sep (x.map pcs))++List.flatten [[32,70,82,79,77,32],t]++tx (whP wh)++List.flatten [[32,79,82,68,69,82,32,66,89,32]]++tx (sep (order.map ordP)):=by
 rw [tx_sel,tx_ord hod];show [83,69,76,69,67,84,32]++(tx (sep (x.map pcs))++([32,70,82,79,77,32]++(t++(tx (whP wh)++((List.flatten [[32,79,82,68,69,82,32,66,89,32]]++tx (sep (order.map ordP)))++ [])))))=_;simp
set_option maxRecDepth 100000 in
set_option maxHeartbeats 4000000 in
theorem wsel_110 {t n r:Bs} {cols:List Co} {cons:List Cn} {names:List Bs} {x:List Ex} {wh:Ex} {sets:List (Bs × Ex)} {order:List (Ex × Bool)} {priv:Int} {opt:Bool} {kids:List St} (hx:WX w b f 19 t n r cols cons names [x] wh sets order (-1) priv opt kids) (hr:okEs x 6) (hw:okWh wh) (hod:order≠ []) (ho:∀x∈order,Lo x.1) (h:Ww b l lg w) (HL:l.length+(tx (stP (.mk 19 t n r cols cons names [x] wh sets order (-1) priv opt kids))).length≤1000000000):
    Calls Tryz.prog 81 #[.pointer (some ⟨b,0,none⟩), .agg f.cells.toArray] w (WDid b l lg (tx (stP (.mk 19 t n r cols cons names [x] wh sets order (-1) priv opt kids))) w):=by
  obtain ⟨V1,hV1⟩:∃W1,w.alloc (.cells f.cells.toArray tSt)=W1:=⟨_,rfl⟩
  have hb:Below w.heap.size w V1:=by rw [←hV1];exact al (Below.refl _ _) _
  have X0:=Lib.hid (show Cel V1 w.heap.size tSt f.cells.toArray by rw [←hV1];exact Cel.new _ _ _ rfl)
  have hlb:=h.lt
  have hw1:=h.below hb
  have hr1:Wr b w V1:=Wr.of hb (Nat.le_of_lt hlb)
  have HLEN:=Lib.hid (show l.length+(List.flatten [[83,69,76,69,67,84,32]]++tx (sep (x.map pcs))++List.flatten [[32,70,82,79,77,32],t]++tx (whP wh)++List.flatten [[32,79,82,68,69,82,32,66,89,32]]++tx (sep (order.map ordP))).length≤1000000000 by rw [←tx_wsel_110 hod];exact HL)
  have HX:=Lib.hid hx
  obtain ⟨⟨q0,q1,q2,q3,q4,q5,q6⟩, -⟩:=hx.all.all
  have E0:=Lib.hid q0
  have E1:=Lib.hid q1
  have E2:=Lib.hid q2
  have E3:=Lib.hid q3
  have E4:=Lib.hid q4
  have E5:=Lib.hid q5
  have E6:=Lib.hid q6
  have Yhr:=Lib.hid hr
  have Yhw:=Lib.hid hw
  have Yhod:=Lib.hid hod
  have Yho:=Lib.hid ho
  have W0:=Lib.hid hw1
  have R0:=Lib.hid (hr1)
  have T0:=Lib.hid (show Wt lg l [] lg l from .inl ⟨rfl,(List.append_nil l).symm⟩)
  have y0_0:V1.cell? ⟨w.heap.size,0,none⟩=some (.int .i64 19):=(X0.out.at_ 0).trans (by rw [←E0.out];rfl)
  clear h HL hb hw1 hr1 hx q0 q1 q2 q3 q4 q5 q6 hr hw hod ho
  go_enter Tryz.func81,Tryz.ntmps81
  have H0:=Lib.hid (show Calls Tryz.prog 73 #[.pointer (some ⟨b,0,none⟩), .slice (some ⟨V1.heap.size,0,none⟩) 1 1] (V1.alloc (.cells #[.string ⟨#[83,69,76,69,67,84,32]⟩] tS)) (WDid b l lg (List.flatten [[83,69,76,69,67,84,32]]) V1) from saying [[83,69,76,69,67,84,32]] W0.out (by simp) (by have h1:=T0.out.len;have h2:=HLEN.out;simp only [List.length_append,List.length_nil] at h1 h2 ⊢;omega))
  go_wp2_with (go_at_call 73;(with_reducible refine H0.out.mono ?_))
  rintro e1 w1 ⟨rfl,l1,lg1,g1,g2,g3⟩
  have W1:=Lib.hid g1
  have R1:=Lib.hid (R0.out.trans g2)
  have T1:=Lib.hid (show Wt lg l ([]++(List.flatten [[83,69,76,69,67,84,32]])) lg1 l1 from T0.out.trans g3)
  have X1:=Lib.hid (g2.cel (by omega) (by decide) X0.out:Cel w1 w.heap.size tSt f.cells.toArray)
  clear g1 g2 g3
  have y1_7:w1.cell? ⟨w.heap.size,7,none⟩=some (.slice f.A7 f.n7 f.a7):=X1.out.at_ 7
  have hL7:=HX.out.all.all.2.2.2.2.1
  obtain ⟨b1,z1,A1,n1,c1,hA,hb1,p0,in1⟩:=rw_at (hL7.below R1.out.1).2.2 (show [x][0]?=some x from rfl)
  have hn7:f.n7=1:=hL7.1
  have z7:w1.cell? ⟨w.heap.size,7,none⟩=some (.slice (some ⟨b1,z1,none⟩) 1 f.a7):=y1_7.trans (by rw [hA,hn7])
  have HB1:=Lib.hid hb1
  have HP0:=Lib.hid (show w1.cell? ⟨b1,z1,none⟩=some (.slice A1 n1 c1) by simpa using p0)
  have HIN:=Lib.hid in1
  have HST:=Lib.hid (show (ListI b l lg w (if (0:Nat)=0 then []++(List.flatten [[83,69,76,69,67,84,32]]) else []++(List.flatten [[83,69,76,69,67,84,32]])++(tx (sep (x.map pcs)))) w1∧Wr b w1 w1) from ⟨⟨l1,lg1,W1.out,R1.out,T1.out⟩,Wr.refl _ _⟩)
  clear hL7 hA hn7 hb1 p0 in1 y1_7
  go_wp2
  go_loopw [19] (fun i wr=>∃j:Nat,j≤1∧i= .int .i64 (j:Int)∧Hid (ListI b l lg w (if j=0 then []++(List.flatten [[83,69,76,69,67,84,32]]) else []++(List.flatten [[83,69,76,69,67,84,32]])++(tx (sep (x.map pcs)))) wr∧Wr b w1 wr)) (fun i _=>2 - (intOf i).toNat)
  case atStart=>exact ⟨0,Nat.zero_le _,rfl,HST⟩
  case round=>
    obtain ⟨j,hj,rfl,HE⟩:=hrel
    by_cases hlt:j=0
    · subst hlt
      obtain ⟨⟨k1,kg1,hw,hr,ht⟩,hr0⟩:=HE.out
      rw [if_pos rfl] at ht
      have hwl:=hw.lt
      have c0:wr.cell? ⟨b1,z1,none⟩=some (.slice A1 n1 c1):=(hr0.1.cell (p:=⟨b1,z1,none⟩) HB1.out).trans HP0.out
      have HLL:=Lib.hid (show Calls Tryz.prog 133 #[.pointer (some ⟨b,0,none⟩), .slice A1 n1 c1, .func (.func 130) #[.pointer (some ⟨b,0,none⟩)] #[]] wr (fun e w' =>e= .returned (.tuple #[])∧(ListI b l lg w (if (0+1)=0 then []++(List.flatten [[83,69,76,69,67,84,32]]) else []++(List.flatten [[83,69,76,69,67,84,32]])++(tx (sep (x.map pcs)))) w' ∧Wr b w1 w')) from by
        obtain ⟨u,hu,hrr⟩:=row_is.1 (HIN.out.below hr0.1)
        injection hu with hu
        subst hu
        have h1:=ht.len
        have h2:=HLEN.out
        simp only [List.length_append,List.length_nil] at h1 h2
        refine (list_ex hw (isRow_ls hrr) (by omega) fun y hy W l2 lg2 cs g1 g2 g3 g4=>(HX.out.exs _ (.inr (.inl ⟨x,by simp,hy⟩)) (Yhr.out.2.2 y hy)) W l2 lg2 cs g1 (hr.trans g2) g3 g4).mono fun e w' d=>?_
        obtain ⟨d1,l',lg',d2,d3,d4⟩:=d
        exact ⟨d1,⟨l',lg',d2,hr.trans d3,by rw [if_neg (by decide)];exact ht.trans d4⟩,hr0.trans d3⟩)
      clear hw hr ht hr0 hwl HE HST
      go_wp2_with (go_at_call 133;(with_reducible refine HLL.out.mono ?_);rintro e1 w3 ⟨rfl,hli⟩;have HR:=Lib.hid hli;clear hli)
      go_roundw
      case rel=>exact ⟨0+1,by omega,by first|rfl|go_num,HR⟩
      case measure=>(simp [intOf];try omega)
    · obtain rfl:j=1:=by omega
      obtain ⟨⟨l2,lg2,g1,g2,g3⟩,g4⟩:=HE.out
      rw [if_neg (by decide)] at g3
      have W2:=Lib.hid g1
      have R2:=Lib.hid g2
      have T2:=Lib.hid g3
      have X2:=Lib.hid (g4.cel (by omega) (by decide) X1.out:Cel wr w.heap.size tSt f.cells.toArray)
      clear g1 g2 g3 g4 HE HST
      have y2_1:wr.cell? ⟨w.heap.size,1,none⟩=some (.string (Ep.txt t)):=(X2.out.at_ 1).trans (by rw [←E1.out];rfl)
      have H2:=Lib.hid (show Calls Tryz.prog 73 #[.pointer (some ⟨b,0,none⟩), .slice (some ⟨wr.heap.size,0,none⟩) 2 2] (wr.alloc (.cells #[.string ⟨#[32,70,82,79,77,32]⟩, .string (Ep.txt t)] tS)) (WDid b l2 lg2 (List.flatten [[32,70,82,79,77,32],t]) wr) from saying [[32,70,82,79,77,32],t] W2.out (by simp) (by have h1:=T2.out.len;have h2:=HLEN.out;simp only [List.length_append,List.length_nil] at h1 h2 ⊢;omega))
      go_wp2_with (go_at_call 73;(with_reducible refine H2.out.mono ?_))
      rintro e3 w3 ⟨rfl,l3,lg3,g1,g2,g3⟩
      have W3:=Lib.hid g1
      have R3:=Lib.hid (R2.out.trans g2)
      have T3:=Lib.hid (show Wt lg l ([]++(List.flatten [[83,69,76,69,67,84,32]])++(tx (sep (x.map pcs)))++(List.flatten [[32,70,82,79,77,32],t])) lg3 l3 from T2.out.trans g3)
      have X3:=Lib.hid (g2.cel (by omega) (by decide) X2.out:Cel w3 w.heap.size tSt f.cells.toArray)
      clear g1 g2 g3
      have y3_8:w3.cell? ⟨w.heap.size,8,none⟩=some (.int .i64 f.ek):=X3.out.at_ 8
      have y3_9:w3.cell? ⟨w.heap.size,9,none⟩=some (.int .i64 f.eo):=X3.out.at_ 9
      have y3_10:w3.cell? ⟨w.heap.size,10,none⟩=some (.int .i64 f.vk):=X3.out.at_ 10
      have y3_11:w3.cell? ⟨w.heap.size,11,none⟩=some (.int .i64 f.vn):=X3.out.at_ 11
      have y3_12:w3.cell? ⟨w.heap.size,12,none⟩=some (.string f.vs):=X3.out.at_ 12
      have y3_13:w3.cell? ⟨w.heap.size,13,none⟩=some (.string f.ns):=X3.out.at_ 13
      have y3_14:w3.cell? ⟨w.heap.size,14,none⟩=some (.slice f.A8 f.n8 f.a8):=X3.out.at_ 14
      have H3:=Lib.hid (show Calls Tryz.prog 80 #[.pointer (some ⟨b,0,none⟩), .agg #[.int .i64 f.ek, .int .i64 f.eo, .int .i64 f.vk, .int .i64 f.vn, .string f.vs, .string f.ns, .slice f.A8 f.n8 f.a8]] w3 (WDid b l3 lg3 (tx (whP wh)) w3) from wwhere_any (cs:= [.int .i64 f.ek, .int .i64 f.eo, .int .i64 f.vk, .int .i64 f.vn, .string f.vs, .string f.ns, .slice f.A8 f.n8 f.a8]) (DtIn.below HX.out.all.all.2.2.2.2.2.1 R3.out.1) Yhw.out (fun hl=>(HX.out.exs _ (.inr (.inr (.inl rfl))) hl).to R3.out) W3.out (by have h1:=T3.out.len;have h2:=HLEN.out;simp only [List.length_append,List.length_nil] at h1 h2 ⊢;omega))
      go_wp2_with (go_at_call 80;(with_reducible refine H3.out.mono ?_))
      rintro e4 w4 ⟨rfl,l4,lg4,g1,g2,g3⟩
      have W4:=Lib.hid g1
      have R4:=Lib.hid (R3.out.trans g2)
      have T4:=Lib.hid (show Wt lg l ([]++(List.flatten [[83,69,76,69,67,84,32]])++(tx (sep (x.map pcs)))++(List.flatten [[32,70,82,79,77,32],t])++(tx (whP wh))) lg4 l4 from T3.out.trans g3)
      have X4:=Lib.hid (g2.cel (by omega) (by decide) X3.out:Cel w4 w.heap.size tSt f.cells.toArray)
      clear g1 g2 g3
      have y4_16:w4.cell? ⟨w.heap.size,16,none⟩=some (.slice f.A10 f.n10 f.a10):=X4.out.at_ 16
      have hn10:=HX.out.all.all.2.2.2.2.2.2.2.1.1
      have t10:decide ((0:Int)<(f.n10:Int))=true:=decide_eq_true (by have:=List.length_pos_iff.2 Yhod.out;rw [List.length_map] at hn10;omega)
      have t11:decide (0<f.n10)=true:=decide_eq_true (by have:=List.length_pos_iff.2 Yhod.out;rw [List.length_map] at hn10;omega)
      clear hn10
      have H4:=Lib.hid (show Calls Tryz.prog 73 #[.pointer (some ⟨b,0,none⟩), .slice (some ⟨w4.heap.size,0,none⟩) 1 1] (w4.alloc (.cells #[.string ⟨#[32,79,82,68,69,82,32,66,89,32]⟩] tS)) (WDid b l4 lg4 (List.flatten [[32,79,82,68,69,82,32,66,89,32]]) w4) from saying [[32,79,82,68,69,82,32,66,89,32]] W4.out (by simp) (by have h1:=T4.out.len;have h2:=HLEN.out;simp only [List.length_append,List.length_nil] at h1 h2 ⊢;omega))
      go_wp2_with (go_at_call 73;(with_reducible refine H4.out.mono ?_))
      rintro e5 w5 ⟨rfl,l5,lg5,g1,g2,g3⟩
      have W5:=Lib.hid g1
      have R5:=Lib.hid (R4.out.trans g2)
      have T5:=Lib.hid (show Wt lg l ([]++(List.flatten [[83,69,76,69,67,84,32]])++(tx (sep (x.map pcs)))++(List.flatten [[32,70,82,79,77,32],t])++(tx (whP wh))++(List.flatten [[32,79,82,68,69,82,32,66,89,32]])) lg5 l5 from T4.out.trans g3)
      have X5:=Lib.hid (g2.cel (by omega) (by decide) X4.out:Cel w5 w.heap.size tSt f.cells.toArray)
      clear g1 g2 g3
      have y5_16:w5.cell? ⟨w.heap.size,16,none⟩=some (.slice f.A10 f.n10 f.a10):=X5.out.at_ 16
      have H5:=Lib.hid (show Calls Tryz.prog 134 #[.pointer (some ⟨b,0,none⟩), .slice f.A10 f.n10 f.a10, .func (.func 135) #[.pointer (some ⟨b,0,none⟩)] #[]] w5 (WDid b l5 lg5 (tx (sep (order.map ordP))) w5) from list_or W5.out (HX.out.all.all.2.2.2.2.2.2.2.1.below R5.out.1) (by have h1:=T5.out.len;have h2:=HLEN.out;simp only [List.length_append,List.length_nil] at h1 h2 ⊢;omega) fun x hx W l2 lg2 cs g1 g2 g3 g4=>word_any g3 ((HX.out.exs _ (.inr (.inr (.inr (.inr ⟨x,hx,rfl⟩)))) (Yho.out x hx)).to (R5.out.trans g2)) g1 g4)
      go_wp2_with (go_at_call 134;(with_reducible refine H5.out.mono ?_))
      rintro e6 w6 ⟨rfl,l6,lg6,g1,g2,g3⟩
      have W6:=Lib.hid g1
      have R6:=Lib.hid (R5.out.trans g2)
      have T6:=Lib.hid (show Wt lg l ([]++(List.flatten [[83,69,76,69,67,84,32]])++(tx (sep (x.map pcs)))++(List.flatten [[32,70,82,79,77,32],t])++(tx (whP wh))++(List.flatten [[32,79,82,68,69,82,32,66,89,32]])++(tx (sep (order.map ordP)))) lg6 l6 from T5.out.trans g3)
      have X6:=Lib.hid (g2.cel (by omega) (by decide) X5.out:Cel w6 w.heap.size tSt f.cells.toArray)
      clear g1 g2 g3
      have y6_17:w6.cell? ⟨w.heap.size,17,none⟩=some (.int .i64 (-1)):=(X6.out.at_ 17).trans (by rw [←E4.out];rfl)
      go_wp2
      go_end0
      exact ⟨rfl,_,_,W6.out,R6.out,by have:=T6.out;rwa [show []++(List.flatten [[83,69,76,69,67,84,32]])++(tx (sep (x.map pcs)))++(List.flatten [[32,70,82,79,77,32],t])++(tx (whP wh))++(List.flatten [[32,79,82,68,69,82,32,66,89,32]])++(tx (sep (order.map ordP)))=tx (stP (.mk 19 t n r cols cons names [x] wh sets order (-1) priv opt kids)) from by rw [tx_wsel_110 Yhod.out];rfl] at this⟩
theorem tx_wsel_111 {t n r:Bs} {cols:List Co} {cons:List Cn} {names:List Bs} {x:List Ex} {wh:Ex} {sets:List (Bs × Ex)} {order:List (Ex × Bool)} {limit priv:Int} {opt:Bool} {kids:List St} (hod:order≠ []) (hlm:0≤limit):tx (stP (.mk 19 t n r cols cons names [x] wh sets order limit priv opt kids))=List.flatten [[83,69,76,69,67,84,32]]++tx (sep (x.map pcs))++List.flatten [[32,70,82,79,77,32],t]++tx (whP wh)++List.flatten [[32,79,82,68,69,82,32,66,89,32]]++tx (sep (order.map ordP))++List.flatten [[32,76,73,77,73,84,32],Num.dgz limit]:=by
 rw [tx_sel,tx_ord hod,tx_lim hlm];show [83,69,76,69,67,84,32]++(tx (sep (x.map pcs))++([32,70,82,79,77,32]++(t++(tx (whP wh)++((List.flatten [[32,79,82,68,69,82,32,66,89,32]]++tx (sep (order.map ordP)))++List.flatten [[32,76,73,77,73,84,32],Num.dgz limit])))))=_;simp
set_option maxRecDepth 100000 in
set_option maxHeartbeats 4000000 in
theorem wsel_111 {t n r:Bs} {cols:List Co} {cons:List Cn} {names:List Bs} {x:List Ex} {wh:Ex} {sets:List (Bs × Ex)} {order:List (Ex × Bool)} {limit priv:Int} {opt:Bool} {kids:List St} (hx:WX w b f 19 t n r cols cons names [x] wh sets order limit priv opt kids) (hr:okEs x 6) (hw:okWh wh) (hod:order≠ []) (ho:∀x∈order,Lo x.1) (hlm:0≤limit) (hl2:limit≤9223372036854775807) (h:Ww b l lg w) (HL:l.length+(tx (stP (.mk 19 t n r cols cons names [x] wh sets order limit priv opt kids))).length≤1000000000):
    Calls Tryz.prog 81 #[.pointer (some ⟨b,0,none⟩), .agg f.cells.toArray] w (WDid b l lg (tx (stP (.mk 19 t n r cols cons names [x] wh sets order limit priv opt kids))) w):=by
  obtain ⟨V1,hV1⟩:∃W1,w.alloc (.cells f.cells.toArray tSt)=W1:=⟨_,rfl⟩
  have hb:Below w.heap.size w V1:=by rw [←hV1];exact al (Below.refl _ _) _
  have X0:=Lib.hid (show Cel V1 w.heap.size tSt f.cells.toArray by rw [←hV1];exact Cel.new _ _ _ rfl)
  have hlb:=h.lt
  have hw1:=h.below hb
  have hr1:Wr b w V1:=Wr.of hb (Nat.le_of_lt hlb)
  have HLEN:=Lib.hid (show l.length+(List.flatten [[83,69,76,69,67,84,32]]++tx (sep (x.map pcs))++List.flatten [[32,70,82,79,77,32],t]++tx (whP wh)++List.flatten [[32,79,82,68,69,82,32,66,89,32]]++tx (sep (order.map ordP))++List.flatten [[32,76,73,77,73,84,32],Num.dgz limit]).length≤1000000000 by rw [←tx_wsel_111 hod hlm];exact HL)
  have HX:=Lib.hid hx
  obtain ⟨⟨q0,q1,q2,q3,q4,q5,q6⟩, -⟩:=hx.all.all
  have E0:=Lib.hid q0
  have E1:=Lib.hid q1
  have E2:=Lib.hid q2
  have E3:=Lib.hid q3
  have E4:=Lib.hid q4
  have E5:=Lib.hid q5
  have E6:=Lib.hid q6
  have Yhr:=Lib.hid hr
  have Yhw:=Lib.hid hw
  have Yhod:=Lib.hid hod
  have Yho:=Lib.hid ho
  have Yhlm:=Lib.hid hlm
  have Yhl2:=Lib.hid hl2
  have W0:=Lib.hid hw1
  have R0:=Lib.hid (hr1)
  have T0:=Lib.hid (show Wt lg l [] lg l from .inl ⟨rfl,(List.append_nil l).symm⟩)
  have y0_0:V1.cell? ⟨w.heap.size,0,none⟩=some (.int .i64 19):=(X0.out.at_ 0).trans (by rw [←E0.out];rfl)
  clear h HL hb hw1 hr1 hx q0 q1 q2 q3 q4 q5 q6 hr hw hod ho hlm hl2
  go_enter Tryz.func81,Tryz.ntmps81
  have H0:=Lib.hid (show Calls Tryz.prog 73 #[.pointer (some ⟨b,0,none⟩), .slice (some ⟨V1.heap.size,0,none⟩) 1 1] (V1.alloc (.cells #[.string ⟨#[83,69,76,69,67,84,32]⟩] tS)) (WDid b l lg (List.flatten [[83,69,76,69,67,84,32]]) V1) from saying [[83,69,76,69,67,84,32]] W0.out (by simp) (by have h1:=T0.out.len;have h2:=HLEN.out;simp only [List.length_append,List.length_nil] at h1 h2 ⊢;omega))
  go_wp2_with (go_at_call 73;(with_reducible refine H0.out.mono ?_))
  rintro e1 w1 ⟨rfl,l1,lg1,g1,g2,g3⟩
  have W1:=Lib.hid g1
  have R1:=Lib.hid (R0.out.trans g2)
  have T1:=Lib.hid (show Wt lg l ([]++(List.flatten [[83,69,76,69,67,84,32]])) lg1 l1 from T0.out.trans g3)
  have X1:=Lib.hid (g2.cel (by omega) (by decide) X0.out:Cel w1 w.heap.size tSt f.cells.toArray)
  clear g1 g2 g3
  have y1_7:w1.cell? ⟨w.heap.size,7,none⟩=some (.slice f.A7 f.n7 f.a7):=X1.out.at_ 7
  have hL7:=HX.out.all.all.2.2.2.2.1
  obtain ⟨b1,z1,A1,n1,c1,hA,hb1,p0,in1⟩:=rw_at (hL7.below R1.out.1).2.2 (show [x][0]?=some x from rfl)
  have hn7:f.n7=1:=hL7.1
  have z7:w1.cell? ⟨w.heap.size,7,none⟩=some (.slice (some ⟨b1,z1,none⟩) 1 f.a7):=y1_7.trans (by rw [hA,hn7])
  have HB1:=Lib.hid hb1
  have HP0:=Lib.hid (show w1.cell? ⟨b1,z1,none⟩=some (.slice A1 n1 c1) by simpa using p0)
  have HIN:=Lib.hid in1
  have HST:=Lib.hid (show (ListI b l lg w (if (0:Nat)=0 then []++(List.flatten [[83,69,76,69,67,84,32]]) else []++(List.flatten [[83,69,76,69,67,84,32]])++(tx (sep (x.map pcs)))) w1∧Wr b w1 w1) from ⟨⟨l1,lg1,W1.out,R1.out,T1.out⟩,Wr.refl _ _⟩)
  clear hL7 hA hn7 hb1 p0 in1 y1_7
  go_wp2
  go_loopw [19] (fun i wr=>∃j:Nat,j≤1∧i= .int .i64 (j:Int)∧Hid (ListI b l lg w (if j=0 then []++(List.flatten [[83,69,76,69,67,84,32]]) else []++(List.flatten [[83,69,76,69,67,84,32]])++(tx (sep (x.map pcs)))) wr∧Wr b w1 wr)) (fun i _=>2 - (intOf i).toNat)
  case atStart=>exact ⟨0,Nat.zero_le _,rfl,HST⟩
  case round=>
    obtain ⟨j,hj,rfl,HE⟩:=hrel
    by_cases hlt:j=0
    · subst hlt
      obtain ⟨⟨k1,kg1,hw,hr,ht⟩,hr0⟩:=HE.out
      rw [if_pos rfl] at ht
      have hwl:=hw.lt
      have c0:wr.cell? ⟨b1,z1,none⟩=some (.slice A1 n1 c1):=(hr0.1.cell (p:=⟨b1,z1,none⟩) HB1.out).trans HP0.out
      have HLL:=Lib.hid (show Calls Tryz.prog 133 #[.pointer (some ⟨b,0,none⟩), .slice A1 n1 c1, .func (.func 130) #[.pointer (some ⟨b,0,none⟩)] #[]] wr (fun e w' =>e= .returned (.tuple #[])∧(ListI b l lg w (if (0+1)=0 then []++(List.flatten [[83,69,76,69,67,84,32]]) else []++(List.flatten [[83,69,76,69,67,84,32]])++(tx (sep (x.map pcs)))) w' ∧Wr b w1 w')) from by
        obtain ⟨u,hu,hrr⟩:=row_is.1 (HIN.out.below hr0.1)
        injection hu with hu
        subst hu
        have h1:=ht.len
        have h2:=HLEN.out
        simp only [List.length_append,List.length_nil] at h1 h2
        refine (list_ex hw (isRow_ls hrr) (by omega) fun y hy W l2 lg2 cs g1 g2 g3 g4=>(HX.out.exs _ (.inr (.inl ⟨x,by simp,hy⟩)) (Yhr.out.2.2 y hy)) W l2 lg2 cs g1 (hr.trans g2) g3 g4).mono fun e w' d=>?_
        obtain ⟨d1,l',lg',d2,d3,d4⟩:=d
        exact ⟨d1,⟨l',lg',d2,hr.trans d3,by rw [if_neg (by decide)];exact ht.trans d4⟩,hr0.trans d3⟩)
      clear hw hr ht hr0 hwl HE HST
      go_wp2_with (go_at_call 133;(with_reducible refine HLL.out.mono ?_);rintro e1 w3 ⟨rfl,hli⟩;have HR:=Lib.hid hli;clear hli)
      go_roundw
      case rel=>exact ⟨0+1,by omega,by first|rfl|go_num,HR⟩
      case measure=>(simp [intOf];try omega)
    · obtain rfl:j=1:=by omega
      obtain ⟨⟨l2,lg2,g1,g2,g3⟩,g4⟩:=HE.out
      rw [if_neg (by decide)] at g3
      have W2:=Lib.hid g1
      have R2:=Lib.hid g2
      have T2:=Lib.hid g3
      have X2:=Lib.hid (g4.cel (by omega) (by decide) X1.out:Cel wr w.heap.size tSt f.cells.toArray)
      clear g1 g2 g3 g4 HE HST
      have y2_1:wr.cell? ⟨w.heap.size,1,none⟩=some (.string (Ep.txt t)):=(X2.out.at_ 1).trans (by rw [←E1.out];rfl)
      have H2:=Lib.hid (show Calls Tryz.prog 73 #[.pointer (some ⟨b,0,none⟩), .slice (some ⟨wr.heap.size,0,none⟩) 2 2] (wr.alloc (.cells #[.string ⟨#[32,70,82,79,77,32]⟩, .string (Ep.txt t)] tS)) (WDid b l2 lg2 (List.flatten [[32,70,82,79,77,32],t]) wr) from saying [[32,70,82,79,77,32],t] W2.out (by simp) (by have h1:=T2.out.len;have h2:=HLEN.out;simp only [List.length_append,List.length_nil] at h1 h2 ⊢;omega))
      go_wp2_with (go_at_call 73;(with_reducible refine H2.out.mono ?_))
      rintro e3 w3 ⟨rfl,l3,lg3,g1,g2,g3⟩
      have W3:=Lib.hid g1
      have R3:=Lib.hid (R2.out.trans g2)
      have T3:=Lib.hid (show Wt lg l ([]++(List.flatten [[83,69,76,69,67,84,32]])++(tx (sep (x.map pcs)))++(List.flatten [[32,70,82,79,77,32],t])) lg3 l3 from T2.out.trans g3)
      have X3:=Lib.hid (g2.cel (by omega) (by decide) X2.out:Cel w3 w.heap.size tSt f.cells.toArray)
      clear g1 g2 g3
      have y3_8:w3.cell? ⟨w.heap.size,8,none⟩=some (.int .i64 f.ek):=X3.out.at_ 8
      have y3_9:w3.cell? ⟨w.heap.size,9,none⟩=some (.int .i64 f.eo):=X3.out.at_ 9
      have y3_10:w3.cell? ⟨w.heap.size,10,none⟩=some (.int .i64 f.vk):=X3.out.at_ 10
      have y3_11:w3.cell? ⟨w.heap.size,11,none⟩=some (.int .i64 f.vn):=X3.out.at_ 11
      have y3_12:w3.cell? ⟨w.heap.size,12,none⟩=some (.string f.vs):=X3.out.at_ 12
      have y3_13:w3.cell? ⟨w.heap.size,13,none⟩=some (.string f.ns):=X3.out.at_ 13
      have y3_14:w3.cell? ⟨w.heap.size,14,none⟩=some (.slice f.A8 f.n8 f.a8):=X3.out.at_ 14
      have H3:=Lib.hid (show Calls Tryz.prog 80 #[.pointer (some ⟨b,0,none⟩), .agg #[.int .i64 f.ek, .int .i64 f.eo, .int .i64 f.vk, .int .i64 f.vn, .string f.vs, .string f.ns, .slice f.A8 f.n8 f.a8]] w3 (WDid b l3 lg3 (tx (whP wh)) w3) from wwhere_any (cs:= [.int .i64 f.ek, .int .i64 f.eo, .int .i64 f.vk, .int .i64 f.vn, .string f.vs, .string f.ns, .slice f.A8 f.n8 f.a8]) (DtIn.below HX.out.all.all.2.2.2.2.2.1 R3.out.1) Yhw.out (fun hl=>(HX.out.exs _ (.inr (.inr (.inl rfl))) hl).to R3.out) W3.out (by have h1:=T3.out.len;have h2:=HLEN.out;simp only [List.length_append,List.length_nil] at h1 h2 ⊢;omega))
      go_wp2_with (go_at_call 80;(with_reducible refine H3.out.mono ?_))
      rintro e4 w4 ⟨rfl,l4,lg4,g1,g2,g3⟩
      have W4:=Lib.hid g1
      have R4:=Lib.hid (R3.out.trans g2)
      have T4:=Lib.hid (show Wt lg l ([]++(List.flatten [[83,69,76,69,67,84,32]])++(tx (sep (x.map pcs)))++(List.flatten [[32,70,82,79,77,32],t])++(tx (whP wh))) lg4 l4 from T3.out.trans g3)
      have X4:=Lib.hid (g2.cel (by omega) (by decide) X3.out:Cel w4 w.heap.size tSt f.cells.toArray)
      clear g1 g2 g3
      have y4_16:w4.cell? ⟨w.heap.size,16,none⟩=some (.slice f.A10 f.n10 f.a10):=X4.out.at_ 16
      have hn10:=HX.out.all.all.2.2.2.2.2.2.2.1.1
      have t10:decide ((0:Int)<(f.n10:Int))=true:=decide_eq_true (by have:=List.length_pos_iff.2 Yhod.out;rw [List.length_map] at hn10;omega)
      have t11:decide (0<f.n10)=true:=decide_eq_true (by have:=List.length_pos_iff.2 Yhod.out;rw [List.length_map] at hn10;omega)
      clear hn10
      have H4:=Lib.hid (show Calls Tryz.prog 73 #[.pointer (some ⟨b,0,none⟩), .slice (some ⟨w4.heap.size,0,none⟩) 1 1] (w4.alloc (.cells #[.string ⟨#[32,79,82,68,69,82,32,66,89,32]⟩] tS)) (WDid b l4 lg4 (List.flatten [[32,79,82,68,69,82,32,66,89,32]]) w4) from saying [[32,79,82,68,69,82,32,66,89,32]] W4.out (by simp) (by have h1:=T4.out.len;have h2:=HLEN.out;simp only [List.length_append,List.length_nil] at h1 h2 ⊢;omega))
      go_wp2_with (go_at_call 73;(with_reducible refine H4.out.mono ?_))
      rintro e5 w5 ⟨rfl,l5,lg5,g1,g2,g3⟩
      have W5:=Lib.hid g1
      have R5:=Lib.hid (R4.out.trans g2)
      have T5:=Lib.hid (show Wt lg l ([]++(List.flatten [[83,69,76,69,67,84,32]])++(tx (sep (x.map pcs)))++(List.flatten [[32,70,82,79,77,32],t])++(tx (whP wh))++(List.flatten [[32,79,82,68,69,82,32,66,89,32]])) lg5 l5 from T4.out.trans g3)
      have X5:=Lib.hid (g2.cel (by omega) (by decide) X4.out:Cel w5 w.heap.size tSt f.cells.toArray)
      clear g1 g2 g3
      have y5_16:w5.cell? ⟨w.heap.size,16,none⟩=some (.slice f.A10 f.n10 f.a10):=X5.out.at_ 16
      have H5:=Lib.hid (show Calls Tryz.prog 134 #[.pointer (some ⟨b,0,none⟩), .slice f.A10 f.n10 f.a10, .func (.func 135) #[.pointer (some ⟨b,0,none⟩)] #[]] w5 (WDid b l5 lg5 (tx (sep (order.map ordP))) w5) from list_or W5.out (HX.out.all.all.2.2.2.2.2.2.2.1.below R5.out.1) (by have h1:=T5.out.len;have h2:=HLEN.out;simp only [List.length_append,List.length_nil] at h1 h2 ⊢;omega) fun x hx W l2 lg2 cs g1 g2 g3 g4=>word_any g3 ((HX.out.exs _ (.inr (.inr (.inr (.inr ⟨x,hx,rfl⟩)))) (Yho.out x hx)).to (R5.out.trans g2)) g1 g4)
      go_wp2_with (go_at_call 134;(with_reducible refine H5.out.mono ?_))
      rintro e6 w6 ⟨rfl,l6,lg6,g1,g2,g3⟩
      have W6:=Lib.hid g1
      have R6:=Lib.hid (R5.out.trans g2)
      have T6:=Lib.hid (show Wt lg l ([]++(List.flatten [[83,69,76,69,67,84,32]])++(tx (sep (x.map pcs)))++(List.flatten [[32,70,82,79,77,32],t])++(tx (whP wh))++(List.flatten [[32,79,82,68,69,82,32,66,89,32]])++(tx (sep (order.map ordP)))) lg6 l6 from T5.out.trans g3)
      have X6:=Lib.hid (g2.cel (by omega) (by decide) X5.out:Cel w6 w.heap.size tSt f.cells.toArray)
      clear g1 g2 g3
      have y6_17:w6.cell? ⟨w.heap.size,17,none⟩=some (.int .i64 limit):=(X6.out.at_ 17).trans (by rw [←E4.out];rfl)
      have tlm:(limit != -1)=true:=bne_yes (by have:=Yhlm.out;omega)
      have HIT:=Lib.hid (show Calls Tryz.prog 136 #[.int .i64 limit] w6 fun e w' =>e= .returned (.string (Ep.txt (Num.dgz limit)))∧Below w6.heap.size w6 w' from itoa_any limit Yhlm.out Yhl2.out ((HX.out.env.below R6.out.1).2.2.1))
      go_wp2_with (go_at_call 136;(with_reducible refine HIT.out.mono ?_))
      rintro e7 w7 ⟨rfl,hb⟩
      have W7:=Lib.hid (W6.out.below hb)
      have R7:=Lib.hid (R6.out.trans (Wr.of hb (Nat.le_of_lt W6.out.lt)))
      have T7:=T6
      have X7:=Lib.hid (X6.out.below hb)
      clear hb
      have H7:=Lib.hid (show Calls Tryz.prog 73 #[.pointer (some ⟨b,0,none⟩), .slice (some ⟨w7.heap.size,0,none⟩) 2 2] (w7.alloc (.cells #[.string ⟨#[32,76,73,77,73,84,32]⟩, .string (Ep.txt (Num.dgz limit))] tS)) (WDid b l6 lg6 (List.flatten [[32,76,73,77,73,84,32],Num.dgz limit]) w7) from saying [[32,76,73,77,73,84,32],(Num.dgz limit)] W7.out (by simp) (by have h1:=T7.out.len;have h2:=HLEN.out;simp only [List.length_append,List.length_nil] at h1 h2 ⊢;omega))
      go_wp2_with (go_at_call 73;(with_reducible refine H7.out.mono ?_))
      rintro e8 w8 ⟨rfl,l8,lg8,g1,g2,g3⟩
      have W8:=Lib.hid g1
      have R8:=Lib.hid (R7.out.trans g2)
      have T8:=Lib.hid (show Wt lg l ([]++(List.flatten [[83,69,76,69,67,84,32]])++(tx (sep (x.map pcs)))++(List.flatten [[32,70,82,79,77,32],t])++(tx (whP wh))++(List.flatten [[32,79,82,68,69,82,32,66,89,32]])++(tx (sep (order.map ordP)))++(List.flatten [[32,76,73,77,73,84,32],Num.dgz limit])) lg8 l8 from T7.out.trans g3)
      have X8:=Lib.hid (g2.cel (by omega) (by decide) X7.out:Cel w8 w.heap.size tSt f.cells.toArray)
      clear g1 g2 g3
      go_wp2
      go_end0
      exact ⟨rfl,_,_,W8.out,R8.out,by have:=T8.out;rwa [show []++(List.flatten [[83,69,76,69,67,84,32]])++(tx (sep (x.map pcs)))++(List.flatten [[32,70,82,79,77,32],t])++(tx (whP wh))++(List.flatten [[32,79,82,68,69,82,32,66,89,32]])++(tx (sep (order.map ordP)))++(List.flatten [[32,76,73,77,73,84,32],Num.dgz limit])=tx (stP (.mk 19 t n r cols cons names [x] wh sets order limit priv opt kids)) from by rw [tx_wsel_111 Yhod.out Yhlm.out];rfl] at this⟩
end
end Go.Proofs.YtiaomhdmllhmmaaGreatDoor.Sm
namespace Go.Proofs.YtiaomhdmllhmmaaGreatDoor.Sm
open Go.RowKit Mem Ep Right Lx Go.ChangeShapes Go.WideShapes
set_option linter.unusedVariables false
def own (x:St) (e:Ex):Prop:=
 match x with
 | .mk _ _ _ _ _ cons _ rows wh sets order _ _ _ _=>ExOf cons rows wh sets order e
def kidsS (x:St):List St:=
 match x with
 | .mk _ _ _ _ _ _ _ _ _ _ _ _ _ _ kids=>kids
section
variable {w w' :World} {b:Nat} {l:List UInt8} {lg:Bool} {f:Fl}
theorem wsel_any {t n r:Bs} {cols:List Co} {cons:List Cn} {names:List Bs} {rows:List (List Ex)} {wh:Ex} {sets:List (Bs × Ex)} {order:List (Ex × Bool)} {limit priv:Int} {opt:Bool} {kids:List St} (hx:WX w b f 19 t n r cols cons names rows wh sets order limit priv opt kids) (hr1:rows.length≤1) (hr:∀x∈rows,okEs x 6) (hw:okWh wh) (ho:∀x∈order,Lo x.1) (hl1: -1≤limit) (hl2:limit≤9999) (h:Ww b l lg w) (HL:l.length+(tx (stP (.mk 19 t n r cols cons names rows wh sets order limit priv opt kids))).length≤1000000000):
   Calls Tryz.prog 81 #[.pointer (some ⟨b,0,none⟩), .agg f.cells.toArray] w (WDid b l lg (tx (stP (.mk 19 t n r cols cons names rows wh sets order limit priv opt kids))) w):=by
 rcases rows with _|⟨x,_|⟨y,q⟩⟩
 · by_cases hod:order= []
   · subst hod
     by_cases hlm:limit= -1
     · subst hlm;exact wsel_000 hx hw h HL
     · exact wsel_001 hx hw (by omega) (by omega) h HL
   · by_cases hlm:limit= -1
     · subst hlm;exact wsel_010 hx hw hod ho h HL
     · exact wsel_011 hx hw hod ho (by omega) (by omega) h HL
 · have hrx:=hr x (by simp)
   by_cases hod:order= []
   · subst hod
     by_cases hlm:limit= -1
     · subst hlm;exact wsel_100 hx hrx hw h HL
     · exact wsel_101 hx hrx hw (by omega) (by omega) h HL
   · by_cases hlm:limit= -1
     · subst hlm;exact wsel_110 hx hrx hw hod ho h HL
     · exact wsel_111 hx hrx hw hod ho (by omega) (by omega) h HL
 · simp at hr1
theorem wrows_any {x:St} (hr:OkR x) (hE:WrE w b) (hin:FlIn w b f x) (hw:∀e,own x e→Lo e→ExW w b e) (h:Ww b l lg w) (HL:l.length+(tx (stP x)).length≤1000000000):Calls Tryz.prog 27 #[.pointer (some ⟨b,0,none⟩), .agg f.cells.toArray] w (WDid b l lg (tx (stP x)) w):=by
 cases hr with
 | @insert t ns rows h1 h2 h3 h4 h5=>
   have hx:WX w b f _ _ _ _ _ _ _ _ _ _ _ _ _ _ _:=⟨hE,hin,hw⟩
   refine wst_rows (by omega) hx h fun W l1 lg1 g1 g2 e1 e2=>?_
   subst e1 e2
   refine wof_insert (hx.to g2) g1 fun W2 l2 lg2 g3 g4 e1 e2=>?_
   subst e1 e2
   by_cases hn:ns= []
   · subst hn;exact winsert_none ((hx.to g2).to g4) h5 g3 HL
   · exact winsert_some ((hx.to g2).to g4) hn h5 g3 HL
 | update h1 h2 h3 h4 h5=>
   have hx:WX w b f _ _ _ _ _ _ _ _ _ _ _ _ _ _ _:=⟨hE,hin,hw⟩
   refine wst_rows (by omega) hx h fun W l1 lg1 g1 g2 e1 e2=>?_
   subst e1 e2
   exact wofRows_17 (hx.to g2) h4 h5 g1 HL
 | delete h1 h2=>
   have hx:WX w b f _ _ _ _ _ _ _ _ _ _ _ _ _ _ _:=⟨hE,hin,hw⟩
   refine wst_rows (by omega) hx h fun W l1 lg1 g1 g2 e1 e2=>?_
   subst e1 e2
   exact wofRows_18 (hx.to g2) h2 g1 HL
 | select h1 h2 h3 h4 h5 h6 h7 h8=>
   have hx:WX w b f _ _ _ _ _ _ _ _ _ _ _ _ _ _ _:=⟨hE,hin,hw⟩
   refine wst_rows (by omega) hx h fun W l1 lg1 g1 g2 e1 e2=>?_
   subst e1 e2
   refine wof_select (hx.to g2) g1 fun W2 l2 lg2 g3 g4 e1 e2=>?_
   subst e1 e2
   exact wsel_any ((hx.to g2).to g4) h2 h3 h4 h6 h7 h8 g3 HL
theorem wstmt_any {x:St} (hk:OkS x) (hE:WrE w b) (hin:FlIn w b f x) (hw:∀e,own x e→Lo e→ExW w b e) (h:Ww b l lg w) (HL:l.length+(tx (stP x)).length≤1000000000) (hwk:∀y∈kidsS x,∀e,own y e→Lo e→ExW w b e):Calls Tryz.prog 27 #[.pointer (some ⟨b,0,none⟩), .agg f.cells.toArray] w (WDid b l lg (tx (stP x)) w):=by
 cases hk with
 | table h1 h2 h3 h4 h5 h6=>
   have hx:WX w b f _ _ _ _ _ _ _ _ _ _ _ _ _ _ _:=⟨hE,hin,hw⟩
   refine wst_table (by omega) hx h fun W l1 lg1 g1 g2 e1 e2=>?_
   subst e1 e2
   refine wof_create (hx.to g2) g1 fun W2 l2 lg2 g3 g4 e1 e2=>?_
   subst e1 e2
   exact wcreate ((hx.to g2).to g4) (by intro e;rw [e] at h2;simp at h2) h6 g3 HL
 | dropTable h1=>
   have hx:WX w b f _ _ _ _ _ _ _ _ _ _ _ _ _ _ _:=⟨hE,hin,hw⟩
   refine wst_table (by omega) hx h fun W l1 lg1 g1 g2 e1 e2=>?_
   subst e1 e2
   exact wofTable_2 (hx.to g2) g1 HL
 | addCol h1 h2=>
   have hx:WX w b f _ _ _ _ _ _ _ _ _ _ _ _ _ _ _:=⟨hE,hin,hw⟩
   refine wst_table (by omega) hx h fun W l1 lg1 g1 g2 e1 e2=>?_
   subst e1 e2
   exact wofTable_3 (hx.to g2) g1 HL
 | dropCol h1 h2=>
   have hx:WX w b f _ _ _ _ _ _ _ _ _ _ _ _ _ _ _:=⟨hE,hin,hw⟩
   refine wst_table (by omega) hx h fun W l1 lg1 g1 g2 e1 e2=>?_
   subst e1 e2
   exact wofTable_4 (hx.to g2) g1 HL
 | rename h1 h2=>
   have hx:WX w b f _ _ _ _ _ _ _ _ _ _ _ _ _ _ _:=⟨hE,hin,hw⟩
   refine wst_table (by omega) hx h fun W l1 lg1 g1 g2 e1 e2=>?_
   subst e1 e2
   exact wofTable_5 (hx.to g2) g1 HL
 | addCons h1 h2=>
   have hx:WX w b f _ _ _ _ _ _ _ _ _ _ _ _ _ _ _:=⟨hE,hin,hw⟩
   refine wst_table (by omega) hx h fun W l1 lg1 g1 g2 e1 e2=>?_
   subst e1 e2
   exact wofTable_6 (hx.to g2) h2 g1 HL
 | dropCons h1 h2=>
   have hx:WX w b f _ _ _ _ _ _ _ _ _ _ _ _ _ _ _:=⟨hE,hin,hw⟩
   refine wst_table (by omega) hx h fun W l1 lg1 g1 g2 e1 e2=>?_
   subst e1 e2
   exact wofTable_7 (hx.to g2) g1 HL
 | index h1 h2 h3=>
   have hx:WX w b f _ _ _ _ _ _ _ _ _ _ _ _ _ _ _:=⟨hE,hin,hw⟩
   refine wst_table (by omega) hx h fun W l1 lg1 g1 g2 e1 e2=>?_
   subst e1 e2
   exact wofTable_8 (hx.to g2) (by intro e;have:=h3.1;rw [e] at this;simp at this) g1 HL
 | dropIndex h1 h2=>
   have hx:WX w b f _ _ _ _ _ _ _ _ _ _ _ _ _ _ _:=⟨hE,hin,hw⟩
   refine wst_table (by omega) hx h fun W l1 lg1 g1 g2 e1 e2=>?_
   subst e1 e2
   exact wofTable_9 (hx.to g2) g1 HL
 | role h1=>
   have hx:WX w b f _ _ _ _ _ _ _ _ _ _ _ _ _ _ _:=⟨hE,hin,hw⟩
   refine wst_role (by omega) hx h fun W l1 lg1 g1 g2 e1 e2=>?_
   subst e1 e2
   exact wofRole_10 (hx.to g2) g1 HL
 | dropRole h1=>
   have hx:WX w b f _ _ _ _ _ _ _ _ _ _ _ _ _ _ _:=⟨hE,hin,hw⟩
   refine wst_role (by omega) hx h fun W l1 lg1 g1 g2 e1 e2=>?_
   subst e1 e2
   exact wofRole_11 (hx.to g2) g1 HL
 | grantRole h1 h2=>
   have hx:WX w b f _ _ _ _ _ _ _ _ _ _ _ _ _ _ _:=⟨hE,hin,hw⟩
   refine wst_role (by omega) hx h fun W l1 lg1 g1 g2 e1 e2=>?_
   subst e1 e2
   exact wofRole_12 (hx.to g2) g1 HL
 | revokeRole h1 h2=>
   have hx:WX w b f _ _ _ _ _ _ _ _ _ _ _ _ _ _ _:=⟨hE,hin,hw⟩
   refine wst_role (by omega) hx h fun W l1 lg1 g1 g2 e1 e2=>?_
   subst e1 e2
   exact wofRole_13 (hx.to g2) g1 HL
 | @grant t r p o h1 h2 h3 h4=>
   have hx:WX w b f _ _ _ _ _ _ _ _ _ _ _ _ _ _ _:=⟨hE,hin,hw⟩
   refine wst_role (by omega) hx h fun W l1 lg1 g1 g2 e1 e2=>?_
   subst e1 e2
   cases o
   · exact wofRole_14_false (hx.to g2) g1 HL
   · exact wofRole_14_true (hx.to g2) g1 HL
 | revoke h1 h2 h3 h4=>
   have hx:WX w b f _ _ _ _ _ _ _ _ _ _ _ _ _ _ _:=⟨hE,hin,hw⟩
   refine wst_role (by omega) hx h fun W l1 lg1 g1 g2 e1 e2=>?_
   subst e1 e2
   exact wofRole_15 (hx.to g2) g1 HL
 |rows hr=>exact wrows_any hr hE hin hw h HL
 | @prepare n s h1 hr=>
   have hx:WX w b f _ _ _ _ _ _ _ _ _ _ _ _ _ _ _:=⟨hE,hin,hw⟩
   refine wst_plan (by omega) hx h fun W l1 lg1 g1 g2 e1 e2=>?_
   subst e1 e2
   refine wprepare (hx.to g2) (fun W2 l2 lg2 cs g3 g4 g5 g6=>?_) g1 HL
   obtain ⟨f2,rfl⟩:=fl_of g5
   exact wrows_any hr (hE.below (g2.trans g4).1) g5 (fun e he hl=>(hwk s (by simp [kidsS]) e he hl).to (g2.trans g4)) g3 g6
 | @execute n rows h1 h2 h3=>
   have hx:WX w b f _ _ _ _ _ _ _ _ _ _ _ _ _ _ _:=⟨hE,hin,hw⟩
   refine wst_plan (by omega) hx h fun W l1 lg1 g1 g2 e1 e2=>?_
   subst e1 e2
   rcases rows with _|⟨x,_|⟨y,q⟩⟩
   · exact wexec_none (hx.to g2) g1 HL
   · exact wexec_one (hx.to g2) (h3 x (by simp)) g1 HL
   · simp at h2
 | deallocate h1=>
   have hx:WX w b f _ _ _ _ _ _ _ _ _ _ _ _ _ _ _:=⟨hE,hin,hw⟩
   refine wst_plan (by omega) hx h fun W l1 lg1 g1 g2 e1 e2=>?_
   subst e1 e2
   exact wofPlan_22 (hx.to g2) g1 HL
end
end Go.Proofs.YtiaomhdmllhmmaaGreatDoor.Sm
