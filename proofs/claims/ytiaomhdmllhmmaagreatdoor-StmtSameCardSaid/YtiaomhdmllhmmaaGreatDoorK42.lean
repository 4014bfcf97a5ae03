/- Has a statement few, and small, parts? The document's Few. -/
import Derived.Test.YtiaomhdmllhmmaaGreatDoorK41
namespace Go.Proofs.YtiaomhdmllhmmaaGreatDoor.Sm
open Go.RowKit Mem Ep Right Lx Go.ChangeShapes Go.WideShapes
set_option linter.unusedVariables false
def FewL (x:St) (w:World) (e:Ending) (w' :World):Prop:=∃b:Bool,e= .returned (.bool b)∧(b=true→Fw x)∧Below w.heap.size w w'
def FewC (x:St):Prop:=∀(cs:List Value) (w:World),DtIn w (fun b=>b<w.heap.size) (stDt x) cs→Calls Tryz.prog 8 #[.agg cs.toArray] w (FewL x w)
theorem row_new (w:World) (us:List Bs):Row (w.alloc (.cells (us.map str).toArray tS)) (w.heap.size+1) (some ⟨w.heap.size,0,none⟩) (us.map str):=fun k u hu=>
 ⟨w.heap.size,0,rfl,Nat.lt_succ_self _,by
   have h:=(Cel.new w tS (us.map str).toArray rfl).at_ k
   rw [Nat.zero_add,h]
   simpa using hu⟩
theorem ts_new {V w1:World} (h:Below V.heap.size V w1) (us:List Bs) (hn:us.length≤1000):TS V (.slice (some ⟨w1.heap.size,0,none⟩) us.length us.length) us (w1.alloc (.cells (us.map str).toArray tS)):=
 ⟨⟨by simp, .inr ⟨w1.heap.size,us.length,(us.map str).toArray,rfl,h.size,heap_alloc_new w1 _,Nat.le_refl _,by unfold maxLen;omega,by simp,by rw [List.take_of_length_le (by simp)]⟩⟩,al h _⟩
theorem take_map_on {α β:Type} {g:α→β} {l:List α} {j:Nat} {x:α} (hx:l[j]?=some x):(l.take (j+1)).map g=(l.take j).map g++ [g x]:=by
 rw [List.take_add_one,hx,List.map_append];rfl
theorem cn_at2 {w:World} {S:Nat→Prop} {A' :Option Addr} {l:List Cn} {j:Nat} {x:Cn} (h:RowIn w S A' 12 (l.map cnDt) 0) (hx:l[j]?=some x):∃(b' o' :Nat) (P:Option Addr) (pn pc:Nat) (k o vk vn:Int) (vs ns:ByteArray) (A:Option Addr) (n c:Nat) (Q:Option Addr) (qn qc:Nat),A' =some ⟨b',o',none⟩∧S b' ∧At w b' (o' +j*12) [.string (txt x.nm), .int .i64 x.kind, .slice P pn pc, .int .i64 k, .int .i64 o, .int .i64 vk, .int .i64 vn, .string vs, .string ns, .slice A n c, .string (txt x.tbl), .slice Q qn qc]∧IsRow w S 1 (x.cols.map sDt) (.slice P pn pc)∧ExIn w S x.chk [.int .i64 k, .int .i64 o, .int .i64 vk, .int .i64 vn, .string vs, .string ns, .slice A n c]∧IsRow w S 1 (x.refs.map sDt) (.slice Q qn qc):=by
 obtain ⟨b',o',cs,h1,h2,h3,h4,h5⟩:=RowIn.get h (show (l.map cnDt)[j]?=some (cnDt x) by rw [List.getElem?_map,hx];rfl)
 obtain ⟨u1,e,u2,rfl,g1,g2,g3⟩:=cn_in.1 h5
 obtain ⟨P,pn,pc,rfl⟩:=row_form g1
 obtain ⟨Q,qn,qc,rfl⟩:=row_form g3
 obtain ⟨k,o,vk,vn,vs,ns,A,n,c,rfl⟩:=ex_form g2
 have e:∀i,o' +(0+j)*12+i=o' +j*12+i:=fun i=>by omega
 exact ⟨b',o',P,pn,pc,k,o,vk,vn,vs,ns,A,n,c,Q,qn,qc,h1,h2,fun i v hv=>by have:=h4 i v hv;rwa [e] at this,g1,g2,g3⟩
theorem few_own {k:Int} {t n r:Bs} {cols:List Co} {cons:List Cn} {names:List Bs} {rows:List (List Ex)} {wh:Ex} {sets:List (Bs × Ex)} {order:List (Ex × Bool)} {limit priv:Int} {opt:Bool} {kids:List St} {L4 L5 L7:List Bs} {m:Nat} (HTF:∀x∈L7,tF x) (e7:L5++sets.map (·.1)=L7) (e5:L4++cons.flatMap cnT=L5) (e4: [t,n,r]++names++cols.map (·.nm)=L4)
   (hcn:∀x∈cons,cnF x) (hro:∀x∈rows,∀e∈x,exF e) (hc:cnt wh 60=some m) (hse:∀x∈sets,exF x.2) (hor:∀x∈order,exF x.1):FwO (.mk k t n r cols cons names rows wh sets order limit priv opt kids):=by
 subst e7 e5 e4
 refine ⟨⟨HTF _ (by simp),HTF _ (by simp),HTF _ (by simp)⟩,fun x hx=>HTF _ ?_,fun x hx=>⟨hcn x hx,fun s hs=>HTF _ ?_⟩,fun x hx=>HTF _ (by simp [hx]),hro,⟨_,hc⟩,fun x hx=>⟨HTF _ ?_,hse x hx⟩,hor⟩
 · exact List.mem_append_left _ (List.mem_append_left _ (List.mem_append_right _ (List.mem_map.2 ⟨x,hx,rfl⟩)))
 · exact List.mem_append_left _ (List.mem_append_right _ (List.mem_flatMap.2 ⟨x,hx,hs⟩))
 · exact List.mem_append_right _ (List.mem_map.2 ⟨x,hx,rfl⟩)
theorem load_stmt_on {ops:Array Oper} {rest:List Oper} {op:Oper} {a:Act} {w:World} {Q:Exit→Act→World→Prop} (hw:Region.wanted op (yielded ops a.tmps)=true) (x:Operand) (ho:op.op= .load tSt x)
   (b o:Nat) (hx:a.eval x= .pointer (some ⟨b,o,none⟩)) (cs:List Value) (hc:At w b o cs) (hl:cs.length=21) (h:wpList Tryz.prog ops Q rest (a.put op.dst (.agg cs.toArray)) w):wpList Tryz.prog ops Q (op::rest) a w:=
 wpList_step fun K hK=>by
   rw [if_pos hw]
   exact wp_load_mid tSt x ho b o hx cs _ hc Tryz.underlying35 rfl (by rw [hl];exact stmt_size) (hK _ _ h)
def Bx (g:Nat) (t:TypeId) (cs:Array Value) (v:Value) (w:World):Prop:=Cel w g t cs∧v.ownBlock≠some g∧g<w.heap.size
theorem Bx.app {g:Nat} {t:TypeId} {cs:Array Value} {v v' :Value} {w w' :World} (h:Bx g t cs v w) (h1:∀k,k<w.heap.size→v.ownBlock≠some k→w'.heap[k]?=w.heap[k]?) (h2:v'.ownBlock=v.ownBlock ∨ v'.ownBlock=some w.heap.size) (h3:w.heap.size≤w'.heap.size):Bx g t cs v' w' :=
 ⟨(h1 g h.2.2 h.2.1).trans h.1, by rcases h2 with e|e<;>rw [e]; · exact h.2.1
                                   · exact fun e=>by injection e with e;exact absurd h.2.2 (by omega),Nat.lt_of_lt_of_le h.2.2 h3⟩
theorem Bx.call {g:Nat} {t:TypeId} {cs:Array Value} {v:Value} {w w' :World} (h:Bx g t cs v w) (hb:Below w.heap.size w w'):Bx g t cs v w' :=⟨(hb.block g h.2.2).trans h.1,h.2.1,Nat.lt_of_lt_of_le h.2.2 hb.size⟩
structure FwX (V:World) (B:Nat) (f:Fl) (x:St):Prop where
 box:Cel V B tSt f.cells.toArray
 lt:B<V.heap.size
 all:FlIn V V.heap.size f x
section
variable {V W:World} {B:Nat} {f:Fl} {x:St}
theorem FwX.at_ (h:FwX V B f x) (hb:Below V.heap.size V W) (i:Nat):W.cell? ⟨B,i,none⟩=f.cells[i]?:=by
 have h1:Cel W B tSt f.cells.toArray:=(hb.block B h.lt).trans h.box
 have:=h1.at_ i
 simpa using this
theorem FwX.into (h:FwX V B f x) (hb:Below V.heap.size V W):FlIn W V.heap.size f x:=h.all.below hb
end
set_option maxRecDepth 100000 in
set_option maxHeartbeats 8000000 in
theorem few_st : ∀ x : St, FewC x:=by
  refine St.byKids fun k t n r cols cons names rows wh sets order limit priv opt kids ih=>?_
  intro cs w hx
  obtain ⟨f,rfl⟩:=fl_of hx
  obtain ⟨V,hV⟩:∃W1,w.alloc (.cells f.cells.toArray tSt)=W1:=⟨_,rfl⟩
  have hb:Below w.heap.size w V:=by rw [←hV];exact al (Below.refl _ _) _
  have hsz:V.heap.size=w.heap.size+1:=by rw [←hV];simp
  have HX:=Lib.hid (show FwX V w.heap.size f (.mk k t n r cols cons names rows wh sets order limit priv opt kids) from ⟨by rw [←hV];exact Cel.new _ _ _ rfl,by omega,DtIn.to (w:=w) (w' :=V) (S:=fun b=>b<w.heap.size) (S' :=fun b=>b<V.heap.size) (fun b g=>by omega) (fun p hp=>hb.cell hp) _ _ hx⟩)
  have HB:=Lib.hid hb
  have HE:=Lib.hid (show ∀W,Below V.heap.size V W→Below w.heap.size w W from fun W g=>hb.trans (g.mono (by omega)))
  have hall:=HX.out.all.all
  obtain ⟨⟨-,q1,q2,q3, -, -, -⟩,l4,l5,l6,l7,lw,l9,l10,l14⟩:=hall
  have HL4:=Lib.hid l4
  have HL5:=Lib.hid l5
  have HL7:=Lib.hid l7
  have HL9:=Lib.hid l9
  have HL10:=Lib.hid l10
  have HL14:=Lib.hid l14
  have HLW:=Lib.hid lw
  have HN:=Lib.hid (show ∀W,Below V.heap.size V W→Row W V.heap.size f.A6 (names.map str)∧names.length=f.n6∧(f.A6=none→f.a6=0) from fun W g=>row_str ((HX.out.into g).nms))
  have HF:=Lib.hid (show ∀W,Below V.heap.size V W→Calls Tryz.prog 21 #[.agg ([.int .i64 f.ek, .int .i64 f.eo, .int .i64 f.vk, .int .i64 f.vn, .string f.vs, .string f.ns, .slice f.A8 f.n8 f.a8]:List Value).toArray, .int .i64 60] W fun e w' =>e= .returned (.bool (cnt wh 60).isSome)∧Below W.heap.size W w' from fun W g=>few_any wh _ 60 W (DtIn.to (w:=V) (w' :=W) (S:=fun b=>b<V.heap.size) (S' :=fun b=>b<W.heap.size) (fun b hb=>Nat.lt_of_lt_of_le hb g.size) (fun p hp=>g.cell hp) _ _ HLW.out) (by omega))
  have Q1:=Lib.hid q1
  have Q2:=Lib.hid q2
  have Q3:=Lib.hid q3
  clear hx hb l4 l5 l6 l7 lw l9 l10 l14 q1 q2 q3
  by_cases d4:12<f.n4
  · have t4:decide ((12:Int)<(f.n4:Int))=true:=decide_eq_true (by omega)
    have y4:V.cell? ⟨w.heap.size,4,none⟩=some (.slice f.A4 f.n4 f.a4):=HX.out.at_ (Below.refl _ _) 4
    clear ih hsz
    go_enter Tryz.func8,Tryz.ntmps8
    go_wp2
    go_ret
    exact ⟨false,rfl,(fun g=>Bool.noConfusion g),HB.out⟩
  have t4:decide ((12:Int)<(f.n4:Int))=false:=decide_eq_false (by omega)
  have D4:=Lib.hid (Nat.le_of_not_lt d4)
  clear d4
  by_cases d5:12<f.n5
  · have t5:decide ((12:Int)<(f.n5:Int))=true:=decide_eq_true (by omega)
    have y4:V.cell? ⟨w.heap.size,4,none⟩=some (.slice f.A4 f.n4 f.a4):=HX.out.at_ (Below.refl _ _) 4
    have y5:V.cell? ⟨w.heap.size,5,none⟩=some (.slice f.A5 f.n5 f.a5):=HX.out.at_ (Below.refl _ _) 5
    clear ih hsz
    go_enter Tryz.func8,Tryz.ntmps8
    go_wp2
    go_ret
    exact ⟨false,rfl,(fun g=>Bool.noConfusion g),HB.out⟩
  have t5:decide ((12:Int)<(f.n5:Int))=false:=decide_eq_false (by omega)
  have D5:=Lib.hid (Nat.le_of_not_lt d5)
  clear d5
  by_cases d6:12<f.n6
  · have t6:decide ((12:Int)<(f.n6:Int))=true:=decide_eq_true (by omega)
    have y4:V.cell? ⟨w.heap.size,4,none⟩=some (.slice f.A4 f.n4 f.a4):=HX.out.at_ (Below.refl _ _) 4
    have y5:V.cell? ⟨w.heap.size,5,none⟩=some (.slice f.A5 f.n5 f.a5):=HX.out.at_ (Below.refl _ _) 5
    have y6:V.cell? ⟨w.heap.size,6,none⟩=some (.slice f.A6 f.n6 f.a6):=HX.out.at_ (Below.refl _ _) 6
    clear ih hsz
    go_enter Tryz.func8,Tryz.ntmps8
    go_wp2
    go_ret
    exact ⟨false,rfl,(fun g=>Bool.noConfusion g),HB.out⟩
  have t6:decide ((12:Int)<(f.n6:Int))=false:=decide_eq_false (by omega)
  have D6:=Lib.hid (Nat.le_of_not_lt d6)
  clear d6
  by_cases d7:12<f.n7
  · have t7:decide ((12:Int)<(f.n7:Int))=true:=decide_eq_true (by omega)
    have y4:V.cell? ⟨w.heap.size,4,none⟩=some (.slice f.A4 f.n4 f.a4):=HX.out.at_ (Below.refl _ _) 4
    have y5:V.cell? ⟨w.heap.size,5,none⟩=some (.slice f.A5 f.n5 f.a5):=HX.out.at_ (Below.refl _ _) 5
    have y6:V.cell? ⟨w.heap.size,6,none⟩=some (.slice f.A6 f.n6 f.a6):=HX.out.at_ (Below.refl _ _) 6
    have y7:V.cell? ⟨w.heap.size,7,none⟩=some (.slice f.A7 f.n7 f.a7):=HX.out.at_ (Below.refl _ _) 7
    clear ih hsz
    go_enter Tryz.func8,Tryz.ntmps8
    go_wp2
    go_ret
    exact ⟨false,rfl,(fun g=>Bool.noConfusion g),HB.out⟩
  have t7:decide ((12:Int)<(f.n7:Int))=false:=decide_eq_false (by omega)
  have D7:=Lib.hid (Nat.le_of_not_lt d7)
  clear d7
  by_cases d15:12<f.n9
  · have t15:decide ((12:Int)<(f.n9:Int))=true:=decide_eq_true (by omega)
    have y4:V.cell? ⟨w.heap.size,4,none⟩=some (.slice f.A4 f.n4 f.a4):=HX.out.at_ (Below.refl _ _) 4
    have y5:V.cell? ⟨w.heap.size,5,none⟩=some (.slice f.A5 f.n5 f.a5):=HX.out.at_ (Below.refl _ _) 5
    have y6:V.cell? ⟨w.heap.size,6,none⟩=some (.slice f.A6 f.n6 f.a6):=HX.out.at_ (Below.refl _ _) 6
    have y7:V.cell? ⟨w.heap.size,7,none⟩=some (.slice f.A7 f.n7 f.a7):=HX.out.at_ (Below.refl _ _) 7
    have y15:V.cell? ⟨w.heap.size,15,none⟩=some (.slice f.A9 f.n9 f.a9):=HX.out.at_ (Below.refl _ _) 15
    clear ih hsz
    go_enter Tryz.func8,Tryz.ntmps8
    go_wp2
    go_ret
    exact ⟨false,rfl,(fun g=>Bool.noConfusion g),HB.out⟩
  have t15:decide ((12:Int)<(f.n9:Int))=false:=decide_eq_false (by omega)
  have D15:=Lib.hid (Nat.le_of_not_lt d15)
  clear d15
  by_cases d16:12<f.n10
  · have t16:decide ((12:Int)<(f.n10:Int))=true:=decide_eq_true (by omega)
    have y4:V.cell? ⟨w.heap.size,4,none⟩=some (.slice f.A4 f.n4 f.a4):=HX.out.at_ (Below.refl _ _) 4
    have y5:V.cell? ⟨w.heap.size,5,none⟩=some (.slice f.A5 f.n5 f.a5):=HX.out.at_ (Below.refl _ _) 5
    have y6:V.cell? ⟨w.heap.size,6,none⟩=some (.slice f.A6 f.n6 f.a6):=HX.out.at_ (Below.refl _ _) 6
    have y7:V.cell? ⟨w.heap.size,7,none⟩=some (.slice f.A7 f.n7 f.a7):=HX.out.at_ (Below.refl _ _) 7
    have y15:V.cell? ⟨w.heap.size,15,none⟩=some (.slice f.A9 f.n9 f.a9):=HX.out.at_ (Below.refl _ _) 15
    have y16:V.cell? ⟨w.heap.size,16,none⟩=some (.slice f.A10 f.n10 f.a10):=HX.out.at_ (Below.refl _ _) 16
    clear ih hsz
    go_enter Tryz.func8,Tryz.ntmps8
    go_wp2
    go_ret
    exact ⟨false,rfl,(fun g=>Bool.noConfusion g),HB.out⟩
  have t16:decide ((12:Int)<(f.n10:Int))=false:=decide_eq_false (by omega)
  have D16:=Lib.hid (Nat.le_of_not_lt d16)
  clear d16
  by_cases d20:1<f.n14
  · have t20:decide ((1:Int)<(f.n14:Int))=true:=decide_eq_true (by omega)
    have y4:V.cell? ⟨w.heap.size,4,none⟩=some (.slice f.A4 f.n4 f.a4):=HX.out.at_ (Below.refl _ _) 4
    have y5:V.cell? ⟨w.heap.size,5,none⟩=some (.slice f.A5 f.n5 f.a5):=HX.out.at_ (Below.refl _ _) 5
    have y6:V.cell? ⟨w.heap.size,6,none⟩=some (.slice f.A6 f.n6 f.a6):=HX.out.at_ (Below.refl _ _) 6
    have y7:V.cell? ⟨w.heap.size,7,none⟩=some (.slice f.A7 f.n7 f.a7):=HX.out.at_ (Below.refl _ _) 7
    have y15:V.cell? ⟨w.heap.size,15,none⟩=some (.slice f.A9 f.n9 f.a9):=HX.out.at_ (Below.refl _ _) 15
    have y16:V.cell? ⟨w.heap.size,16,none⟩=some (.slice f.A10 f.n10 f.a10):=HX.out.at_ (Below.refl _ _) 16
    have y20:V.cell? ⟨w.heap.size,20,none⟩=some (.slice f.A14 f.n14 f.a14):=HX.out.at_ (Below.refl _ _) 20
    clear ih hsz
    go_enter Tryz.func8,Tryz.ntmps8
    go_wp2
    go_ret
    exact ⟨false,rfl,(fun g=>Bool.noConfusion g),HB.out⟩
  have t20:decide ((1:Int)<(f.n14:Int))=false:=decide_eq_false (by omega)
  have D20:=Lib.hid (Nat.le_of_not_lt d20)
  clear d20
  have y4:V.cell? ⟨w.heap.size,4,none⟩=some (.slice f.A4 f.n4 f.a4):=HX.out.at_ (Below.refl _ _) 4
  have y5:V.cell? ⟨w.heap.size,5,none⟩=some (.slice f.A5 f.n5 f.a5):=HX.out.at_ (Below.refl _ _) 5
  have y6:V.cell? ⟨w.heap.size,6,none⟩=some (.slice f.A6 f.n6 f.a6):=HX.out.at_ (Below.refl _ _) 6
  have y7:V.cell? ⟨w.heap.size,7,none⟩=some (.slice f.A7 f.n7 f.a7):=HX.out.at_ (Below.refl _ _) 7
  have y8:V.cell? ⟨w.heap.size,8,none⟩=some (.int .i64 f.ek):=HX.out.at_ (Below.refl _ _) 8
  have y9:V.cell? ⟨w.heap.size,9,none⟩=some (.int .i64 f.eo):=HX.out.at_ (Below.refl _ _) 9
  have y10:V.cell? ⟨w.heap.size,10,none⟩=some (.int .i64 f.vk):=HX.out.at_ (Below.refl _ _) 10
  have y11:V.cell? ⟨w.heap.size,11,none⟩=some (.int .i64 f.vn):=HX.out.at_ (Below.refl _ _) 11
  have y12:V.cell? ⟨w.heap.size,12,none⟩=some (.string f.vs):=HX.out.at_ (Below.refl _ _) 12
  have y13:V.cell? ⟨w.heap.size,13,none⟩=some (.string f.ns):=HX.out.at_ (Below.refl _ _) 13
  have y14:V.cell? ⟨w.heap.size,14,none⟩=some (.slice f.A8 f.n8 f.a8):=HX.out.at_ (Below.refl _ _) 14
  have y15:V.cell? ⟨w.heap.size,15,none⟩=some (.slice f.A9 f.n9 f.a9):=HX.out.at_ (Below.refl _ _) 15
  have y16:V.cell? ⟨w.heap.size,16,none⟩=some (.slice f.A10 f.n10 f.a10):=HX.out.at_ (Below.refl _ _) 16
  have y20:V.cell? ⟨w.heap.size,20,none⟩=some (.slice f.A14 f.n14 f.a14):=HX.out.at_ (Below.refl _ _) 20
  cases hc:cnt wh 60 with
  | none=>
    rw [hc] at HF
    clear ih hsz
    go_enter Tryz.func8,Tryz.ntmps8
    go_wp2_with (go_at_call 21;(with_reducible refine (HF.out _ (Below.refl _ _)).mono ?_);rintro e1 w1 ⟨rfl,hb1⟩;have HB1:=Lib.hid hb1;clear hb1)
    go_ret
    exact ⟨false,rfl,(fun g=>Bool.noConfusion g),HE.out _ HB1.out⟩
  | some m=>
    rw [hc] at HF
    have HC:=Lib.hid hc
    clear hc
    have HZ:=Lib.hid (show ∀w1,Below V.heap.size V w1→∀W2,w1.alloc (.cells #[.string (txt t), .string (txt n), .string (txt r)] tS)=W2→Below V.heap.size V W2∧TS V (.slice (some ⟨w1.heap.size,0,none⟩) 3 3) [t,n,r] W2 from fun w1 g W2 h=>by subst h;exact ⟨al g _,ts_new g [t,n,r] (by simp)⟩)
    have IH:=Lib.hid ih
    clear ih hsz
    go_enter Tryz.func8,Tryz.ntmps8
    go_wp2_with (first|(go_at_call 21;(with_reducible refine (HF.out _ (Below.refl _ _)).mono ?_);rintro e1 w1 ⟨rfl,hb1⟩;have HB1:=Lib.hid hb1;have z1:w1.cell? ⟨w.heap.size,1,none⟩=some (.string (txt t)):=(HX.out.at_ hb1 1).trans (by rw [←Q1.out];rfl);have z2:w1.cell? ⟨w.heap.size,2,none⟩=some (.string (txt n)):=(HX.out.at_ hb1 2).trans (by rw [←Q2.out];rfl);have z3:w1.cell? ⟨w.heap.size,3,none⟩=some (.string (txt r)):=(HX.out.at_ hb1 3).trans (by rw [←Q3.out];rfl);obtain ⟨W2,hW2⟩:∃W,w1.alloc (.cells #[.string (txt t), .string (txt n), .string (txt r)] tS)=W:=⟨_,rfl⟩;obtain ⟨hb2,ht2⟩:=HZ.out w1 hb1 W2 hW2;have HB2:=Lib.hid hb2;have HT2:=Lib.hid ht2;have z6:W2.cell? ⟨w.heap.size,6,none⟩=some (.slice f.A6 f.n6 f.a6):=HX.out.at_ hb2 6;clear hb1 hb2 ht2)|(at_builtin;refine wp_app HT2.out (.tmp 65) (.tmp 67) rfl rfl rfl rfl (HN.out W2 HB2.out).1 (HN.out W2 HB2.out).2.1 (HN.out W2 HB2.out).2.2 (by have:=D6.out;simp;omega) ?_;intro v3 w3 g1 g2 g3 g4;have T3:=Lib.hid g1;clear g1 g2 g3 g4))
    clear y4 y5 y6 y7 y8 y9 y10 y11 y12 y13 y14 y15 y16 y20 z1 z2 z3 z6 hW2 HT2 HB2 HB1 HZ hV t4 t5 t6 t7 t15 t16 t20
    go_loopw [4,3] (fun i u wr=>∃(j:Nat) (v:Value),j≤f.n4∧i= .int .i64 (j:Int)∧v=u∧Hid (TS V v (([t,n,r]++names)++(cols.take j).map (·.nm)) wr)) (fun i _ _=>f.n4+1 - (intOf i).toNat)
    case atStart=>exact ⟨0,_,Nat.zero_le _,rfl,rfl,by rw [List.take_zero,List.map_nil,List.append_nil];exact T3⟩
    case round=>
      obtain ⟨j,v,hj,rfl,rfl,HE1⟩:=hrel
      have hmx:f.n4≤2 ^ 63 - 1:=by have:=D4.out;omega
      have hlo:=HE1.out.low
      have y4:wr.cell? ⟨w.heap.size,4,none⟩=some (.slice f.A4 f.n4 f.a4):=HX.out.at_ hlo 4
      by_cases hlt:j<f.n4
      · obtain ⟨x,hx⟩:=some_at (show cols.length=f.n4 by have:=HL4.out.1;rw [List.length_map] at this;exact this.symm) hlt
        have tl:decide ((j:Int)<(f.n4:Int))=true:=decide_eq_true (by omega)
        obtain ⟨b1,o1,hA,hb1,c0, -, -⟩:=co_at (HL4.out.below hlo).2.2 hx
        have z4:wr.cell? ⟨w.heap.size,4,none⟩=some (.slice (some ⟨b1,o1,none⟩) f.n4 f.a4):=y4.trans (by rw [hA])
        obtain ⟨W2,hW2⟩:∃W,wr.alloc (.cells #[.string (txt x.nm)] tS)=W:=⟨_,rfl⟩
        have HT2:=Lib.hid (show TS V v (([t,n,r]++names)++(cols.take j).map (·.nm)) W2 from by rw [←hW2];exact HE1.out.call (al (Below.refl _ _) _))
        have HR2:=Lib.hid (show Row W2 (wr.heap.size+1) (some ⟨wr.heap.size,0,none⟩) ([x.nm].map str) from by rw [←hW2];exact row_new wr [x.nm])
        have HLN:=Lib.hid (show (([t,n,r]++names)++(cols.take j).map (·.nm)).length+1≤100000 from by have h1:=(HN.out _ hlo).2.1;have h2:=D6.out;have h3:=D4.out;simp only [List.length_append,List.length_map,List.length_take,List.length_cons,List.length_nil];omega)
        have HSN:=Lib.hid (show ∀v' w',TS V v' ((([t,n,r]++names)++(cols.take j).map (·.nm))++ [x.nm]) w' →TS V v' (([t,n,r]++names)++(cols.take (j+1)).map (·.nm)) w' from fun v' w' g=>by rw [take_map_on hx,←List.append_assoc];exact g)
        clear hlo y4 hA hb1 hx
        go_wp2_with (at_builtin;refine wp_app HT2.out (.tmp 76) (.tmp 83) rfl rfl rfl rfl HR2.out rfl (fun e=>by cases e) HLN.out ?_;intro v2 w2 g1 g2 g3 g4;have HR:=Lib.hid (HSN.out _ _ g1);clear g1 g2 g3 g4)
        go_roundw
        case rel=>exact ⟨j+1,_,by omega,by go_num,rfl,HR⟩
        case measure=>simp [intOf];omega
      · have tl : decide ((j : Int) < (f.n4 : Int)) = false:=decide_eq_false (by omega)
        obtain rfl:j=f.n4:=by omega
        obtain ⟨L4,hL4⟩:∃L, [t,n,r]++names++cols.map (·.nm)=L:=⟨_,rfl⟩
        have T4 := Lib.hid (show TS V v L4 wr from by have h1:=HE1.out;have h2:f.n4=cols.length:=by have:=HL4.out.1;rwa [List.length_map] at this
                                                      rw [h2,List.take_length,hL4] at h1;exact h1)
        have HM4 := Lib.hid (show L4.length ≤ 27 from by have h1:=(HN.out _ hlo).2.1;have h2:=D6.out;have h3:=D4.out;have h4:f.n4=cols.length:=by have:=HL4.out.1;rwa [List.length_map] at this
                                                         rw [←hL4];simp only [List.length_append,List.length_map,List.length_cons,List.length_nil];omega)
        have HL4E:=Lib.hid hL4
        clear hL4
        go_wp2
        clear HE1 hlo y4 hmx hj hlt tl T3
        go_loopw [5,3] (fun i u wr=>∃(j:Nat) (v:Value),j≤f.n5∧i= .int .i64 (j:Int)∧v=u∧Hid (TS V v (L4++(cons.take j).flatMap cnT) wr)∧Hid (∀x∈cons.take j,cnF x)∧Hid ((L4++(cons.take j).flatMap cnT).length≤27+26*j)) (fun i _ _=>f.n5+1 - (intOf i).toNat)
        case atStart=>exact ⟨0,_,Nat.zero_le _,rfl,rfl,by rw [List.take_zero,List.flatMap_nil,List.append_nil];exact T4,Lib.hid (fun x hx=>by simp at hx),Lib.hid (by have:=HM4.out;simp;omega)⟩
        case round=>
          obtain ⟨j,v,hj,rfl,rfl,HE1,HE2,HE3⟩:=hrel
          have hmx:f.n5≤2 ^ 63 - 1:=by have:=D5.out;omega
          have hlo:=HE1.out.low
          have y5:wr.cell? ⟨w.heap.size,5,none⟩=some (.slice f.A5 f.n5 f.a5):=HX.out.at_ hlo 5
          by_cases hlt:j<f.n5
          · obtain ⟨x,hx⟩:=some_at (show cons.length=f.n5 by have:=HL5.out.1;rw [List.length_map] at this;exact this.symm) hlt
            have tl:decide ((j:Int)<(f.n5:Int))=true:=decide_eq_true (by omega)
            obtain ⟨b1,o1,P,pn,pc,k0,o0,vk,vn,vs,ns,A0,m0,c0,Q,qn,qc,hA,hb1,hp,i1,i2,i3⟩:=cn_at2 HL5.out.2.2 hx
            have z5:wr.cell? ⟨w.heap.size,5,none⟩=some (.slice (some ⟨b1,o1,none⟩) f.n5 f.a5):=y5.trans (by rw [hA])
            have p0:wr.cell? ⟨b1,o1+j*12,none⟩=some (.string (txt x.nm)):=(hlo.cell (p:=⟨b1,o1+j*12,none⟩) hb1).trans (hp 0 _ rfl)
            have p1:wr.cell? ⟨b1,o1+j*12+1,none⟩=some (.int .i64 x.kind):=(hlo.cell (p:=⟨b1,o1+j*12+1,none⟩) hb1).trans (hp 1 _ rfl)
            have p2:wr.cell? ⟨b1,o1+j*12+2,none⟩=some (.slice P pn pc):=(hlo.cell (p:=⟨b1,o1+j*12+2,none⟩) hb1).trans (hp 2 _ rfl)
            have p3:wr.cell? ⟨b1,o1+j*12+3,none⟩=some (.int .i64 k0):=(hlo.cell (p:=⟨b1,o1+j*12+3,none⟩) hb1).trans (hp 3 _ rfl)
            have p4:wr.cell? ⟨b1,o1+j*12+4,none⟩=some (.int .i64 o0):=(hlo.cell (p:=⟨b1,o1+j*12+4,none⟩) hb1).trans (hp 4 _ rfl)
            have p5:wr.cell? ⟨b1,o1+j*12+5,none⟩=some (.int .i64 vk):=(hlo.cell (p:=⟨b1,o1+j*12+5,none⟩) hb1).trans (hp 5 _ rfl)
            have p6:wr.cell? ⟨b1,o1+j*12+6,none⟩=some (.int .i64 vn):=(hlo.cell (p:=⟨b1,o1+j*12+6,none⟩) hb1).trans (hp 6 _ rfl)
            have p7:wr.cell? ⟨b1,o1+j*12+7,none⟩=some (.string vs):=(hlo.cell (p:=⟨b1,o1+j*12+7,none⟩) hb1).trans (hp 7 _ rfl)
            have p8:wr.cell? ⟨b1,o1+j*12+8,none⟩=some (.string ns):=(hlo.cell (p:=⟨b1,o1+j*12+8,none⟩) hb1).trans (hp 8 _ rfl)
            have p9:wr.cell? ⟨b1,o1+j*12+9,none⟩=some (.slice A0 m0 c0):=(hlo.cell (p:=⟨b1,o1+j*12+9,none⟩) hb1).trans (hp 9 _ rfl)
            have p10:wr.cell? ⟨b1,o1+j*12+10,none⟩=some (.string (txt x.tbl)):=(hlo.cell (p:=⟨b1,o1+j*12+10,none⟩) hb1).trans (hp 10 _ rfl)
            have p11:wr.cell? ⟨b1,o1+j*12+11,none⟩=some (.slice Q qn qc):=(hlo.cell (p:=⟨b1,o1+j*12+11,none⟩) hb1).trans (hp 11 _ rfl)
            obtain ⟨W1,hW1⟩:∃W,wr.alloc (.cells #[.string (txt x.nm), .int .i64 x.kind, .slice P pn pc, .int .i64 k0, .int .i64 o0, .int .i64 vk, .int .i64 vn, .string vs, .string ns, .slice A0 m0 c0, .string (txt x.tbl), .slice Q qn qc] 56)=W:=⟨_,rfl⟩
            have hbw:Below wr.heap.size wr W1:=by rw [←hW1];exact al (Below.refl _ _) _
            have hbx:Bx wr.heap.size 56 #[.string (txt x.nm), .int .i64 x.kind, .slice P pn pc, .int .i64 k0, .int .i64 o0, .int .i64 vk, .int .i64 vn, .string vs, .string ns, .slice A0 m0 c0, .string (txt x.tbl), .slice Q qn qc] v W1:=⟨by rw [←hW1];exact Cel.new _ _ _ rfl,fun e=>by have:=(HE1.out.lt e).2;omega,by rw [←hW1];simp⟩
            have hts:TS V v (L4++(cons.take j).flatMap cnT) W1:=HE1.out.call hbw
            have q0:W1.cell? ⟨wr.heap.size,0,none⟩=some (.string (txt x.nm)):=hbx.1.at_ 0
            have q1:W1.cell? ⟨wr.heap.size,1,none⟩=some (.int .i64 x.kind):=hbx.1.at_ 1
            have q2:W1.cell? ⟨wr.heap.size,2,none⟩=some (.slice P pn pc):=hbx.1.at_ 2
            have q3:W1.cell? ⟨wr.heap.size,3,none⟩=some (.int .i64 k0):=hbx.1.at_ 3
            have q4:W1.cell? ⟨wr.heap.size,4,none⟩=some (.int .i64 o0):=hbx.1.at_ 4
            have q5:W1.cell? ⟨wr.heap.size,5,none⟩=some (.int .i64 vk):=hbx.1.at_ 5
            have q6:W1.cell? ⟨wr.heap.size,6,none⟩=some (.int .i64 vn):=hbx.1.at_ 6
            have q7:W1.cell? ⟨wr.heap.size,7,none⟩=some (.string vs):=hbx.1.at_ 7
            have q8:W1.cell? ⟨wr.heap.size,8,none⟩=some (.string ns):=hbx.1.at_ 8
            have q9:W1.cell? ⟨wr.heap.size,9,none⟩=some (.slice A0 m0 c0):=hbx.1.at_ 9
            have q10:W1.cell? ⟨wr.heap.size,10,none⟩=some (.string (txt x.tbl)):=hbx.1.at_ 10
            have q11:W1.cell? ⟨wr.heap.size,11,none⟩=some (.slice Q qn qc):=hbx.1.at_ 11
            have HC1:=Lib.hid (show pn=x.cols.length∧qn=x.refs.length from ⟨by have:=(isRow_ls (w:=V) (B:=V.heap.size) i1).1;rwa [List.length_map] at this,by have:=(isRow_ls (w:=V) (B:=V.heap.size) i3).1;rwa [List.length_map] at this⟩)
            have HBX:=Lib.hid hbx
            have HTS:=Lib.hid hts
            have HI1:=Lib.hid i1
            have HI2:=Lib.hid i2
            have HI3:=Lib.hid i3
            have HXJ:=Lib.hid hx
            have HBL:=Lib.hid (show ∀W,Below V.heap.size V W→Below w.heap.size w W from HE.out)
            have HLO:=Lib.hid hlo
            clear hp hb1 hA hx hlo hbw hbx hts i1 i2 i3 y5
            by_cases e1:12<pn
            · have t1:decide ((12:Int)<(pn:Int))=true:=decide_eq_true (by omega)
              go_wp2
              go_ret
              exact ⟨false,rfl,(fun g=>Bool.noConfusion g),HBL.out _ HTS.out.low⟩
            have t1:decide ((12:Int)<(pn:Int))=false:=decide_eq_false (by omega)
            by_cases e2:12<qn
            · have t2:decide ((12:Int)<(qn:Int))=true:=decide_eq_true (by omega)
              go_wp2
              go_ret
              exact ⟨false,rfl,(fun g=>Bool.noConfusion g),HBL.out _ HTS.out.low⟩
            have t2:decide ((12:Int)<(qn:Int))=false:=decide_eq_false (by omega)
            have HF1:=Lib.hid (show Calls Tryz.prog 21 #[.agg ([.int .i64 k0, .int .i64 o0, .int .i64 vk, .int .i64 vn, .string vs, .string ns, .slice A0 m0 c0]:List Value).toArray, .int .i64 60] W1 fun e w' =>e= .returned (.bool (cnt x.chk 60).isSome)∧Below W1.heap.size W1 w' from few_any x.chk _ 60 W1 (DtIn.to (w:=V) (w' :=W1) (S:=fun b=>b<V.heap.size) (S' :=fun b=>b<W1.heap.size) (fun b hb=>Nat.lt_of_lt_of_le hb HTS.out.low.size) (fun p hp=>HTS.out.low.cell hp) _ _ HI2.out) (by omega))
            cases hc:cnt x.chk 60 with
            | none=>
              rw [hc] at HF1
              go_wp2_with (go_at_call 21;(with_reducible refine HF1.out.mono ?_);rintro e1 w2 ⟨rfl,hb2⟩;have HB2:=Lib.hid (HTS.out.call hb2).low;clear hb2)
              go_ret
              exact ⟨false,rfl,(fun g=>Bool.noConfusion g),HBL.out _ HB2.out⟩
            | some mm=>
              rw [hc] at HF1
              have hcf:∀y∈cons.take (j+1),cnF y:=by
                intro y hy
                rw [List.take_add_one,HXJ.out] at hy
                rcases List.mem_append.1 hy with g|g
                · exact HE2.out y g
                · simp at g;subst g;exact ⟨by have:=HC1.out.1;omega,by have:=HC1.out.2;omega,_,hc⟩
              have HCF:=Lib.hid hcf
              clear hc hcf
              have HRP:=Lib.hid (show ∀W,Below V.heap.size V W→Row W V.heap.size P (x.cols.map str)∧x.cols.length=pn∧(P=none→pc=0) from fun W g=>row_str (IsRow.to (fun c g=>g) (fun p hp=>g.cell hp) HI1.out))
              have HRQ:=Lib.hid (show ∀W,Below V.heap.size V W→Row W V.heap.size Q (x.refs.map str)∧x.refs.length=qn∧(Q=none→qc=0) from fun W g=>row_str (IsRow.to (fun c g=>g) (fun p hp=>g.cell hp) HI3.out))
              have HJ:=Lib.hid (show j≤12∧pn≤12∧qn≤12 from ⟨by have:=D5.out;omega,by omega,by omega⟩)
              have HTK:=Lib.hid (show (cons.take (j+1)).flatMap cnT=(cons.take j).flatMap cnT++cnT x from by rw [List.take_add_one,HXJ.out,List.flatMap_append];simp)
              have HG:=Lib.hid (show ∀v' w',TS V v' ((((L4++(cons.take j).flatMap cnT)++ [x.nm,x.tbl])++x.cols)++x.refs) w' →TS V v' (L4++(cons.take (j+1)).flatMap cnT) w' from fun v' w' g=>by rw [HTK.out];simpa [cnT,List.append_assoc] using g)
              have HG3:=Lib.hid (show (L4++(cons.take (j+1)).flatMap cnT).length≤27+26*(j+1) from by have h1:=HE3.out;have h2:=HC1.out;have h3:=HJ.out;rw [HTK.out];simp only [List.length_append,cnT,List.length_cons,List.length_nil] at h1 ⊢;omega)
              clear e1 e2
              go_wp2_with (go_at_call 21;(with_reducible refine HF1.out.mono ?_))
              rintro e1 w2 ⟨rfl,hb2⟩
              have hbx2:=HBX.out.call hb2
              have hts2:=HTS.out.call hb2
              have r0:w2.cell? ⟨wr.heap.size,0,none⟩=some (.string (txt x.nm)):=hbx2.1.at_ 0
              have r10:w2.cell? ⟨wr.heap.size,10,none⟩=some (.string (txt x.tbl)):=hbx2.1.at_ 10
              obtain ⟨W3,hW3⟩:∃W,w2.alloc (.cells #[.string (txt x.nm), .string (txt x.tbl)] tS)=W:=⟨_,rfl⟩
              have hb3:Below w2.heap.size w2 W3:=by rw [←hW3];exact al (Below.refl _ _) _
              have HT3:=Lib.hid (hts2.call hb3)
              have HB3:=Lib.hid (hbx2.call hb3)
              have HR3:=Lib.hid (show Row W3 (w2.heap.size+1) (some ⟨w2.heap.size,0,none⟩) ([x.nm,x.tbl].map str) from by rw [←hW3];exact row_new w2 [x.nm,x.tbl])
              clear hb2 hb3 hbx2 hts2
              go_wp2_with (first|(at_builtin;refine wp_app HT3.out (.tmp 113) (.tmp 118) rfl rfl rfl rfl HR3.out rfl (fun e=>by cases e) (by have h1:=HE3.out;have h2:=HJ.out;omega) ?_;intro v4 w4 g1 g2 g3 g4;have HT4:=Lib.hid g1;have hbx4:=HB3.out.app g2 g3 g4;have r2:w4.cell? ⟨wr.heap.size,2,none⟩=some (.slice P pn pc):=hbx4.1.at_ 2;have HB4:=Lib.hid hbx4;have HR4:=Lib.hid (HRP.out w4 g1.low);clear g1 g2 g3 g4 hbx4)|(at_builtin;refine wp_app HT4.out (.tmp 120) (.tmp 122) rfl rfl rfl rfl HR4.out.1 HR4.out.2.1 HR4.out.2.2 (by have h1:=HE3.out;have h2:=HJ.out;simp only [List.length_append,List.length_cons,List.length_nil] at h1 ⊢;omega) ?_;intro v5 w5 g1 g2 g3 g4;have HT5:=Lib.hid g1;have hbx5:=HB4.out.app g2 g3 g4;have r11:w5.cell? ⟨wr.heap.size,11,none⟩=some (.slice Q qn qc):=hbx5.1.at_ 11;have HR5:=Lib.hid (HRQ.out w5 g1.low);clear g1 g2 g3 g4 hbx5)|(at_builtin;refine wp_app HT5.out (.tmp 124) (.tmp 126) rfl rfl rfl rfl HR5.out.1 HR5.out.2.1 HR5.out.2.2 (by have h1:=HE3.out;have h2:=HJ.out;have h3:=HC1.out;simp only [List.length_append,List.length_cons,List.length_nil] at h1 ⊢;omega) ?_;intro v6 w6 g1 g2 g3 g4;have HR:=Lib.hid (HG.out _ _ g1);clear g1 g2 g3 g4))
              go_roundw
              case rel=>exact ⟨j+1,_,by omega,by go_num,rfl,HR,HCF,HG3⟩
              case measure=>simp [intOf];omega
          · have tl : decide ((j:Int)<(f.n5:Int))=false:=decide_eq_false (by omega)
            obtain rfl:j=f.n5:=by omega
            obtain ⟨L5,hL5⟩:∃L,L4++cons.flatMap cnT=L:=⟨_,rfl⟩
            have hn5:f.n5=cons.length:=by have:=HL5.out.1;rwa [List.length_map] at this
            have T5:=Lib.hid (show TS V v L5 wr from by have h1:=HE1.out;rw [hn5,List.take_length,hL5] at h1;exact h1)
            have HCN:=Lib.hid (show ∀x∈cons,cnF x from by have h1:=HE2.out;rw [hn5,List.take_length] at h1;exact h1)
            have HM5:=Lib.hid (show L5.length≤400 from by have h1:=HE3.out;have h2:=D5.out;rw [hn5,List.take_length,hL5,←hn5] at h1;omega)
            have HL5E:=Lib.hid hL5
            clear hL5 hn5
            go_wp2
            clear HE1 HE2 HE3 hlo y5 hmx hj hlt tl T4 HM4
            go_loopw [7,8] (fun i _ wr=>∃j:Nat,j≤f.n7∧i= .int .i64 (j:Int)∧Hid (TS V v L5 wr)∧Hid (∀x∈rows.take j,∀e∈x,exF e)) (fun i _ _=>f.n7+1 - (intOf i).toNat)
            case atStart=>exact ⟨0,Nat.zero_le _,rfl,T5,Lib.hid (fun x hx=>by simp at hx)⟩
            case round=>
              obtain ⟨j,hj,rfl,HE1,HE2⟩:=hrel
              have hmx:f.n7≤2 ^ 63 - 1:=by have:=D7.out;omega
              have hlo:=HE1.out.low
              have HN7:=Lib.hid (show f.n7=rows.length from by have:=HL7.out.1;rwa [List.length_map] at this)
              by_cases hlt:j<f.n7
              · obtain ⟨x,hx⟩:=some_at HN7.out.symm hlt
                have tl:decide ((j:Int)<(f.n7:Int))=true:=decide_eq_true (by omega)
                obtain ⟨b1,o1,A1,m1,c1,hA,hb1,p0,i1⟩:=rw_at HL7.out.2.2 hx
                obtain ⟨u,hu,hrr⟩:=row_is.1 i1
                injection hu with hu
                subst hu
                have HRW:=Lib.hid (isRow_ls (w:=V) (B:=V.heap.size) hrr)
                have HM:=Lib.hid (show ∀W,Below V.heap.size V W→W.cell? ⟨w.heap.size,7,none⟩=some (.slice (some ⟨b1,o1,none⟩) f.n7 f.a7)∧W.cell? ⟨b1,o1+j,none⟩=some (.slice A1 m1 c1) from fun W g=>⟨(show W.cell? ⟨w.heap.size,7,none⟩=some (.slice f.A7 f.n7 f.a7) from HX.out.at_ g 7).trans (by rw [hA]),(g.cell (p:=⟨b1,o1+j,none⟩) hb1).trans p0⟩)
                obtain ⟨y7,q0⟩:=HM.out wr hlo
                have HXJ:=Lib.hid hx
                clear hA hb1 p0 i1 hrr hx
                by_cases e1:12<m1
                · have t1:decide ((12:Int)<(m1:Int))=true:=decide_eq_true (by omega)
                  go_wp2
                  go_ret
                  first|exact ⟨false,rfl,(fun g=>Bool.noConfusion g),HE.out _ hlo⟩|exact .inl ⟨rfl,HE.out _ hlo⟩
                have t1:decide ((12:Int)<(m1:Int))=false:=decide_eq_false (by omega)
                have hmy:m1≤2 ^ 63 - 1:=by omega
                go_wp2
                clear y7 q0
                go_loopw [8] (fun i wr=>∃q:Nat,q≤m1∧i= .int .i64 (q:Int)∧Hid (TS V v L5 wr)∧Hid (∀e∈x.take q,exF e)) (fun i _=>m1+1 - (intOf i).toNat)
                case atStart=>exact ⟨0,Nat.zero_le _,rfl,HE1,Lib.hid (fun x hx=>by simp at hx)⟩
                case round=>
                  obtain ⟨q,hq,rfl,HG1,HG2⟩:=hrel
                  have hlo2:=HG1.out.low
                  have HM1:=Lib.hid (show m1=x.length from by have:=HRW.out.1;rwa [List.length_map] at this)
                  obtain ⟨y7,q0⟩:=HM.out wr hlo2
                  by_cases hlq:q<m1
                  · obtain ⟨e,he⟩:=some_at HM1.out.symm hlq
                    have tq:decide ((q:Int)<(m1:Int))=true:=decide_eq_true (by omega)
                    obtain ⟨b2,o2,k0,o0,vk,vn,vs,ns,A0,m0,c0,hA2,hb2,hp,ie⟩:=ex_at2 HRW.out.2.2 he
                    have q1:wr.cell? ⟨b1,o1+j,none⟩=some (.slice (some ⟨b2,o2,none⟩) m1 c1):=q0.trans (by rw [hA2])
                    have p0:wr.cell? ⟨b2,o2+q*7,none⟩=some (.int .i64 k0):=(hlo2.cell (p:=⟨b2,o2+q*7,none⟩) hb2).trans (hp 0 _ rfl)
                    have p1:wr.cell? ⟨b2,o2+q*7+1,none⟩=some (.int .i64 o0):=(hlo2.cell (p:=⟨b2,o2+q*7+1,none⟩) hb2).trans (hp 1 _ rfl)
                    have p2:wr.cell? ⟨b2,o2+q*7+2,none⟩=some (.int .i64 vk):=(hlo2.cell (p:=⟨b2,o2+q*7+2,none⟩) hb2).trans (hp 2 _ rfl)
                    have p3:wr.cell? ⟨b2,o2+q*7+3,none⟩=some (.int .i64 vn):=(hlo2.cell (p:=⟨b2,o2+q*7+3,none⟩) hb2).trans (hp 3 _ rfl)
                    have p4:wr.cell? ⟨b2,o2+q*7+4,none⟩=some (.string vs):=(hlo2.cell (p:=⟨b2,o2+q*7+4,none⟩) hb2).trans (hp 4 _ rfl)
                    have p5:wr.cell? ⟨b2,o2+q*7+5,none⟩=some (.string ns):=(hlo2.cell (p:=⟨b2,o2+q*7+5,none⟩) hb2).trans (hp 5 _ rfl)
                    have p6:wr.cell? ⟨b2,o2+q*7+6,none⟩=some (.slice A0 m0 c0):=(hlo2.cell (p:=⟨b2,o2+q*7+6,none⟩) hb2).trans (hp 6 _ rfl)
                    have HF1:=Lib.hid (show Calls Tryz.prog 21 #[.agg ([.int .i64 k0, .int .i64 o0, .int .i64 vk, .int .i64 vn, .string vs, .string ns, .slice A0 m0 c0]:List Value).toArray, .int .i64 60] wr fun z w' =>z= .returned (.bool (cnt e 60).isSome)∧Below wr.heap.size wr w' from few_any e _ 60 wr (DtIn.to (w:=V) (w' :=wr) (S:=fun b=>b<V.heap.size) (S' :=fun b=>b<wr.heap.size) (fun b hb=>Nat.lt_of_lt_of_le hb hlo2.size) (fun p hp=>hlo2.cell hp) _ _ ie) (by omega))
                    have HLO:=Lib.hid hlo2
                    have HEJ:=Lib.hid he
                    clear q0 hA2 hb2 hp ie he hlo2
                    cases hc:cnt e 60 with
                    | none=>
                      rw [hc] at HF1
                      go_wp2_with (go_at_call 21;(with_reducible refine HF1.out.mono ?_);rintro e2 w2 ⟨rfl,hb2⟩;have HB2:=Lib.hid (HG1.out.call hb2).low;clear hb2)
                      go_ret
                      first|exact ⟨false,rfl,(fun g=>Bool.noConfusion g),HE.out _ HB2.out⟩|exact .inl ⟨rfl,HE.out _ HB2.out⟩
                    | some mm=>
                      rw [hc] at HF1
                      have hcf:∀y∈x.take (q+1),exF y:=by
                        intro y hy
                        rw [List.take_add_one,HEJ.out] at hy
                        rcases List.mem_append.1 hy with g|g
                        · exact HG2.out y g
                        · simp at g;subst g;exact ⟨_,hc⟩
                      have HCF:=Lib.hid hcf
                      clear hc hcf
                      go_wp2_with (go_at_call 21;(with_reducible refine HF1.out.mono ?_);rintro e2 w2 ⟨rfl,hb2⟩;have HR:=Lib.hid (HG1.out.call hb2);clear hb2)
                      go_roundw
                      case rel=>exact ⟨q+1,by omega,by go_num,HR,HCF⟩
                      case measure=>simp [intOf];omega
                  · have tq:decide ((q:Int)<(m1:Int))=false:=decide_eq_false (by omega)
                    obtain rfl:q=m1:=by omega
                    have hcf:∀y∈rows.take (j+1),∀e∈y,exF e:=by
                      intro y hy
                      rw [List.take_add_one,HXJ.out] at hy
                      rcases List.mem_append.1 hy with g|g
                      · exact HE2.out y g
                      · simp at g;subst g;intro e he;have h1:=HG2.out;rw [HM1.out,List.take_length] at h1;exact h1 e he
                    have HCF:=Lib.hid hcf
                    clear hcf
                    go_wp2
                    go_roundw
                    case rel=>exact ⟨j+1,by omega,by go_num,HG1,HCF⟩
                    case measure=>simp [intOf];omega
              · have tl : decide ((j:Int)<(f.n7:Int))=false:=decide_eq_false (by omega)
                have y7:wr.cell? ⟨w.heap.size,7,none⟩=some (.slice f.A7 f.n7 f.a7):=HX.out.at_ hlo 7
                obtain rfl:j=f.n7:=by omega
                have HRO:=Lib.hid (show ∀x∈rows,∀e∈x,exF e from by have h1:=HE2.out;rw [HN7.out,List.take_length] at h1;exact h1)
                have T6:=HE1
                go_wp2
                clear HE1 HE2 hlo y7 hmx hj hlt tl T5 HN7
                go_loopw [9,3] (fun i u wr=>∃(j:Nat) (v:Value),j≤f.n9∧i= .int .i64 (j:Int)∧v=u∧Hid (TS V v (L5++(sets.take j).map (·.1)) wr)∧Hid (∀x∈sets.take j,exF x.2)) (fun i _ _=>f.n9+1 - (intOf i).toNat)
                case atStart=>exact ⟨0,_,Nat.zero_le _,rfl,rfl,by rw [List.take_zero,List.map_nil,List.append_nil];exact T6,Lib.hid (fun x hx=>by simp at hx)⟩
                case round=>
                  obtain ⟨j,v,hj,rfl,rfl,HE1,HE2⟩:=hrel
                  have hmx:f.n9≤2 ^ 63 - 1:=by have:=D15.out;omega
                  have hlo:=HE1.out.low
                  have HN9:=Lib.hid (show f.n9=sets.length from by have:=HL9.out.1;rwa [List.length_map] at this)
                  by_cases hlt:j<f.n9
                  · obtain ⟨x,hx⟩:=some_at HN9.out.symm hlt
                    have tl:decide ((j:Int)<(f.n9:Int))=true:=decide_eq_true (by omega)
                    obtain ⟨b1,o1,k0,o0,vk,vn,vs,ns,A0,m0,c0,hA,hb1,hp,ie⟩:=se_at2 HL9.out.2.2 hx
                    have HM:=Lib.hid (show ∀W,Below V.heap.size V W→W.cell? ⟨w.heap.size,15,none⟩=some (.slice (some ⟨b1,o1,none⟩) f.n9 f.a9)∧W.cell? ⟨b1,o1+j*8,none⟩=some (.string (txt x.1))∧W.cell? ⟨b1,o1+j*8+1,none⟩=some (.int .i64 k0)∧W.cell? ⟨b1,o1+j*8+2,none⟩=some (.int .i64 o0)∧W.cell? ⟨b1,o1+j*8+3,none⟩=some (.int .i64 vk)∧W.cell? ⟨b1,o1+j*8+4,none⟩=some (.int .i64 vn)∧W.cell? ⟨b1,o1+j*8+5,none⟩=some (.string vs)∧W.cell? ⟨b1,o1+j*8+6,none⟩=some (.string ns)∧W.cell? ⟨b1,o1+j*8+7,none⟩=some (.slice A0 m0 c0) from fun W g=>⟨(show W.cell? ⟨w.heap.size,15,none⟩=some (.slice f.A9 f.n9 f.a9) from HX.out.at_ g 15).trans (by rw [hA]),(g.cell (p:=⟨b1,o1+j*8,none⟩) hb1).trans (hp 0 _ rfl),(g.cell (p:=⟨b1,o1+j*8+1,none⟩) hb1).trans (hp 1 _ rfl),(g.cell (p:=⟨b1,o1+j*8+2,none⟩) hb1).trans (hp 2 _ rfl),(g.cell (p:=⟨b1,o1+j*8+3,none⟩) hb1).trans (hp 3 _ rfl),(g.cell (p:=⟨b1,o1+j*8+4,none⟩) hb1).trans (hp 4 _ rfl),(g.cell (p:=⟨b1,o1+j*8+5,none⟩) hb1).trans (hp 5 _ rfl),(g.cell (p:=⟨b1,o1+j*8+6,none⟩) hb1).trans (hp 6 _ rfl),(g.cell (p:=⟨b1,o1+j*8+7,none⟩) hb1).trans (hp 7 _ rfl)⟩)
                    obtain ⟨z15,p0, -, -, -, -, -, -, -⟩:=HM.out wr hlo
                    obtain ⟨W2,hW2⟩:∃W,wr.alloc (.cells #[.string (txt x.1)] tS)=W:=⟨_,rfl⟩
                    have HT2:=Lib.hid (show TS V v (L5++(sets.take j).map (·.1)) W2 from by rw [←hW2];exact HE1.out.call (al (Below.refl _ _) _))
                    have HR2:=Lib.hid (show Row W2 (wr.heap.size+1) (some ⟨wr.heap.size,0,none⟩) ([x.1].map str) from by rw [←hW2];exact row_new wr [x.1])
                    have HLN:=Lib.hid (show (L5++(sets.take j).map (·.1)).length+1≤100000 from by have h1:=HM5.out;have h2:=D15.out;simp only [List.length_append,List.length_map,List.length_take];omega)
                    have HSN:=Lib.hid (show ∀v' w',TS V v' ((L5++(sets.take j).map (·.1))++ [x.1]) w' →TS V v' (L5++(sets.take (j+1)).map (·.1)) w' from fun v' w' g=>by rw [take_map_on hx,←List.append_assoc];exact g)
                    have HXJ:=Lib.hid hx
                    have HIE:=Lib.hid ie
                    clear hlo hA hb1 hp ie hx
                    go_wp2_with (at_builtin;refine wp_app HT2.out (.tmp 169) (.tmp 176) rfl rfl rfl rfl HR2.out rfl (fun e=>by cases e) HLN.out ?_;intro v3 w3 g1 g2 g3 g4;have HT3:=Lib.hid (HSN.out _ _ g1);obtain ⟨m15, -,n0,n1,n2,n3,n4,n5,n6⟩:=HM.out w3 g1.low;have HB3:=Lib.hid g1.low;clear g1 g2 g3 g4)
                    have HF1:=Lib.hid (show Calls Tryz.prog 21 #[.agg ([.int .i64 k0, .int .i64 o0, .int .i64 vk, .int .i64 vn, .string vs, .string ns, .slice A0 m0 c0]:List Value).toArray, .int .i64 60] w3 fun z w' =>z= .returned (.bool (cnt x.2 60).isSome)∧Below w3.heap.size w3 w' from few_any x.2 _ 60 w3 (DtIn.to (w:=V) (w' :=w3) (S:=fun b=>b<V.heap.size) (S' :=fun b=>b<w3.heap.size) (fun b hb=>Nat.lt_of_lt_of_le hb HB3.out.size) (fun p hp=>HB3.out.cell hp) _ _ HIE.out) (by omega))
                    cases hc:cnt x.2 60 with
                    | none=>
                      rw [hc] at HF1
                      go_wp2_with (go_at_call 21;(with_reducible refine HF1.out.mono ?_);rintro e2 w2 ⟨rfl,hb2⟩;have HB2:=Lib.hid (HT3.out.call hb2).low;clear hb2)
                      go_ret
                      first|exact ⟨false,rfl,(fun g=>Bool.noConfusion g),HE.out _ HB2.out⟩|exact .inl ⟨rfl,HE.out _ HB2.out⟩
                    | some mm=>
                      rw [hc] at HF1
                      have hcf:∀y∈sets.take (j+1),exF y.2:=by
                        intro y hy
                        rw [List.take_add_one,HXJ.out] at hy
                        rcases List.mem_append.1 hy with g|g
                        · exact HE2.out y g
                        · simp at g;subst g;exact ⟨_,hc⟩
                      have HCF:=Lib.hid hcf
                      clear hc hcf
                      go_wp2_with (go_at_call 21;(with_reducible refine HF1.out.mono ?_);rintro e2 w2 ⟨rfl,hb2⟩;have HR:=Lib.hid (HT3.out.call hb2);clear hb2)
                      go_roundw
                      case rel=>exact ⟨j+1,_,by omega,by go_num,rfl,HR,HCF⟩
                      case measure=>simp [intOf];omega
                  · have tl : decide ((j:Int)<(f.n9:Int))=false:=decide_eq_false (by omega)
                    have y15:wr.cell? ⟨w.heap.size,15,none⟩=some (.slice f.A9 f.n9 f.a9):=HX.out.at_ hlo 15
                    obtain rfl:j=f.n9:=by omega
                    obtain ⟨L7,hL7⟩:∃L,L5++sets.map (·.1)=L:=⟨_,rfl⟩
                    have T7:=Lib.hid (show TS V v L7 wr from by have h1:=HE1.out;rw [HN9.out,List.take_length,hL7] at h1;exact h1)
                    have HSE:=Lib.hid (show ∀x∈sets,exF x.2 from by have h1:=HE2.out;rw [HN9.out,List.take_length] at h1;exact h1)
                    have HM7:=Lib.hid (show L7.length≤500 from by have h1:=HM5.out;have h2:=D15.out;rw [HN9.out] at h2;rw [←hL7,List.length_append,List.length_map];omega)
                    have HL7E:=Lib.hid hL7
                    clear hL7
                    go_wp2
                    clear HE1 HE2 hlo y15 hmx hj hlt tl T6 HN9
                    go_loopw [10] (fun i wr=>∃j:Nat,j≤f.n10∧i= .int .i64 (j:Int)∧Hid (TS V v L7 wr)∧Hid (∀x∈order.take j,exF x.1)) (fun i _=>f.n10+1 - (intOf i).toNat)
                    case atStart=>exact ⟨0,Nat.zero_le _,rfl,T7,Lib.hid (fun x hx=>by simp at hx)⟩
                    case round=>
                      obtain ⟨j,hj,rfl,HE1,HE2⟩:=hrel
                      have hmx:f.n10≤2 ^ 63 - 1:=by have:=D16.out;omega
                      have hlo:=HE1.out.low
                      have HN10:=Lib.hid (show f.n10=order.length from by have:=HL10.out.1;rwa [List.length_map] at this)
                      by_cases hlt:j<f.n10
                      · obtain ⟨x,hx⟩:=some_at HN10.out.symm hlt
                        have tl:decide ((j:Int)<(f.n10:Int))=true:=decide_eq_true (by omega)
                        obtain ⟨b1,o1,k0,o0,vk,vn,vs,ns,A0,m0,c0,hA,hb1,hp,ie⟩:=or_at2 HL10.out.2.2 hx
                        have z16:wr.cell? ⟨w.heap.size,16,none⟩=some (.slice (some ⟨b1,o1,none⟩) f.n10 f.a10):=(show wr.cell? ⟨w.heap.size,16,none⟩=some (.slice f.A10 f.n10 f.a10) from HX.out.at_ hlo 16).trans (by rw [hA])
                        have p0:wr.cell? ⟨b1,o1+j*8,none⟩=some (.int .i64 k0):=(hlo.cell (p:=⟨b1,o1+j*8,none⟩) hb1).trans (hp 0 _ rfl)
                        have p1:wr.cell? ⟨b1,o1+j*8+1,none⟩=some (.int .i64 o0):=(hlo.cell (p:=⟨b1,o1+j*8+1,none⟩) hb1).trans (hp 1 _ rfl)
                        have p2:wr.cell? ⟨b1,o1+j*8+2,none⟩=some (.int .i64 vk):=(hlo.cell (p:=⟨b1,o1+j*8+2,none⟩) hb1).trans (hp 2 _ rfl)
                        have p3:wr.cell? ⟨b1,o1+j*8+3,none⟩=some (.int .i64 vn):=(hlo.cell (p:=⟨b1,o1+j*8+3,none⟩) hb1).trans (hp 3 _ rfl)
                        have p4:wr.cell? ⟨b1,o1+j*8+4,none⟩=some (.string vs):=(hlo.cell (p:=⟨b1,o1+j*8+4,none⟩) hb1).trans (hp 4 _ rfl)
                        have p5:wr.cell? ⟨b1,o1+j*8+5,none⟩=some (.string ns):=(hlo.cell (p:=⟨b1,o1+j*8+5,none⟩) hb1).trans (hp 5 _ rfl)
                        have p6:wr.cell? ⟨b1,o1+j*8+6,none⟩=some (.slice A0 m0 c0):=(hlo.cell (p:=⟨b1,o1+j*8+6,none⟩) hb1).trans (hp 6 _ rfl)
                        have HF1:=Lib.hid (show Calls Tryz.prog 21 #[.agg ([.int .i64 k0, .int .i64 o0, .int .i64 vk, .int .i64 vn, .string vs, .string ns, .slice A0 m0 c0]:List Value).toArray, .int .i64 60] wr fun z w' =>z= .returned (.bool (cnt x.1 60).isSome)∧Below wr.heap.size wr w' from few_any x.1 _ 60 wr (DtIn.to (w:=V) (w' :=wr) (S:=fun b=>b<V.heap.size) (S' :=fun b=>b<wr.heap.size) (fun b hb=>Nat.lt_of_lt_of_le hb hlo.size) (fun p hp=>hlo.cell hp) _ _ ie) (by omega))
                        have HXJ:=Lib.hid hx
                        clear hlo hA hb1 hp ie hx
                        cases hc:cnt x.1 60 with
                        | none=>
                          rw [hc] at HF1
                          go_wp2_with (go_at_call 21;(with_reducible refine HF1.out.mono ?_);rintro e2 w2 ⟨rfl,hb2⟩;have HB2:=Lib.hid (HE1.out.call hb2).low;clear hb2)
                          go_ret
                          first|exact ⟨false,rfl,(fun g=>Bool.noConfusion g),HE.out _ HB2.out⟩|exact .inl ⟨rfl,HE.out _ HB2.out⟩
                        | some mm=>
                          rw [hc] at HF1
                          have hcf:∀y∈order.take (j+1),exF y.1:=by
                            intro y hy
                            rw [List.take_add_one,HXJ.out] at hy
                            rcases List.mem_append.1 hy with g|g
                            · exact HE2.out y g
                            · simp at g;subst g;exact ⟨_,hc⟩
                          have HCF:=Lib.hid hcf
                          clear hc hcf
                          go_wp2_with (go_at_call 21;(with_reducible refine HF1.out.mono ?_);rintro e2 w2 ⟨rfl,hb2⟩;have HR:=Lib.hid (HE1.out.call hb2);clear hb2)
                          go_roundw
                          case rel=>exact ⟨j+1,by omega,by go_num,HR,HCF⟩
                          case measure=>simp [intOf];omega
                      · have tl :decide ((j:Int)<(f.n10:Int))=false:=decide_eq_false (by omega)
                        have y16:wr.cell? ⟨w.heap.size,16,none⟩=some (.slice f.A10 f.n10 f.a10):=HX.out.at_ hlo 16
                        obtain rfl:j=f.n10:=by omega
                        have HOR:=Lib.hid (show ∀x∈order,exF x.1 from by have h1:=HE2.out;rw [HN10.out,List.take_length] at h1;exact h1)
                        have T8:=HE1
                        obtain ⟨AT,cT,hvT,hrT⟩:=T8.out.form
                        subst hvT
                        have HRT:=Lib.hid hrT
                        clear hrT
                        go_wp2
                        clear HE1 HE2 hlo y16 hmx hj hlt tl T7 HN10
                        go_loop [11] (fun i=>∃j:Nat,j≤L7.length∧i= .int .i64 (j:Int)∧Hid (∀x∈L7.take j,tF x)) (fun i=>L7.length+1 - (intOf i).toNat)
                        case atStart=>exact ⟨0,Nat.zero_le _,rfl,Lib.hid (fun x hx=>by simp at hx)⟩
                        case round=>
                          obtain ⟨j,hj,rfl,HE2⟩:=hrel
                          have hmx:L7.length≤2 ^ 63 - 1:=by have:=HM7.out;omega
                          by_cases hlt:j<L7.length
                          · obtain ⟨x,hx⟩:=some_at rfl hlt
                            have tl:decide ((j:Int)<(L7.length:Int))=true:=decide_eq_true (by omega)
                            have tl2:decide (j<L7.length)=true:=decide_eq_true hlt
                            obtain ⟨b1,o1,hA,hb1,p0⟩:=HRT.out j (str x) (by rw [List.getElem?_map,hx];rfl)
                            subst hA
                            have HXJ:=Lib.hid hx
                            obtain ⟨sx,hsx⟩:∃s,txt x=s:=⟨_,rfl⟩
                            have hsz:sx.size=x.length:=by rw [←hsx];rfl
                            have HSZ:=Lib.hid hsz
                            unfold str at p0
                            rw [hsx] at p0
                            clear hx hsx hsz
                            by_cases e1:100<sx.size
                            · have t1:decide ((100:Int)<(sx.size:Int))=true:=decide_eq_true (by omega)
                              have t2:decide (100<sx.size)=true:=decide_eq_true e1
                              go_wp2
                              go_ret
                              first|exact ⟨false,rfl,(fun g=>Bool.noConfusion g),HE.out _ T8.out.low⟩|exact .inl ⟨rfl,HE.out _ T8.out.low⟩
                            · have t1:decide ((100:Int)<(sx.size:Int))=false:=decide_eq_false (by omega)
                              have t2:decide (100<sx.size)=false:=decide_eq_false e1
                              have hcf:∀y∈L7.take (j+1),tF y:=by
                                intro y hy
                                rw [List.take_add_one,HXJ.out] at hy
                                rcases List.mem_append.1 hy with g|g
                                · exact HE2.out y g
                                · simp at g;subst g;unfold tF;have:=HSZ.out;omega
                              have HCF:=Lib.hid hcf
                              clear hcf
                              go_wp2
                              go_round
                              case rel=>exact ⟨j+1,by omega,by go_num,HCF⟩
                              case measure=>simp [intOf];omega
                          · have tl:decide ((j:Int)<(L7.length:Int))=false:=decide_eq_false (by omega)
                            have tl2:decide (j<L7.length)=false:=decide_eq_false hlt
                            obtain rfl:j=L7.length:=by omega
                            have HTF:=Lib.hid (show ∀x∈L7,tF x from by have h1:=HE2.out;rw [List.take_length] at h1;exact h1)
                            have HFW:=Lib.hid (show FwO (.mk k t n r cols cons names rows wh sets order limit priv opt kids) from few_own HTF.out HL7E.out HL5E.out HL4E.out HCN.out HRO.out (HC.out) HSE.out HOR.out)
                            have HK14:=Lib.hid (HL14.out.below T8.out.low)
                            clear HE2 hmx hj hlt
                            cases kids with
                            | nil=>
                              have y20:wr.cell? ⟨w.heap.size,20,none⟩=some (.slice f.A14 0 f.a14):=(show wr.cell? ⟨w.heap.size,20,none⟩=some (.slice f.A14 f.n14 f.a14) from HX.out.at_ T8.out.low 20).trans (by rw [show f.n14=0 from by have:=HL14.out.1;simpa using this])
                              go_wp2
                              go_ret
                              exact ⟨true,rfl,fun _=>⟨HFW.out,fun y hy=>by cases hy⟩,HE.out _ T8.out.low⟩
                            | cons y ys=>
                              have hys:ys= []:=by have h1:=HL14.out.1;have h2:=D20.out;rw [h1] at h2;simp at h2;exact h2
                              subst hys
                              obtain ⟨b1,z1,cs1,hA,hb1,at1,in1⟩:=kid_at HK14.out.2.2 (show [y][0]?=some y from rfl)
                              obtain ⟨g,rfl⟩:=fl_of in1
                              have hn1:f.n14=1:=by have:=HL14.out.1;simpa using this
                              have y20:wr.cell? ⟨w.heap.size,20,none⟩=some (.slice (some ⟨b1,z1,none⟩) 1 f.a14):=(show wr.cell? ⟨w.heap.size,20,none⟩=some (.slice f.A14 f.n14 f.a14) from HX.out.at_ T8.out.low 20).trans (by rw [hA,hn1])
                              have k20:wr.cell? ⟨b1,z1+20,none⟩=some (.slice g.A14 g.n14 g.a14):=by have:=at1 20 _ rfl;simpa using this
                              have HAT:=Lib.hid (show At wr b1 z1 g.cells from fun i v hv=>by have:=at1 i v hv;simpa using this)
                              have HKN:=Lib.hid (show g.n14=(kidsS y).length from by obtain ⟨k',t',n',r',cols',cons',names',rows',wh',sets',order',limit',priv',opt',kids'⟩:=y;have:=(FlIn.all in1).2.2.2.2.2.2.2.2.1;simpa [kidsS] using this)
                              have HC2:=Lib.hid (IH.out y (by simp) g.cells wr (DtIn.to (S' :=fun b=>b<wr.heap.size) (fun b hb=>Nat.lt_of_lt_of_le hb T8.out.low.size) (fun p hp=>rfl) _ _ in1))
                              clear hA hn1 at1 in1 hb1
                              by_cases e1:g.n14=0
                              · have HKZ:=Lib.hid (show kidsS y= [] from List.length_eq_zero_iff.1 (HKN.out.symm.trans e1))
                                rw [e1] at k20
                                clear e1
                                go_wp2_with (first|(refine load_stmt_on (by rfl) _ rfl b1 z1 rfl g.cells HAT.out rfl ?_)|(go_at_call 8;(with_reducible refine HC2.out.mono ?_);rintro e2 w2 ⟨b,rfl,hbt,hb2⟩;have HR:=Lib.hid (And.intro hbt (T8.out.low.trans (hb2.mono T8.out.low.size)));clear hbt hb2))
                                go_ret
                                refine ⟨b,rfl,fun hb=>⟨HFW.out,fun z hz=>?_⟩,HE.out _ HR.out.2⟩
                                obtain rfl:z=y:=by simpa [kidsS] using hz
                                exact ⟨(HR.out.1 hb).1,HKZ.out⟩
                              · have t1:((g.n14:Int)==0)=false:=by simpa using e1
                                have t2:(g.n14==0)=false:=by simpa using e1
                                clear e1
                                go_wp2
                                go_ret
                                exact ⟨false,rfl,(fun g=>Bool.noConfusion g),HE.out _ T8.out.low⟩
end Go.Proofs.YtiaomhdmllhmmaaGreatDoor.Sm
