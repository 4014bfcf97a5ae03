/- A writer's calls for a column and a constraint. -/
import Derived.Test.YtiaomhdmllhmmaaGreatDoorK27
namespace Go.Proofs.YtiaomhdmllhmmaaGreatDoor.Sm
open Go.RowKit Mem Ep Right Lx Go.ChangeShapes Go.WideShapes
set_option linter.unusedVariables false
theorem typeV_txt (k:Int):typeV k=Ep.txt (tyW k):=by
 unfold typeV tyW
 split
 · rfl
 · split
   · rfl
   · split
     · rfl
     · rfl
theorem privV_txt (k:Int):privV k=Ep.txt (prW k):=by
  unfold privV prW
  split
  · rfl
  · split
    · rfl
    · split
      · rfl
      · split
        · rfl
        · rfl
section
variable {w w' :World} {b:Nat} {l:List UInt8} {lg:Bool}
theorem tx_co1 (xn:Bs) (xt:Int):tx (coP ⟨xn,xt,true⟩)=List.flatten [xn, [32],tyW xt]++List.flatten [[32,78,79,84,32,78,85,76,76]]:=by
 unfold coP
 show xn++(32::(tyW xt++ [32,78,79,84,32,78,85,76,76]))=_
 simp
theorem tx_co0 (xn:Bs) (xt:Int):tx (coP ⟨xn,xt,false⟩)=List.flatten [xn, [32],tyW xt]:=by
 unfold coP
 show xn++(32::(tyW xt++ []))=_
 simp
set_option maxRecDepth 100000 in
set_option maxHeartbeats 2000000 in
theorem wcolumn_any {x:Co} {cs:List Value} (hx:DtIn w (fun c=>c<b) (coDt x) cs) (h:Ww b l lg w) (HL:l.length+(tx (coP x)).length≤1000000000):
   Calls Tryz.prog 74 #[.pointer (some ⟨b,0,none⟩), .agg cs.toArray] w (WDid b l lg (tx (coP x)) w):=by
 rw [co_in] at hx
 subst hx
 obtain ⟨xn,xt,xb⟩:=x
 cases xb with
 | true=>
   show Calls Tryz.prog 74 #[.pointer (some ⟨b,0,none⟩), .agg #[.string (Ep.txt xn), .int .i64 xt, .bool true]] w _
   obtain ⟨W1,hW1⟩:∃W1,w.alloc (.cells #[.string (Ep.txt xn), .int .i64 xt, .bool true] 54)=W1:=⟨_,rfl⟩
   have hb:Below w.heap.size w W1:=by rw [←hW1];exact al (Below.refl _ _) _
   have x0:Cel W1 w.heap.size 54 #[.string (Ep.txt xn), .int .i64 xt, .bool true]:=by rw [←hW1];exact Cel.new _ _ _ rfl
   have hlb:=h.lt
   have hw1:Ww b l lg W1.drew:=(h.below hb).drew
   have hr1:Wr b w W1.drew:=(Wr.of hb (Nat.le_of_lt hlb)).drewN 1
   have HLEN:=Lib.hid (show l.length+(List.flatten [xn, [32],tyW xt]++List.flatten [[32,78,79,84,32,78,85,76,76]]).length≤1000000000 by rw [←tx_co1];exact HL)
   have y0_0:W1.cell? ⟨w.heap.size,0,none⟩=some (.string (Ep.txt xn)):=x0.at_ 0
   have y0_1:W1.cell? ⟨w.heap.size,1,none⟩=some (.int .i64 xt):=x0.at_ 1
   have y0_2:W1.cell? ⟨w.heap.size,2,none⟩=some (.bool true):=x0.at_ 2
   have HT:=Lib.hid (show ∀W,Calls Tryz.prog 13 #[.int .i64 xt] W fun e w' =>e= .returned (.string (Ep.txt (tyW xt)))∧W=w' from fun W=>by rw [←typeV_txt];exact type_any xt W)
   have HS:=Lib.hid (show Calls Tryz.prog 73 #[.pointer (some ⟨b,0,none⟩), .slice (some ⟨W1.heap.size,0,none⟩) 3 3] (W1.drew.alloc (.cells #[.string (Ep.txt xn), .string ⟨#[32]⟩, .string (Ep.txt (tyW xt))] tS)) (fun e w' =>e= .returned (.tuple #[])∧∃l' lg',Ww b l' lg' w' ∧Wr b w w' ∧Wt lg l (List.flatten [xn, [32],tyW xt]) lg' l' ∧Cel w' w.heap.size 54 #[.string (Ep.txt xn), .int .i64 xt, .bool true]) from (saying [xn, [32],tyW xt] hw1 (by simp) (by have h2:=HLEN.out;first|(simp only [List.length_append] at h2;omega)|omega)).mono fun e w' d=>(by
     obtain ⟨d1,l',lg',d2,d3,d4⟩:=d
     exact ⟨d1,l',lg',d2,hr1.trans d3,d4,d3.cel (by omega) (by decide) (show Cel W1.drew w.heap.size 54 #[.string (Ep.txt xn), .int .i64 xt, .bool true] from x0)⟩))
   clear h HL hb hw1 hr1 x0
   go_enter Tryz.func74,Tryz.ntmps74
   go_wp2
   go_region_with ((first|(go_at_call 13;(with_reducible refine (HT.out _).mono ?_);rintro e1 w1 ⟨rfl,rfl⟩)|(go_at_call 73;refine HS.out.mono ?_;rintro e1 w1 ⟨rfl,l1,lg1,g1,g2,g3,g4⟩;have W1:=Lib.hid g1;have R1:=Lib.hid g2;have T1:=Lib.hid (show Wt lg l ([]++(List.flatten [xn, [32],tyW xt])) lg1 l1 from g3);have z2:w1.cell? ⟨w.heap.size,2,none⟩=some (.bool true):=g4.at_ 2;clear g1 g2 g3 g4)))
   all_goals
     have H1:=Lib.hid (show Calls Tryz.prog 73 #[.pointer (some ⟨b,0,none⟩), .slice (some ⟨w1.heap.size,0,none⟩) 1 1] (w1.alloc (.cells #[.string ⟨#[32,78,79,84,32,78,85,76,76]⟩] tS)) (WDid b l1 lg1 (List.flatten [[32,78,79,84,32,78,85,76,76]]) w1) from saying [[32,78,79,84,32,78,85,76,76]] W1.out (by simp) (by have h1:=T1.out.len;have h2:=HLEN.out;simp only [List.length_append,List.length_nil] at h1 h2 ⊢;omega))
     go_wp2_with (go_at_call 73;(with_reducible refine H1.out.mono ?_))
     rintro e2 w2 ⟨rfl,l2,lg2,g1,g2,g3⟩
     have W2:=Lib.hid g1
     have R2:=Lib.hid (R1.out.trans g2)
     have T2:=Lib.hid (show Wt lg l ([]++(List.flatten [xn, [32],tyW xt])++(List.flatten [[32,78,79,84,32,78,85,76,76]])) lg2 l2 from T1.out.trans g3)
     clear g1 g2 g3
     go_wp2
     go_end0
     exact ⟨rfl,_,_,W2.out,R2.out,by have:=T2.out;rwa [show []++(List.flatten [xn, [32],tyW xt])++(List.flatten [[32,78,79,84,32,78,85,76,76]])=tx (coP ⟨xn,xt,true⟩) from by rw [tx_co1];rfl] at this⟩
 | false=>
   show Calls Tryz.prog 74 #[.pointer (some ⟨b,0,none⟩), .agg #[.string (Ep.txt xn), .int .i64 xt, .bool false]] w _
   obtain ⟨W1,hW1⟩:∃W1,w.alloc (.cells #[.string (Ep.txt xn), .int .i64 xt, .bool false] 54)=W1:=⟨_,rfl⟩
   have hb:Below w.heap.size w W1:=by rw [←hW1];exact al (Below.refl _ _) _
   have x0:Cel W1 w.heap.size 54 #[.string (Ep.txt xn), .int .i64 xt, .bool false]:=by rw [←hW1];exact Cel.new _ _ _ rfl
   have hlb:=h.lt
   have hw1:Ww b l lg W1.drew:=(h.below hb).drew
   have hr1:Wr b w W1.drew:=(Wr.of hb (Nat.le_of_lt hlb)).drewN 1
   have HLEN:=Lib.hid (show l.length+(List.flatten [xn, [32],tyW xt]).length≤1000000000 by rw [←tx_co0];exact HL)
   have y0_0:W1.cell? ⟨w.heap.size,0,none⟩=some (.string (Ep.txt xn)):=x0.at_ 0
   have y0_1:W1.cell? ⟨w.heap.size,1,none⟩=some (.int .i64 xt):=x0.at_ 1
   have y0_2:W1.cell? ⟨w.heap.size,2,none⟩=some (.bool false):=x0.at_ 2
   have HT:=Lib.hid (show ∀W,Calls Tryz.prog 13 #[.int .i64 xt] W fun e w' =>e= .returned (.string (Ep.txt (tyW xt)))∧W=w' from fun W=>by rw [←typeV_txt];exact type_any xt W)
   have HS:=Lib.hid (show Calls Tryz.prog 73 #[.pointer (some ⟨b,0,none⟩), .slice (some ⟨W1.heap.size,0,none⟩) 3 3] (W1.drew.alloc (.cells #[.string (Ep.txt xn), .string ⟨#[32]⟩, .string (Ep.txt (tyW xt))] tS)) (fun e w' =>e= .returned (.tuple #[])∧∃l' lg',Ww b l' lg' w' ∧Wr b w w' ∧Wt lg l (List.flatten [xn, [32],tyW xt]) lg' l' ∧Cel w' w.heap.size 54 #[.string (Ep.txt xn), .int .i64 xt, .bool false]) from (saying [xn, [32],tyW xt] hw1 (by simp) (by have h2:=HLEN.out;first|(simp only [List.length_append] at h2;omega)|omega)).mono fun e w' d=>(by
     obtain ⟨d1,l',lg',d2,d3,d4⟩:=d
     exact ⟨d1,l',lg',d2,hr1.trans d3,d4,d3.cel (by omega) (by decide) (show Cel W1.drew w.heap.size 54 #[.string (Ep.txt xn), .int .i64 xt, .bool false] from x0)⟩))
   clear h HL hb hw1 hr1 x0
   go_enter Tryz.func74,Tryz.ntmps74
   go_wp2
   go_region_with ((first|(go_at_call 13;(with_reducible refine (HT.out _).mono ?_);rintro e1 w1 ⟨rfl,rfl⟩)|(go_at_call 73;refine HS.out.mono ?_;rintro e1 w1 ⟨rfl,l1,lg1,g1,g2,g3,g4⟩;have W1:=Lib.hid g1;have R1:=Lib.hid g2;have T1:=Lib.hid (show Wt lg l ([]++(List.flatten [xn, [32],tyW xt])) lg1 l1 from g3);have z2:w1.cell? ⟨w.heap.size,2,none⟩=some (.bool false):=g4.at_ 2;clear g1 g2 g3 g4)))
   all_goals
     go_wp2
     go_end0
     exact ⟨rfl,_,_,W1.out,R1.out,by have:=T1.out;rwa [show []++(List.flatten [xn, [32],tyW xt])=tx (coP ⟨xn,xt,false⟩) from by rw [tx_co0];rfl] at this⟩
theorem tx_cn1 (nm:Bs) (cols:List Bs):tx (cnP ⟨nm,1,cols,noEx, [], []⟩)=List.flatten [[67,79,78,83,84,82,65,73,78,84,32],nm]++List.flatten [[32,85,78,73,81,85,69]]++tx (none::brk (nmsP cols)):=by
 unfold cnP
 show [67,79,78,83,84,82,65,73,78,84,32]++(nm++([32,85,78,73,81,85,69]++tx (none::brk (nmsP cols))))=_
 simp
set_option maxRecDepth 100000 in
set_option maxHeartbeats 4000000 in
theorem wcons_1 (nm:Bs) (cols:List Bs) {tbl:Bs} {P Q:Option Addr} {pn pc qn qc:Nat} {ek eo vk vn:Int} {vs ns:ByteArray} {A:Option Addr} {n c:Nat} (hne:cols≠ []) (h1:IsRow w (fun c=>c<b) 1 (cols.map sDt) (.slice P pn pc)) (h:Ww b l lg w) (HL:l.length+(tx (cnP ⟨nm,1,cols,noEx, [], []⟩)).length≤1000000000):
   Calls Tryz.prog 75 #[.pointer (some ⟨b,0,none⟩), .agg #[.string (Ep.txt nm), .int .i64 1, .slice P pn pc, .int .i64 ek, .int .i64 eo, .int .i64 vk, .int .i64 vn, .string vs, .string ns, .slice A n c, .string (Ep.txt tbl), .slice Q qn qc]] w (WDid b l lg (tx (cnP ⟨nm,1,cols,noEx, [], []⟩)) w):=by
 obtain ⟨W1,hW1⟩:∃W1,w.alloc (.cells #[.string (Ep.txt nm), .int .i64 1, .slice P pn pc, .int .i64 ek, .int .i64 eo, .int .i64 vk, .int .i64 vn, .string vs, .string ns, .slice A n c, .string (Ep.txt tbl), .slice Q qn qc] 56)=W1:=⟨_,rfl⟩
 have hb:Below w.heap.size w W1:=by rw [←hW1];exact al (Below.refl _ _) _
 have x0_w_heap_size:Cel W1 w.heap.size 56 #[.string (Ep.txt nm), .int .i64 1, .slice P pn pc, .int .i64 ek, .int .i64 eo, .int .i64 vk, .int .i64 vn, .string vs, .string ns, .slice A n c, .string (Ep.txt tbl), .slice Q qn qc]:=by rw [←hW1];exact Cel.new _ _ _ rfl
 have hlb:=h.lt
 have hw1:=h.below hb
 have hr1:Wr b w W1:=Wr.of hb (Nat.le_of_lt hlb)
 have HLEN:=Lib.hid (show l.length+(List.flatten [[67,79,78,83,84,82,65,73,78,84,32],nm]++List.flatten [[32,85,78,73,81,85,69]]++tx (none::brk (nmsP cols))).length≤1000000000 by rw [←tx_cn1];exact HL)
 have Yh1:=Lib.hid h1
 have Yhne:=Lib.hid hne
 have W0:=Lib.hid hw1
 have R0:=Lib.hid (hr1)
 have T0:=Lib.hid (show Wt lg l [] lg l from .inl ⟨rfl,(List.append_nil l).symm⟩)
 have y0_0:W1.cell? ⟨w.heap.size,0,none⟩=some (.string (Ep.txt nm)):=x0_w_heap_size.at_ 0
 clear h HL hb hw1 hr1 h1 hne
 go_enter Tryz.func75,Tryz.ntmps75
 have H0:=Lib.hid (show Calls Tryz.prog 73 #[.pointer (some ⟨b,0,none⟩), .slice (some ⟨W1.heap.size,0,none⟩) 2 2] (W1.alloc (.cells #[.string ⟨#[67,79,78,83,84,82,65,73,78,84,32]⟩, .string (Ep.txt nm)] tS)) (WDid b l lg (List.flatten [[67,79,78,83,84,82,65,73,78,84,32],nm]) W1) from saying [[67,79,78,83,84,82,65,73,78,84,32],nm] W0.out (by simp) (by have h1:=T0.out.len;have h2:=HLEN.out;simp only [List.length_append,List.length_nil] at h1 h2 ⊢;omega))
 go_wp2_with (go_at_call 73;(with_reducible refine H0.out.mono ?_))
 rintro e1 w1 ⟨rfl,l1,lg1,g1,g2,g3⟩
 have W1:=Lib.hid g1
 have R1:=Lib.hid (R0.out.trans g2)
 have T1:=Lib.hid (show Wt lg l ([]++(List.flatten [[67,79,78,83,84,82,65,73,78,84,32],nm])) lg1 l1 from T0.out.trans g3)
 have x1_w_heap_size:Cel w1 (w.heap.size) 56 #[.string (Ep.txt nm), .int .i64 1, .slice P pn pc, .int .i64 ek, .int .i64 eo, .int .i64 vk, .int .i64 vn, .string vs, .string ns, .slice A n c, .string (Ep.txt tbl), .slice Q qn qc]:=g2.cel (by omega) (by decide) x0_w_heap_size
 clear g1 g2 g3
 have y1_1:w1.cell? ⟨w.heap.size,1,none⟩=some (.int .i64 1):=x1_w_heap_size.at_ 1
 have H1:=Lib.hid (show Calls Tryz.prog 73 #[.pointer (some ⟨b,0,none⟩), .slice (some ⟨w1.heap.size,0,none⟩) 1 1] (w1.alloc (.cells #[.string ⟨#[32,85,78,73,81,85,69]⟩] tS)) (WDid b l1 lg1 (List.flatten [[32,85,78,73,81,85,69]]) w1) from saying [[32,85,78,73,81,85,69]] W1.out (by simp) (by have h1:=T1.out.len;have h2:=HLEN.out;simp only [List.length_append,List.length_nil] at h1 h2 ⊢;omega))
 go_wp2_with (go_at_call 73;(with_reducible refine H1.out.mono ?_))
 rintro e2 w2 ⟨rfl,l2,lg2,g1,g2,g3⟩
 have W2:=Lib.hid g1
 have R2:=Lib.hid (R1.out.trans g2)
 have T2:=Lib.hid (show Wt lg l ([]++(List.flatten [[67,79,78,83,84,82,65,73,78,84,32],nm])++(List.flatten [[32,85,78,73,81,85,69]])) lg2 l2 from T1.out.trans g3)
 have x2_w_heap_size:Cel w2 (w.heap.size) 56 #[.string (Ep.txt nm), .int .i64 1, .slice P pn pc, .int .i64 ek, .int .i64 eo, .int .i64 vk, .int .i64 vn, .string vs, .string ns, .slice A n c, .string (Ep.txt tbl), .slice Q qn qc]:=g2.cel (by omega) (by decide) x1_w_heap_size
 clear g1 g2 g3
 have y2_2:w2.cell? ⟨w.heap.size,2,none⟩=some (.slice P pn pc):=x2_w_heap_size.at_ 2
 have H2:=Lib.hid (show Calls Tryz.prog 76 #[.pointer (some ⟨b,0,none⟩), .slice P pn pc] w2 (WDid b l2 lg2 (tx (none::brk (nmsP cols))) w2) from wnames_any Yhne.out (IsRow.to (fun c g=>g) (fun p hp=>R2.out.1.cell hp) Yh1.out) W2.out (by have h1:=T2.out.len;have h2:=HLEN.out;simp only [List.length_append,List.length_nil] at h1 h2 ⊢;omega))
 go_wp2_with (go_at_call 76;(with_reducible refine H2.out.mono ?_))
 rintro e3 w3 ⟨rfl,l3,lg3,g1,g2,g3⟩
 have W3:=Lib.hid g1
 have R3:=Lib.hid (R2.out.trans g2)
 have T3:=Lib.hid (show Wt lg l ([]++(List.flatten [[67,79,78,83,84,82,65,73,78,84,32],nm])++(List.flatten [[32,85,78,73,81,85,69]])++(tx (none::brk (nmsP cols)))) lg3 l3 from T2.out.trans g3)
 have x3_w_heap_size:Cel w3 (w.heap.size) 56 #[.string (Ep.txt nm), .int .i64 1, .slice P pn pc, .int .i64 ek, .int .i64 eo, .int .i64 vk, .int .i64 vn, .string vs, .string ns, .slice A n c, .string (Ep.txt tbl), .slice Q qn qc]:=g2.cel (by omega) (by decide) x2_w_heap_size
 clear g1 g2 g3
 go_wp2
 go_end0
 exact ⟨rfl,_,_,W3.out,R3.out,by have:=T3.out;rwa [show []++(List.flatten [[67,79,78,83,84,82,65,73,78,84,32],nm])++(List.flatten [[32,85,78,73,81,85,69]])++(tx (none::brk (nmsP cols)))=tx (cnP ⟨nm,1,cols,noEx, [], []⟩) from by rw [tx_cn1];rfl] at this⟩
theorem tx_cn2 (nm:Bs) (chk:Ex):tx (cnP ⟨nm,2, [],chk, [], []⟩)=List.flatten [[67,79,78,83,84,82,65,73,78,84,32],nm]++List.flatten [[32,67,72,69,67,75,32,40]]++tx (pcs chk)++List.flatten [[41]]:=by
 unfold cnP
 show [67,79,78,83,84,82,65,73,78,84,32]++(nm++([32,67,72,69,67,75,32,40]++tx (pcs chk++ [C 41])))=_
 rw [tx_app];simp;rfl
set_option maxRecDepth 100000 in
set_option maxHeartbeats 4000000 in
theorem wcons_2 (nm:Bs) (chk:Ex) {tbl:Bs} {P Q:Option Addr} {pn pc qn qc:Nat} {ek eo vk vn:Int} {vs ns:ByteArray} {A:Option Addr} {n c:Nat} (h2:ExIn w (fun c=>c<b) chk [.int .i64 ek, .int .i64 eo, .int .i64 vk, .int .i64 vn, .string vs, .string ns, .slice A n c]) (hcb:ExW w b chk) (h:Ww b l lg w) (HL:l.length+(tx (cnP ⟨nm,2, [],chk, [], []⟩)).length≤1000000000):
   Calls Tryz.prog 75 #[.pointer (some ⟨b,0,none⟩), .agg #[.string (Ep.txt nm), .int .i64 2, .slice P pn pc, .int .i64 ek, .int .i64 eo, .int .i64 vk, .int .i64 vn, .string vs, .string ns, .slice A n c, .string (Ep.txt tbl), .slice Q qn qc]] w (WDid b l lg (tx (cnP ⟨nm,2, [],chk, [], []⟩)) w):=by
 obtain ⟨W1,hW1⟩:∃W1,w.alloc (.cells #[.string (Ep.txt nm), .int .i64 2, .slice P pn pc, .int .i64 ek, .int .i64 eo, .int .i64 vk, .int .i64 vn, .string vs, .string ns, .slice A n c, .string (Ep.txt tbl), .slice Q qn qc] 56)=W1:=⟨_,rfl⟩
 have hb:Below w.heap.size w W1:=by rw [←hW1];exact al (Below.refl _ _) _
 have x0_w_heap_size:Cel W1 w.heap.size 56 #[.string (Ep.txt nm), .int .i64 2, .slice P pn pc, .int .i64 ek, .int .i64 eo, .int .i64 vk, .int .i64 vn, .string vs, .string ns, .slice A n c, .string (Ep.txt tbl), .slice Q qn qc]:=by rw [←hW1];exact Cel.new _ _ _ rfl
 have hlb:=h.lt
 have hw1:=h.below hb
 have hr1:Wr b w W1:=Wr.of hb (Nat.le_of_lt hlb)
 have HLEN:=Lib.hid (show l.length+(List.flatten [[67,79,78,83,84,82,65,73,78,84,32],nm]++List.flatten [[32,67,72,69,67,75,32,40]]++tx (pcs chk)++List.flatten [[41]]).length≤1000000000 by rw [←tx_cn2];exact HL)
 have Yh2:=Lib.hid h2
 have Yhcb:=Lib.hid hcb
 have W0:=Lib.hid hw1
 have R0:=Lib.hid (hr1)
 have T0:=Lib.hid (show Wt lg l [] lg l from .inl ⟨rfl,(List.append_nil l).symm⟩)
 have y0_0:W1.cell? ⟨w.heap.size,0,none⟩=some (.string (Ep.txt nm)):=x0_w_heap_size.at_ 0
 clear h HL hb hw1 hr1 h2 hcb
 go_enter Tryz.func75,Tryz.ntmps75
 have H0:=Lib.hid (show Calls Tryz.prog 73 #[.pointer (some ⟨b,0,none⟩), .slice (some ⟨W1.heap.size,0,none⟩) 2 2] (W1.alloc (.cells #[.string ⟨#[67,79,78,83,84,82,65,73,78,84,32]⟩, .string (Ep.txt nm)] tS)) (WDid b l lg (List.flatten [[67,79,78,83,84,82,65,73,78,84,32],nm]) W1) from saying [[67,79,78,83,84,82,65,73,78,84,32],nm] W0.out (by simp) (by have h1:=T0.out.len;have h2:=HLEN.out;simp only [List.length_append,List.length_nil] at h1 h2 ⊢;omega))
 go_wp2_with (go_at_call 73;(with_reducible refine H0.out.mono ?_))
 rintro e1 w1 ⟨rfl,l1,lg1,g1,g2,g3⟩
 have W1:=Lib.hid g1
 have R1:=Lib.hid (R0.out.trans g2)
 have T1:=Lib.hid (show Wt lg l ([]++(List.flatten [[67,79,78,83,84,82,65,73,78,84,32],nm])) lg1 l1 from T0.out.trans g3)
 have x1_w_heap_size:Cel w1 (w.heap.size) 56 #[.string (Ep.txt nm), .int .i64 2, .slice P pn pc, .int .i64 ek, .int .i64 eo, .int .i64 vk, .int .i64 vn, .string vs, .string ns, .slice A n c, .string (Ep.txt tbl), .slice Q qn qc]:=g2.cel (by omega) (by decide) x0_w_heap_size
 clear g1 g2 g3
 have y1_1:w1.cell? ⟨w.heap.size,1,none⟩=some (.int .i64 2):=x1_w_heap_size.at_ 1
 have H1:=Lib.hid (show Calls Tryz.prog 73 #[.pointer (some ⟨b,0,none⟩), .slice (some ⟨w1.heap.size,0,none⟩) 1 1] (w1.alloc (.cells #[.string ⟨#[32,67,72,69,67,75,32,40]⟩] tS)) (WDid b l1 lg1 (List.flatten [[32,67,72,69,67,75,32,40]]) w1) from saying [[32,67,72,69,67,75,32,40]] W1.out (by simp) (by have h1:=T1.out.len;have h2:=HLEN.out;simp only [List.length_append,List.length_nil] at h1 h2 ⊢;omega))
 go_wp2_with (go_at_call 73;(with_reducible refine H1.out.mono ?_))
 rintro e2 w2 ⟨rfl,l2,lg2,g1,g2,g3⟩
 have W2:=Lib.hid g1
 have R2:=Lib.hid (R1.out.trans g2)
 have T2:=Lib.hid (show Wt lg l ([]++(List.flatten [[67,79,78,83,84,82,65,73,78,84,32],nm])++(List.flatten [[32,67,72,69,67,75,32,40]])) lg2 l2 from T1.out.trans g3)
 have x2_w_heap_size:Cel w2 (w.heap.size) 56 #[.string (Ep.txt nm), .int .i64 2, .slice P pn pc, .int .i64 ek, .int .i64 eo, .int .i64 vk, .int .i64 vn, .string vs, .string ns, .slice A n c, .string (Ep.txt tbl), .slice Q qn qc]:=g2.cel (by omega) (by decide) x1_w_heap_size
 clear g1 g2 g3
 have y2_3:w2.cell? ⟨w.heap.size,3,none⟩=some (.int .i64 ek):=x2_w_heap_size.at_ 3
 have y2_4:w2.cell? ⟨w.heap.size,4,none⟩=some (.int .i64 eo):=x2_w_heap_size.at_ 4
 have y2_5:w2.cell? ⟨w.heap.size,5,none⟩=some (.int .i64 vk):=x2_w_heap_size.at_ 5
 have y2_6:w2.cell? ⟨w.heap.size,6,none⟩=some (.int .i64 vn):=x2_w_heap_size.at_ 6
 have y2_7:w2.cell? ⟨w.heap.size,7,none⟩=some (.string vs):=x2_w_heap_size.at_ 7
 have y2_8:w2.cell? ⟨w.heap.size,8,none⟩=some (.string ns):=x2_w_heap_size.at_ 8
 have y2_9:w2.cell? ⟨w.heap.size,9,none⟩=some (.slice A n c):=x2_w_heap_size.at_ 9
 have H2:=Lib.hid (show Calls Tryz.prog 130 #[.pointer (some ⟨b,0,none⟩), .agg #[.int .i64 ek, .int .i64 eo, .int .i64 vk, .int .i64 vn, .string vs, .string ns, .slice A n c]] w2 (WDid b l2 lg2 (tx (pcs chk)) w2) from Yhcb.out w2 l2 lg2 [.int .i64 ek, .int .i64 eo, .int .i64 vk, .int .i64 vn, .string vs, .string ns, .slice A n c] W2.out R2.out (DtIn.below Yh2.out R2.out.1) (by have h1:=T2.out.len;have h2:=HLEN.out;simp only [List.length_append,List.length_nil] at h1 h2 ⊢;omega))
 go_wp2_with (go_at_call 130;(with_reducible refine H2.out.mono ?_))
 rintro e3 w3 ⟨rfl,l3,lg3,g1,g2,g3⟩
 have W3:=Lib.hid g1
 have R3:=Lib.hid (R2.out.trans g2)
 have T3:=Lib.hid (show Wt lg l ([]++(List.flatten [[67,79,78,83,84,82,65,73,78,84,32],nm])++(List.flatten [[32,67,72,69,67,75,32,40]])++(tx (pcs chk))) lg3 l3 from T2.out.trans g3)
 have x3_w_heap_size:Cel w3 (w.heap.size) 56 #[.string (Ep.txt nm), .int .i64 2, .slice P pn pc, .int .i64 ek, .int .i64 eo, .int .i64 vk, .int .i64 vn, .string vs, .string ns, .slice A n c, .string (Ep.txt tbl), .slice Q qn qc]:=g2.cel (by omega) (by decide) x2_w_heap_size
 clear g1 g2 g3
 have H3:=Lib.hid (show Calls Tryz.prog 73 #[.pointer (some ⟨b,0,none⟩), .slice (some ⟨w3.heap.size,0,none⟩) 1 1] (w3.alloc (.cells #[.string ⟨#[41]⟩] tS)) (WDid b l3 lg3 (List.flatten [[41]]) w3) from saying [[41]] W3.out (by simp) (by have h1:=T3.out.len;have h2:=HLEN.out;simp only [List.length_append,List.length_nil] at h1 h2 ⊢;omega))
 go_wp2_with (go_at_call 73;(with_reducible refine H3.out.mono ?_))
 rintro e4 w4 ⟨rfl,l4,lg4,g1,g2,g3⟩
 have W4:=Lib.hid g1
 have R4:=Lib.hid (R3.out.trans g2)
 have T4:=Lib.hid (show Wt lg l ([]++(List.flatten [[67,79,78,83,84,82,65,73,78,84,32],nm])++(List.flatten [[32,67,72,69,67,75,32,40]])++(tx (pcs chk))++(List.flatten [[41]])) lg4 l4 from T3.out.trans g3)
 have x4_w_heap_size:Cel w4 (w.heap.size) 56 #[.string (Ep.txt nm), .int .i64 2, .slice P pn pc, .int .i64 ek, .int .i64 eo, .int .i64 vk, .int .i64 vn, .string vs, .string ns, .slice A n c, .string (Ep.txt tbl), .slice Q qn qc]:=g2.cel (by omega) (by decide) x3_w_heap_size
 clear g1 g2 g3
 go_wp2
 go_end0
 exact ⟨rfl,_,_,W4.out,R4.out,by have:=T4.out;rwa [show []++(List.flatten [[67,79,78,83,84,82,65,73,78,84,32],nm])++(List.flatten [[32,67,72,69,67,75,32,40]])++(tx (pcs chk))++(List.flatten [[41]])=tx (cnP ⟨nm,2, [],chk, [], []⟩) from by rw [tx_cn2];rfl] at this⟩
theorem tx_cn3 (nm:Bs) (cols:List Bs) (tbl:Bs) (refs:List Bs):tx (cnP ⟨nm,3,cols,noEx,tbl,refs⟩)=List.flatten [[67,79,78,83,84,82,65,73,78,84,32],nm]++List.flatten [[32,70,79,82,69,73,71,78,32,75,69,89]]++tx (none::brk (nmsP cols))++List.flatten [[32,82,69,70,69,82,69,78,67,69,83,32],tbl]++tx (none::brk (nmsP refs)):=by
 unfold cnP
 show [67,79,78,83,84,82,65,73,78,84,32]++(nm++([32,70,79,82,69,73,71,78,32,75,69,89]++tx ((none::brk (nmsP cols))++(none::K kREFERENCES::none::N tbl::none::brk (nmsP refs)))))=_
 rw [tx_app];show [67,79,78,83,84,82,65,73,78,84,32]++(nm++([32,70,79,82,69,73,71,78,32,75,69,89]++(tx (none::brk (nmsP cols))++([32,82,69,70,69,82,69,78,67,69,83,32]++(tbl++tx (none::brk (nmsP refs)))))))=_;simp
set_option maxRecDepth 100000 in
set_option maxHeartbeats 4000000 in
theorem wcons_3 (nm:Bs) (cols:List Bs) (tbl:Bs) (refs:List Bs) {P Q:Option Addr} {pn pc qn qc:Nat} {ek eo vk vn:Int} {vs ns:ByteArray} {A:Option Addr} {n c:Nat} (hne:cols≠ []) (h1:IsRow w (fun c=>c<b) 1 (cols.map sDt) (.slice P pn pc)) (hne2:refs≠ []) (h3:IsRow w (fun c=>c<b) 1 (refs.map sDt) (.slice Q qn qc)) (h:Ww b l lg w) (HL:l.length+(tx (cnP ⟨nm,3,cols,noEx,tbl,refs⟩)).length≤1000000000):
   Calls Tryz.prog 75 #[.pointer (some ⟨b,0,none⟩), .agg #[.string (Ep.txt nm), .int .i64 3, .slice P pn pc, .int .i64 ek, .int .i64 eo, .int .i64 vk, .int .i64 vn, .string vs, .string ns, .slice A n c, .string (Ep.txt tbl), .slice Q qn qc]] w (WDid b l lg (tx (cnP ⟨nm,3,cols,noEx,tbl,refs⟩)) w):=by
 obtain ⟨W1,hW1⟩:∃W1,w.alloc (.cells #[.string (Ep.txt nm), .int .i64 3, .slice P pn pc, .int .i64 ek, .int .i64 eo, .int .i64 vk, .int .i64 vn, .string vs, .string ns, .slice A n c, .string (Ep.txt tbl), .slice Q qn qc] 56)=W1:=⟨_,rfl⟩
 have hb:Below w.heap.size w W1:=by rw [←hW1];exact al (Below.refl _ _) _
 have x0_w_heap_size:Cel W1 w.heap.size 56 #[.string (Ep.txt nm), .int .i64 3, .slice P pn pc, .int .i64 ek, .int .i64 eo, .int .i64 vk, .int .i64 vn, .string vs, .string ns, .slice A n c, .string (Ep.txt tbl), .slice Q qn qc]:=by rw [←hW1];exact Cel.new _ _ _ rfl
 have hlb:=h.lt
 have hw1:=h.below hb
 have hr1:Wr b w W1:=Wr.of hb (Nat.le_of_lt hlb)
 have HLEN:=Lib.hid (show l.length+(List.flatten [[67,79,78,83,84,82,65,73,78,84,32],nm]++List.flatten [[32,70,79,82,69,73,71,78,32,75,69,89]]++tx (none::brk (nmsP cols))++List.flatten [[32,82,69,70,69,82,69,78,67,69,83,32],tbl]++tx (none::brk (nmsP refs))).length≤1000000000 by rw [←tx_cn3];exact HL)
 have Yh1:=Lib.hid h1
 have Yhne:=Lib.hid hne
 have Yh3:=Lib.hid h3
 have Yhne2:=Lib.hid hne2
 have W0:=Lib.hid hw1
 have R0:=Lib.hid (hr1)
 have T0:=Lib.hid (show Wt lg l [] lg l from .inl ⟨rfl,(List.append_nil l).symm⟩)
 have y0_0:W1.cell? ⟨w.heap.size,0,none⟩=some (.string (Ep.txt nm)):=x0_w_heap_size.at_ 0
 clear h HL hb hw1 hr1 h1 hne h3 hne2
 go_enter Tryz.func75,Tryz.ntmps75
 have H0:=Lib.hid (show Calls Tryz.prog 73 #[.pointer (some ⟨b,0,none⟩), .slice (some ⟨W1.heap.size,0,none⟩) 2 2] (W1.alloc (.cells #[.string ⟨#[67,79,78,83,84,82,65,73,78,84,32]⟩, .string (Ep.txt nm)] tS)) (WDid b l lg (List.flatten [[67,79,78,83,84,82,65,73,78,84,32],nm]) W1) from saying [[67,79,78,83,84,82,65,73,78,84,32],nm] W0.out (by simp) (by have h1:=T0.out.len;have h2:=HLEN.out;simp only [List.length_append,List.length_nil] at h1 h2 ⊢;omega))
 go_wp2_with (go_at_call 73;(with_reducible refine H0.out.mono ?_))
 rintro e1 w1 ⟨rfl,l1,lg1,g1,g2,g3⟩
 have W1:=Lib.hid g1
 have R1:=Lib.hid (R0.out.trans g2)
 have T1:=Lib.hid (show Wt lg l ([]++(List.flatten [[67,79,78,83,84,82,65,73,78,84,32],nm])) lg1 l1 from T0.out.trans g3)
 have x1_w_heap_size:Cel w1 (w.heap.size) 56 #[.string (Ep.txt nm), .int .i64 3, .slice P pn pc, .int .i64 ek, .int .i64 eo, .int .i64 vk, .int .i64 vn, .string vs, .string ns, .slice A n c, .string (Ep.txt tbl), .slice Q qn qc]:=g2.cel (by omega) (by decide) x0_w_heap_size
 clear g1 g2 g3
 have y1_1:w1.cell? ⟨w.heap.size,1,none⟩=some (.int .i64 3):=x1_w_heap_size.at_ 1
 have H1:=Lib.hid (show Calls Tryz.prog 73 #[.pointer (some ⟨b,0,none⟩), .slice (some ⟨w1.heap.size,0,none⟩) 1 1] (w1.alloc (.cells #[.string ⟨#[32,70,79,82,69,73,71,78,32,75,69,89]⟩] tS)) (WDid b l1 lg1 (List.flatten [[32,70,79,82,69,73,71,78,32,75,69,89]]) w1) from saying [[32,70,79,82,69,73,71,78,32,75,69,89]] W1.out (by simp) (by have h1:=T1.out.len;have h2:=HLEN.out;simp only [List.length_append,List.length_nil] at h1 h2 ⊢;omega))
 go_wp2_with (go_at_call 73;(with_reducible refine H1.out.mono ?_))
 rintro e2 w2 ⟨rfl,l2,lg2,g1,g2,g3⟩
 have W2:=Lib.hid g1
 have R2:=Lib.hid (R1.out.trans g2)
 have T2:=Lib.hid (show Wt lg l ([]++(List.flatten [[67,79,78,83,84,82,65,73,78,84,32],nm])++(List.flatten [[32,70,79,82,69,73,71,78,32,75,69,89]])) lg2 l2 from T1.out.trans g3)
 have x2_w_heap_size:Cel w2 (w.heap.size) 56 #[.string (Ep.txt nm), .int .i64 3, .slice P pn pc, .int .i64 ek, .int .i64 eo, .int .i64 vk, .int .i64 vn, .string vs, .string ns, .slice A n c, .string (Ep.txt tbl), .slice Q qn qc]:=g2.cel (by omega) (by decide) x1_w_heap_size
 clear g1 g2 g3
 have y2_2:w2.cell? ⟨w.heap.size,2,none⟩=some (.slice P pn pc):=x2_w_heap_size.at_ 2
 have H2:=Lib.hid (show Calls Tryz.prog 76 #[.pointer (some ⟨b,0,none⟩), .slice P pn pc] w2 (WDid b l2 lg2 (tx (none::brk (nmsP cols))) w2) from wnames_any Yhne.out (IsRow.to (fun c g=>g) (fun p hp=>R2.out.1.cell hp) Yh1.out) W2.out (by have h1:=T2.out.len;have h2:=HLEN.out;simp only [List.length_append,List.length_nil] at h1 h2 ⊢;omega))
 go_wp2_with (go_at_call 76;(with_reducible refine H2.out.mono ?_))
 rintro e3 w3 ⟨rfl,l3,lg3,g1,g2,g3⟩
 have W3:=Lib.hid g1
 have R3:=Lib.hid (R2.out.trans g2)
 have T3:=Lib.hid (show Wt lg l ([]++(List.flatten [[67,79,78,83,84,82,65,73,78,84,32],nm])++(List.flatten [[32,70,79,82,69,73,71,78,32,75,69,89]])++(tx (none::brk (nmsP cols)))) lg3 l3 from T2.out.trans g3)
 have x3_w_heap_size:Cel w3 (w.heap.size) 56 #[.string (Ep.txt nm), .int .i64 3, .slice P pn pc, .int .i64 ek, .int .i64 eo, .int .i64 vk, .int .i64 vn, .string vs, .string ns, .slice A n c, .string (Ep.txt tbl), .slice Q qn qc]:=g2.cel (by omega) (by decide) x2_w_heap_size
 clear g1 g2 g3
 have y3_10:w3.cell? ⟨w.heap.size,10,none⟩=some (.string (Ep.txt tbl)):=x3_w_heap_size.at_ 10
 have H3:=Lib.hid (show Calls Tryz.prog 73 #[.pointer (some ⟨b,0,none⟩), .slice (some ⟨w3.heap.size,0,none⟩) 2 2] (w3.alloc (.cells #[.string ⟨#[32,82,69,70,69,82,69,78,67,69,83,32]⟩, .string (Ep.txt tbl)] tS)) (WDid b l3 lg3 (List.flatten [[32,82,69,70,69,82,69,78,67,69,83,32],tbl]) w3) from saying [[32,82,69,70,69,82,69,78,67,69,83,32],tbl] W3.out (by simp) (by have h1:=T3.out.len;have h2:=HLEN.out;simp only [List.length_append,List.length_nil] at h1 h2 ⊢;omega))
 go_wp2_with (go_at_call 73;(with_reducible refine H3.out.mono ?_))
 rintro e4 w4 ⟨rfl,l4,lg4,g1,g2,g3⟩
 have W4:=Lib.hid g1
 have R4:=Lib.hid (R3.out.trans g2)
 have T4:=Lib.hid (show Wt lg l ([]++(List.flatten [[67,79,78,83,84,82,65,73,78,84,32],nm])++(List.flatten [[32,70,79,82,69,73,71,78,32,75,69,89]])++(tx (none::brk (nmsP cols)))++(List.flatten [[32,82,69,70,69,82,69,78,67,69,83,32],tbl])) lg4 l4 from T3.out.trans g3)
 have x4_w_heap_size:Cel w4 (w.heap.size) 56 #[.string (Ep.txt nm), .int .i64 3, .slice P pn pc, .int .i64 ek, .int .i64 eo, .int .i64 vk, .int .i64 vn, .string vs, .string ns, .slice A n c, .string (Ep.txt tbl), .slice Q qn qc]:=g2.cel (by omega) (by decide) x3_w_heap_size
 clear g1 g2 g3
 have y4_11:w4.cell? ⟨w.heap.size,11,none⟩=some (.slice Q qn qc):=x4_w_heap_size.at_ 11
 have H4:=Lib.hid (show Calls Tryz.prog 76 #[.pointer (some ⟨b,0,none⟩), .slice Q qn qc] w4 (WDid b l4 lg4 (tx (none::brk (nmsP refs))) w4) from wnames_any Yhne2.out (IsRow.to (fun c g=>g) (fun p hp=>R4.out.1.cell hp) Yh3.out) W4.out (by have h1:=T4.out.len;have h2:=HLEN.out;simp only [List.length_append,List.length_nil] at h1 h2 ⊢;omega))
 go_wp2_with (go_at_call 76;(with_reducible refine H4.out.mono ?_))
 rintro e5 w5 ⟨rfl,l5,lg5,g1,g2,g3⟩
 have W5:=Lib.hid g1
 have R5:=Lib.hid (R4.out.trans g2)
 have T5:=Lib.hid (show Wt lg l ([]++(List.flatten [[67,79,78,83,84,82,65,73,78,84,32],nm])++(List.flatten [[32,70,79,82,69,73,71,78,32,75,69,89]])++(tx (none::brk (nmsP cols)))++(List.flatten [[32,82,69,70,69,82,69,78,67,69,83,32],tbl])++(tx (none::brk (nmsP refs)))) lg5 l5 from T4.out.trans g3)
 have x5_w_heap_size:Cel w5 (w.heap.size) 56 #[.string (Ep.txt nm), .int .i64 3, .slice P pn pc, .int .i64 ek, .int .i64 eo, .int .i64 vk, .int .i64 vn, .string vs, .string ns, .slice A n c, .string (Ep.txt tbl), .slice Q qn qc]:=g2.cel (by omega) (by decide) x4_w_heap_size
 clear g1 g2 g3
 go_wp2
 go_end0
 exact ⟨rfl,_,_,W5.out,R5.out,by have:=T5.out;rwa [show []++(List.flatten [[67,79,78,83,84,82,65,73,78,84,32],nm])++(List.flatten [[32,70,79,82,69,73,71,78,32,75,69,89]])++(tx (none::brk (nmsP cols)))++(List.flatten [[32,82,69,70,69,82,69,78,67,69,83,32],tbl])++(tx (none::brk (nmsP refs)))=tx (cnP ⟨nm,3,cols,noEx,tbl,refs⟩) from by rw [tx_cn3];rfl] at this⟩
theorem wcons_any {x:Cn} {cs:List Value} (hx:DtIn w (fun c=>c<b) (cnDt x) cs) (ho:OkCn x) (hcb:Lo x.chk→ExW w b x.chk) (h:Ww b l lg w) (HL:l.length+(tx (cnP x)).length≤1000000000):
   Calls Tryz.prog 75 #[.pointer (some ⟨b,0,none⟩), .agg cs.toArray] w (WDid b l lg (tx (cnP x)) w):=by
 obtain ⟨u1,e,u2,rfl,g1,g2,g3⟩:=cn_in.1 hx
 obtain ⟨P,pn,pc,rfl⟩:=row_form g1
 obtain ⟨Q,qn,qc,rfl⟩:=row_form g3
 obtain ⟨ek,eo,vk,vn,vs,ns,A,n,c,rfl⟩:=ex_form g2
 cases ho with
 |unique h1 h2=>exact wcons_1 _ _ (by intro e;rw [e] at h2;exact absurd h2.1 (by decide)) g1 h HL
 |check h1 h2=>exact wcons_2 _ _ g2 (hcb h2) h HL
 |foreign h1 h2 h3 h4=>exact wcons_3 _ _ _ _ (by intro e;rw [e] at h2;exact absurd h2.1 (by decide)) g1 (by intro e;rw [e] at h4;have a:=h4.1;have c:=h2.1;simp only [List.length_nil] at a;omega) g3 h HL
end
end Go.Proofs.YtiaomhdmllhmmaaGreatDoor.Sm
