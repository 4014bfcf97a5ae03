/- A writer's calls for names, columns, rows, sets, orders, and a condition that may be missi -/
import Derived.Deep.RegionWith
import Derived.Deep.CutRange
import Derived.Test.YtiaomhdmllhmmaaGreatDoorK25
import Derived.Test.YtiaomhdmllhmmaaGreatDoorK26
import Derived.Test.YtiaomhdmllhmmaaGreatDoorK20
namespace Go.Proofs.YtiaomhdmllhmmaaGreatDoor.Sm
open Go.RowKit Mem Ep Right Lx Go.ChangeShapes Go.WideShapes
set_option linter.unusedVariables false
theorem join_nms:∀l:List Bs,Lib.join l [44,32]=tx (nmsP l)
 | []=>rfl
 | [x]=>by rw [Lib.join_one];show x=x++ [];rw [List.append_nil]
 | x::y::r=>by
   have h:=join_nms (y::r)
   rw [Lib.join_cons] at h ⊢
   unfold nmsP at h ⊢
   rw [List.map_cons,List.map_cons,sep,←List.map_cons (f:=fun x=> [N x])]
   show x++Lib.joinTail [44,32] (y::r)=x++(44::32::tx (sep (List.map (fun x=> [N x]) (y::r))))
   rw [←h]
   unfold Lib.joinTail
   simp
theorem nms_len:∀xs:List Bs,xs.length≤(tx (nmsP xs)).length+1
 | []=>Nat.zero_le _
 | [x]=>by simp
 | x ::y::r=>by
   have h:=nms_len (y::r)
   unfold nmsP at h ⊢
   rw [List.map_cons,List.map_cons,sep,←List.map_cons (f:=fun x=> [N x]),tx_app,List.length_append]
   have e:(tx (C 44::none::sep (List.map (fun x=> [N x]) (y::r)))).length=2+(tx (sep (List.map (fun x=> [N x]) (y::r)))).length:=by
     show (44::32::tx (sep (List.map (fun x=> [N x]) (y::r)))).length=_
     rw [List.length_cons,List.length_cons];omega
   rw [e]
   simp only [List.length_cons] at h ⊢
   omega
section
variable {w w' :World} {b:Nat} {l:List UInt8} {lg:Bool}
set_option maxHeartbeats 1000000 in
theorem wnames_any {xs:List Bs} {A:Option Addr} {n c:Nat} (hne:xs≠ []) (hR:IsRow w (fun c=>c<b) 1 (xs.map sDt) (.slice A n c)) (h:Ww b l lg w) (HL:l.length+(tx (none::brk (nmsP xs))).length≤1000000000):
   Calls Tryz.prog 76 #[.pointer (some ⟨b,0,none⟩), .slice A n c] w (WDid b l lg (tx (none::brk (nmsP xs))) w):=by
 have hlb:=h.lt
 obtain ⟨J,hJ⟩:∃J,tx (nmsP xs)=J:=⟨_,rfl⟩
 have hT:tx (none::brk (nmsP xs))=List.flatten [[32,40],J, [41]]:=by
   unfold brk
   show 32::40::tx (nmsP xs++ [C 41])=_
   rw [tx_app,hJ]
   simp
   rfl
 rw [hT] at HL ⊢
 obtain ⟨x,hx⟩:∃x,xs[0]?=some x:=some_at rfl (List.length_pos_iff.2 hne)
 obtain ⟨bk,o,rfl,hbk, -⟩:=s_at (isRow_ls hR).2.2 hx
 have hn:n=xs.length:=by rw [(isRow_ls hR).1,List.length_map]
 have hc:n≤c:=by
   obtain ⟨A',c',e,h1, -⟩:=hR
   injection e with e1 e2 e3
   subst e1 e2 e3
   exact h1
 have hm:=(isRow_ls hR).2.1
 have hjl:J.length≤1000000000:=by simp at HL;omega
 have HJ:=Lib.hid (show Calls Tryz.prog 131 #[.slice (some ⟨bk,o,none⟩) n c, .string ⟨#[44,32]⟩] w fun e w' =>e= .returned (.string (Ep.txt J))∧Below w.heap.size w w' by
   have hmap:(xs.map Ep.txt).map (·.data.toList)=xs:=by simp [Ep.txt,Function.comp_def]
   have hsep:(⟨#[44,32]⟩:ByteArray).data.toList= [44,32]:=rfl
   have hj:=Tryz.strings_Join bk o c (xs.map Ep.txt) ⟨#[44,32]⟩ w (fun j y hy=>by
     rw [List.getElem?_map] at hy
     obtain ⟨z,hz,rfl⟩:=Option.map_eq_some_iff.1 hy
     obtain ⟨b2,o2,e2, -,h2⟩:=s_at (isRow_ls hR).2.2 hz
     injection e2 with e2
     injection e2 with e3 e4
     subst e3 e4
     exact h2) (Nat.lt_trans hbk hlb) (by rw [List.length_map,←hn];have:=nms_len xs;rw [hJ] at this;omega) (by rw [List.length_map,←hn];exact hc) (by rw [hmap,hsep,join_nms,hJ];omega)
   rw [hmap,hsep,join_nms,hJ,List.length_map,←hn] at hj
   exact hj)
 have HS:=Lib.hid (show ∀w2,Below w.heap.size w w2→Calls Tryz.prog 73 #[.pointer (some ⟨b,0,none⟩), .slice (some ⟨w2.heap.size,0,none⟩) 3 3] (w2.alloc (.cells #[.string ⟨#[32,40]⟩, .string (Ep.txt J), .string ⟨#[41]⟩] tS)) (WDid b l lg (List.flatten [[32,40],J, [41]]) w) from fun w2 hw=>(saying [[32,40],J, [41]] (h.below hw) (by simp) HL).mono fun _ _ d=>(by
   obtain ⟨d1,l',lg',d2,d3,d4⟩:=d
   exact ⟨d1,l',lg',d2,(Wr.of hw (Nat.le_of_lt hlb)).trans d3,d4⟩))
 clear hne hR h HL hlb hJ hT hx hbk hn hc hm hjl
 go_enter Tryz.func76,Tryz.ntmps76
 go_wp2_with (first|(go_at_call 131;(with_reducible refine HJ.out.mono ?_);rintro e1 w1 ⟨rfl,hb1⟩;have HS2:=Lib.hid (HS.out w1 hb1);clear hb1)|(go_at_call 73;(with_reducible refine HS2.out.mono ?_);rintro e1 w2 ⟨rfl,HD1⟩))
 go_end0
 exact ⟨rfl,HD1⟩
theorem tx_row (xs:List Ex):tx (rowP xs)=List.flatten [[40]]++tx (sep (xs.map pcs))++List.flatten [[41]]:=by
 unfold rowP brk
 show 40::tx (sep (xs.map pcs)++ [C 41])=_
 rw [tx_app]
 simp
 rfl
def ExW (w:World) (b:Nat) (x:Ex):Prop:=∀(W:World) (l1:List UInt8) (lg1:Bool) (cs:List Value),Ww b l1 lg1 W→Wr b w W→DtIn W (fun c=>c<b) (exDt x) cs→l1.length+(tx (pcs x)).length≤1000000000→Calls Tryz.prog 130 #[.pointer (some ⟨b,0,none⟩), .agg cs.toArray] W (WDid b l1 lg1 (tx (pcs x)) W)
theorem exw (x:Ex) (hL:Lo x) (hl:Lim x) (hE:WrE w b) (htx:(tx (pcs x)).length≤1000000):ExW w b x:=fun W l1 lg1 cs g1 g2 g3 g4=>wexpr_any g3 hL hl g1 (hE.below g2.1) htx g4
theorem ExW.to {x:Ex} (h:ExW w b x) (hr:Wr b w w'):ExW w' b x:=fun W l1 lg1 cs g1 g2 g3 g4=>h W l1 lg1 cs g1 (hr.trans g2) g3 g4
set_option maxHeartbeats 1000000 in
theorem wrow_any {xs:List Ex} {A:Option Addr} {n c:Nat} (hR:IsRow w (fun c=>c<b) 7 (xs.map exDt) (.slice A n c)) (hcb:∀x∈xs,ExW w b x) (h:Ww b l lg w) (HL:l.length+(tx (rowP xs)).length≤1000000000):
   Calls Tryz.prog 82 #[.pointer (some ⟨b,0,none⟩), .slice A n c] w (WDid b l lg (tx (rowP xs)) w):=by
 have HLEN:=Lib.hid (show l.length+(List.flatten [[40]]++tx (sep (xs.map pcs))++List.flatten [[41]]).length≤1000000000 by rw [←tx_row];exact HL)
 have HR:=Lib.hid hR
 have HCB:=Lib.hid hcb
 have W0:=Lib.hid h
 have R0:=Lib.hid (Wr.refl b w)
 have T0:=Lib.hid (show Wt lg l [] lg l from .inl ⟨rfl,(List.append_nil l).symm⟩)
 clear h hR hcb HL
 go_enter Tryz.func82,Tryz.ntmps82
 have H0:=Lib.hid (show Calls Tryz.prog 73 #[.pointer (some ⟨b,0,none⟩), .slice (some ⟨w.heap.size,0,none⟩) 1 1] (w.alloc (.cells #[.string ⟨#[40]⟩] tS)) (WDid b l lg (List.flatten [[40]]) w) from saying [[40]] W0.out (by simp) (by have h1:=T0.out.len;have h2:=HLEN.out;simp only [List.length_append,List.length_nil] at h1 h2 ⊢;omega))
 go_wp2_with (go_at_call 73;(with_reducible refine H0.out.mono ?_))
 rintro e1 w1 ⟨rfl,l1,lg1,g1,g2,g3⟩
 have W1:=Lib.hid g1
 have R1:=Lib.hid (R0.out.trans g2)
 have T1:=Lib.hid (show Wt lg l ([]++(List.flatten [[40]])) lg1 l1 from T0.out.trans g3)
 clear g1 g2 g3
 have H1:=Lib.hid (show Calls Tryz.prog 133 #[.pointer (some ⟨b,0,none⟩), .slice A n c, .func (.func 130) #[.pointer (some ⟨b,0,none⟩)] #[]] w1 (WDid b l1 lg1 (tx (sep (xs.map pcs))) w1) from list_ex W1.out ((isRow_ls HR.out).below R1.out.1) (by have h1:=T1.out.len;have h2:=HLEN.out;simp only [List.length_append,List.length_nil] at h1 h2 ⊢;omega) fun x hx W l2 lg2 cs g1 g2 g3 g4=>HCB.out x hx W l2 lg2 cs g1 (R1.out.trans g2) g3 g4)
 go_wp2_with (go_at_call 133;(with_reducible refine H1.out.mono ?_))
 rintro e2 w2 ⟨rfl,l2,lg2,g1,g2,g3⟩
 have W2:=Lib.hid g1
 have R2:=Lib.hid (R1.out.trans g2)
 have T2:=Lib.hid (show Wt lg l ([]++(List.flatten [[40]])++(tx (sep (xs.map pcs)))) lg2 l2 from T1.out.trans g3)
 clear g1 g2 g3
 have H2:=Lib.hid (show Calls Tryz.prog 73 #[.pointer (some ⟨b,0,none⟩), .slice (some ⟨w2.heap.size,0,none⟩) 1 1] (w2.alloc (.cells #[.string ⟨#[41]⟩] tS)) (WDid b l2 lg2 (List.flatten [[41]]) w2) from saying [[41]] W2.out (by simp) (by have h1:=T2.out.len;have h2:=HLEN.out;simp only [List.length_append,List.length_nil] at h1 h2 ⊢;omega))
 go_wp2_with (go_at_call 73;(with_reducible refine H2.out.mono ?_))
 rintro e3 w3 ⟨rfl,l3,lg3,g1,g2,g3⟩
 have W3:=Lib.hid g1
 have R3:=Lib.hid (R2.out.trans g2)
 have T3:=Lib.hid (show Wt lg l ([]++(List.flatten [[40]])++(tx (sep (xs.map pcs)))++(List.flatten [[41]])) lg3 l3 from T2.out.trans g3)
 clear g1 g2 g3
 go_wp2
 go_end0
 exact ⟨rfl,_,_,W3.out,R3.out,by have:=T3.out;rwa [show []++(List.flatten [[40]])++(tx (sep (xs.map pcs)))++(List.flatten [[41]])=tx (rowP xs) from by rw [tx_row];rfl] at this⟩
theorem tx_set (xn:Bs) (xe:Ex):tx (setP (xn,xe))=List.flatten [xn, [32,61,32]]++tx (pcs xe):=by
 unfold setP
 show xn++(32::61::32::tx (pcs xe))=_
 simp
set_option maxRecDepth 100000 in
set_option maxHeartbeats 1000000 in
theorem wset_any {x:Bs × Ex} {cs:List Value} (hx:DtIn w (fun c=>c<b) (seDt x) cs) (hcb:ExW w b x.2) (h:Ww b l lg w) (HL:l.length+(tx (setP x)).length≤1000000000):
   Calls Tryz.prog 79 #[.pointer (some ⟨b,0,none⟩), .agg cs.toArray] w (WDid b l lg (tx (setP x)) w):=by
 obtain ⟨e,rfl,h6⟩:=se_in.1 hx
 obtain ⟨kx,ox,vkx,vnx,vsx,nsx,Ax,nx,cx,rfl⟩:=ex_form h6
 obtain ⟨xn,xe⟩:=x
 simp only at hcb h6
 clear hx
 show Calls Tryz.prog 79 #[.pointer (some ⟨b,0,none⟩), .agg #[.string (Ep.txt xn), .int .i64 kx, .int .i64 ox, .int .i64 vkx, .int .i64 vnx, .string vsx, .string nsx, .slice Ax nx cx]] w _
 obtain ⟨W1,hW1⟩:∃W1,w.alloc (.cells #[.string (Ep.txt xn), .int .i64 kx, .int .i64 ox, .int .i64 vkx, .int .i64 vnx, .string vsx, .string nsx, .slice Ax nx cx] 58)=W1:=⟨_,rfl⟩
 have hb:Below w.heap.size w W1:=by rw [←hW1];exact al (Below.refl _ _) _
 have x0_w_heap_size:Cel W1 w.heap.size 58 #[.string (Ep.txt xn), .int .i64 kx, .int .i64 ox, .int .i64 vkx, .int .i64 vnx, .string vsx, .string nsx, .slice Ax nx cx]:=by rw [←hW1];exact Cel.new _ _ _ rfl
 have hlb:=h.lt
 have hw1:=h.below hb
 have hr1:Wr b w W1:=Wr.of hb (Nat.le_of_lt hlb)
 have HLEN:=Lib.hid (show l.length+(List.flatten [xn, [32,61,32]]++tx (pcs xe)).length≤1000000000 by rw [←tx_set];exact HL)
 have HX:=Lib.hid h6
 have HCB:=Lib.hid hcb
 have W0:=Lib.hid hw1
 have R0:=Lib.hid (hr1)
 have T0:=Lib.hid (show Wt lg l [] lg l from .inl ⟨rfl,(List.append_nil l).symm⟩)
 have y0_0:W1.cell? ⟨w.heap.size,0,none⟩=some (.string (Ep.txt xn)):=x0_w_heap_size.at_ 0
 clear h h6 hcb HL hb hw1 hr1
 go_enter Tryz.func79,Tryz.ntmps79
 have H0:=Lib.hid (show Calls Tryz.prog 73 #[.pointer (some ⟨b,0,none⟩), .slice (some ⟨W1.heap.size,0,none⟩) 2 2] (W1.alloc (.cells #[.string (Ep.txt xn), .string ⟨#[32,61,32]⟩] tS)) (WDid b l lg (List.flatten [xn, [32,61,32]]) W1) from saying [xn, [32,61,32]] W0.out (by simp) (by have h1:=T0.out.len;have h2:=HLEN.out;simp only [List.length_append,List.length_nil] at h1 h2 ⊢;omega))
 go_wp2_with (go_at_call 73;(with_reducible refine H0.out.mono ?_))
 rintro e1 w1 ⟨rfl,l1,lg1,g1,g2,g3⟩
 have W1:=Lib.hid g1
 have R1:=Lib.hid (R0.out.trans g2)
 have T1:=Lib.hid (show Wt lg l ([]++(List.flatten [xn, [32,61,32]])) lg1 l1 from T0.out.trans g3)
 have x1_w_heap_size:Cel w1 (w.heap.size) 58 #[.string (Ep.txt xn), .int .i64 kx, .int .i64 ox, .int .i64 vkx, .int .i64 vnx, .string vsx, .string nsx, .slice Ax nx cx]:=g2.cel (by omega) (by decide) x0_w_heap_size
 clear g1 g2 g3
 have y1_1:w1.cell? ⟨w.heap.size,1,none⟩=some (.int .i64 kx):=x1_w_heap_size.at_ 1
 have y1_2:w1.cell? ⟨w.heap.size,2,none⟩=some (.int .i64 ox):=x1_w_heap_size.at_ 2
 have y1_3:w1.cell? ⟨w.heap.size,3,none⟩=some (.int .i64 vkx):=x1_w_heap_size.at_ 3
 have y1_4:w1.cell? ⟨w.heap.size,4,none⟩=some (.int .i64 vnx):=x1_w_heap_size.at_ 4
 have y1_5:w1.cell? ⟨w.heap.size,5,none⟩=some (.string vsx):=x1_w_heap_size.at_ 5
 have y1_6:w1.cell? ⟨w.heap.size,6,none⟩=some (.string nsx):=x1_w_heap_size.at_ 6
 have y1_7:w1.cell? ⟨w.heap.size,7,none⟩=some (.slice Ax nx cx):=x1_w_heap_size.at_ 7
 have H1:=Lib.hid (show Calls Tryz.prog 130 #[.pointer (some ⟨b,0,none⟩), .agg #[.int .i64 kx, .int .i64 ox, .int .i64 vkx, .int .i64 vnx, .string vsx, .string nsx, .slice Ax nx cx]] w1 (WDid b l1 lg1 (tx (pcs xe)) w1) from HCB.out w1 l1 lg1 [.int .i64 kx, .int .i64 ox, .int .i64 vkx, .int .i64 vnx, .string vsx, .string nsx, .slice Ax nx cx] W1.out R1.out (DtIn.below HX.out R1.out.1) (by have h1:=T1.out.len;have h2:=HLEN.out;simp only [List.length_append,List.length_nil] at h1 h2 ⊢;omega))
 go_wp2_with (go_at_call 130;(with_reducible refine H1.out.mono ?_))
 rintro e2 w2 ⟨rfl,l2,lg2,g1,g2,g3⟩
 have W2:=Lib.hid g1
 have R2:=Lib.hid (R1.out.trans g2)
 have T2:=Lib.hid (show Wt lg l ([]++(List.flatten [xn, [32,61,32]])++(tx (pcs xe))) lg2 l2 from T1.out.trans g3)
 have x2_w_heap_size:Cel w2 (w.heap.size) 58 #[.string (Ep.txt xn), .int .i64 kx, .int .i64 ox, .int .i64 vkx, .int .i64 vnx, .string vsx, .string nsx, .slice Ax nx cx]:=g2.cel (by omega) (by decide) x1_w_heap_size
 clear g1 g2 g3
 go_wp2
 go_end0
 exact ⟨rfl,_,_,W2.out,R2.out,by have:=T2.out;rwa [show []++(List.flatten [xn, [32,61,32]])++(tx (pcs xe))=tx (setP (xn,xe)) from by rw [tx_set];rfl] at this⟩
theorem tx_od1 (xe:Ex):tx (ordP (xe,true))=tx (pcs xe)++List.flatten [[32,68,69,83,67]]:=by
 unfold ordP
 rw [tx_app]
 rfl
theorem tx_od0 (xe:Ex):tx (ordP (xe,false))=tx (pcs xe)++ []:=by
 unfold ordP
 rw [tx_app]
 rfl
set_option maxRecDepth 100000 in
set_option maxHeartbeats 1000000 in
theorem word_any {x:Ex × Bool} {cs:List Value} (hx:DtIn w (fun c=>c<b) (orDt x) cs) (hcb:ExW w b x.1) (h:Ww b l lg w) (HL:l.length+(tx (ordP x)).length≤1000000000):
   Calls Tryz.prog 135 #[.pointer (some ⟨b,0,none⟩), .agg cs.toArray] w (WDid b l lg (tx (ordP x)) w):=by
 obtain ⟨e,rfl,h6⟩:=or_in.1 hx
 obtain ⟨kx,ox,vkx,vnx,vsx,nsx,Ax,nx,cx,rfl⟩:=ex_form h6
 obtain ⟨xe,xb⟩:=x
 simp only at hcb h6
 clear hx
 cases xb with
 | true=>
   show Calls Tryz.prog 135 #[.pointer (some ⟨b,0,none⟩), .agg #[.int .i64 kx, .int .i64 ox, .int .i64 vkx, .int .i64 vnx, .string vsx, .string nsx, .slice Ax nx cx, .bool true]] w _
   obtain ⟨W1,hW1⟩:∃W1,w.alloc (.cells #[.int .i64 kx, .int .i64 ox, .int .i64 vkx, .int .i64 vnx, .string vsx, .string nsx, .slice Ax nx cx, .bool true] 60)=W1:=⟨_,rfl⟩
   have hb:Below w.heap.size w W1:=by rw [←hW1];exact al (Below.refl _ _) _
   have x0_w_heap_size:Cel W1 w.heap.size 60 #[.int .i64 kx, .int .i64 ox, .int .i64 vkx, .int .i64 vnx, .string vsx, .string nsx, .slice Ax nx cx, .bool true]:=by rw [←hW1];exact Cel.new _ _ _ rfl
   have hlb:=h.lt
   have hw1:=h.below hb
   have hr1:Wr b w W1:=Wr.of hb (Nat.le_of_lt hlb)
   have HLEN:=Lib.hid (show l.length+(tx (pcs xe)++List.flatten [[32,68,69,83,67]]).length≤1000000000 by rw [←tx_od1];exact HL)
   have HX:=Lib.hid h6
   have HCB:=Lib.hid hcb
   have W0:=Lib.hid hw1
   have R0:=Lib.hid (hr1)
   have T0:=Lib.hid (show Wt lg l [] lg l from .inl ⟨rfl,(List.append_nil l).symm⟩)
   have y0_0:W1.cell? ⟨w.heap.size,0,none⟩=some (.int .i64 kx):=x0_w_heap_size.at_ 0
   have y0_1:W1.cell? ⟨w.heap.size,1,none⟩=some (.int .i64 ox):=x0_w_heap_size.at_ 1
   have y0_2:W1.cell? ⟨w.heap.size,2,none⟩=some (.int .i64 vkx):=x0_w_heap_size.at_ 2
   have y0_3:W1.cell? ⟨w.heap.size,3,none⟩=some (.int .i64 vnx):=x0_w_heap_size.at_ 3
   have y0_4:W1.cell? ⟨w.heap.size,4,none⟩=some (.string vsx):=x0_w_heap_size.at_ 4
   have y0_5:W1.cell? ⟨w.heap.size,5,none⟩=some (.string nsx):=x0_w_heap_size.at_ 5
   have y0_6:W1.cell? ⟨w.heap.size,6,none⟩=some (.slice Ax nx cx):=x0_w_heap_size.at_ 6
   clear h h6 hcb HL hb hw1 hr1
   go_enter Tryz.func135,Tryz.ntmps135
   have H0:=Lib.hid (show Calls Tryz.prog 130 #[.pointer (some ⟨b,0,none⟩), .agg #[.int .i64 kx, .int .i64 ox, .int .i64 vkx, .int .i64 vnx, .string vsx, .string nsx, .slice Ax nx cx]] W1 (WDid b l lg (tx (pcs xe)) W1) from HCB.out W1 l lg [.int .i64 kx, .int .i64 ox, .int .i64 vkx, .int .i64 vnx, .string vsx, .string nsx, .slice Ax nx cx] W0.out R0.out (DtIn.below HX.out R0.out.1) (by have h1:=T0.out.len;have h2:=HLEN.out;simp only [List.length_append,List.length_nil] at h1 h2 ⊢;omega))
   go_wp2_with (go_at_call 130;(with_reducible refine H0.out.mono ?_))
   rintro e1 w1 ⟨rfl,l1,lg1,g1,g2,g3⟩
   have W1:=Lib.hid g1
   have R1:=Lib.hid (R0.out.trans g2)
   have T1:=Lib.hid (show Wt lg l ([]++(tx (pcs xe))) lg1 l1 from T0.out.trans g3)
   have x1_w_heap_size:Cel w1 (w.heap.size) 60 #[.int .i64 kx, .int .i64 ox, .int .i64 vkx, .int .i64 vnx, .string vsx, .string nsx, .slice Ax nx cx, .bool true]:=g2.cel (by omega) (by decide) x0_w_heap_size
   clear g1 g2 g3
   have y1_7:w1.cell? ⟨w.heap.size,7,none⟩=some (.bool true):=x1_w_heap_size.at_ 7
   have H1:=Lib.hid (show Calls Tryz.prog 73 #[.pointer (some ⟨b,0,none⟩), .slice (some ⟨w1.heap.size,0,none⟩) 1 1] (w1.alloc (.cells #[.string ⟨#[32,68,69,83,67]⟩] tS)) (WDid b l1 lg1 (List.flatten [[32,68,69,83,67]]) w1) from saying [[32,68,69,83,67]] W1.out (by simp) (by have h1:=T1.out.len;have h2:=HLEN.out;simp only [List.length_append,List.length_nil] at h1 h2 ⊢;omega))
   go_wp2_with (go_at_call 73;(with_reducible refine H1.out.mono ?_))
   rintro e2 w2 ⟨rfl,l2,lg2,g1,g2,g3⟩
   have W2:=Lib.hid g1
   have R2:=Lib.hid (R1.out.trans g2)
   have T2:=Lib.hid (show Wt lg l ([]++(tx (pcs xe))++(List.flatten [[32,68,69,83,67]])) lg2 l2 from T1.out.trans g3)
   have x2_w_heap_size:Cel w2 (w.heap.size) 60 #[.int .i64 kx, .int .i64 ox, .int .i64 vkx, .int .i64 vnx, .string vsx, .string nsx, .slice Ax nx cx, .bool true]:=g2.cel (by omega) (by decide) x1_w_heap_size
   clear g1 g2 g3
   go_wp2
   go_end0
   exact ⟨rfl,_,_,W2.out,R2.out,by have:=T2.out;rwa [show []++(tx (pcs xe))++(List.flatten [[32,68,69,83,67]])=tx (ordP (xe,true)) from by rw [tx_od1];rfl] at this⟩
 | false=>
   show Calls Tryz.prog 135 #[.pointer (some ⟨b,0,none⟩), .agg #[.int .i64 kx, .int .i64 ox, .int .i64 vkx, .int .i64 vnx, .string vsx, .string nsx, .slice Ax nx cx, .bool false]] w _
   obtain ⟨W1,hW1⟩:∃W1,w.alloc (.cells #[.int .i64 kx, .int .i64 ox, .int .i64 vkx, .int .i64 vnx, .string vsx, .string nsx, .slice Ax nx cx, .bool false] 60)=W1:=⟨_,rfl⟩
   have hb:Below w.heap.size w W1:=by rw [←hW1];exact al (Below.refl _ _) _
   have x0_w_heap_size:Cel W1 w.heap.size 60 #[.int .i64 kx, .int .i64 ox, .int .i64 vkx, .int .i64 vnx, .string vsx, .string nsx, .slice Ax nx cx, .bool false]:=by rw [←hW1];exact Cel.new _ _ _ rfl
   have hlb:=h.lt
   have hw1:=h.below hb
   have hr1:Wr b w W1:=Wr.of hb (Nat.le_of_lt hlb)
   have HLEN:=Lib.hid (show l.length+(tx (pcs xe)++ []).length≤1000000000 by rw [←tx_od0];exact HL)
   have HX:=Lib.hid h6
   have HCB:=Lib.hid hcb
   have W0:=Lib.hid hw1
   have R0:=Lib.hid (hr1)
   have T0:=Lib.hid (show Wt lg l [] lg l from .inl ⟨rfl,(List.append_nil l).symm⟩)
   have y0_0:W1.cell? ⟨w.heap.size,0,none⟩=some (.int .i64 kx):=x0_w_heap_size.at_ 0
   have y0_1:W1.cell? ⟨w.heap.size,1,none⟩=some (.int .i64 ox):=x0_w_heap_size.at_ 1
   have y0_2:W1.cell? ⟨w.heap.size,2,none⟩=some (.int .i64 vkx):=x0_w_heap_size.at_ 2
   have y0_3:W1.cell? ⟨w.heap.size,3,none⟩=some (.int .i64 vnx):=x0_w_heap_size.at_ 3
   have y0_4:W1.cell? ⟨w.heap.size,4,none⟩=some (.string vsx):=x0_w_heap_size.at_ 4
   have y0_5:W1.cell? ⟨w.heap.size,5,none⟩=some (.string nsx):=x0_w_heap_size.at_ 5
   have y0_6:W1.cell? ⟨w.heap.size,6,none⟩=some (.slice Ax nx cx):=x0_w_heap_size.at_ 6
   clear h h6 hcb HL hb hw1 hr1
   go_enter Tryz.func135,Tryz.ntmps135
   have H0:=Lib.hid (show Calls Tryz.prog 130 #[.pointer (some ⟨b,0,none⟩), .agg #[.int .i64 kx, .int .i64 ox, .int .i64 vkx, .int .i64 vnx, .string vsx, .string nsx, .slice Ax nx cx]] W1 (WDid b l lg (tx (pcs xe)) W1) from HCB.out W1 l lg [.int .i64 kx, .int .i64 ox, .int .i64 vkx, .int .i64 vnx, .string vsx, .string nsx, .slice Ax nx cx] W0.out R0.out (DtIn.below HX.out R0.out.1) (by have h1:=T0.out.len;have h2:=HLEN.out;simp only [List.length_append,List.length_nil] at h1 h2 ⊢;omega))
   go_wp2_with (go_at_call 130;(with_reducible refine H0.out.mono ?_))
   rintro e1 w1 ⟨rfl,l1,lg1,g1,g2,g3⟩
   have W1:=Lib.hid g1
   have R1:=Lib.hid (R0.out.trans g2)
   have T1:=Lib.hid (show Wt lg l ([]++(tx (pcs xe))) lg1 l1 from T0.out.trans g3)
   have x1_w_heap_size:Cel w1 (w.heap.size) 60 #[.int .i64 kx, .int .i64 ox, .int .i64 vkx, .int .i64 vnx, .string vsx, .string nsx, .slice Ax nx cx, .bool false]:=g2.cel (by omega) (by decide) x0_w_heap_size
   clear g1 g2 g3
   have y1_7:w1.cell? ⟨w.heap.size,7,none⟩=some (.bool false):=x1_w_heap_size.at_ 7
   go_wp2
   go_end0
   exact ⟨rfl,_,_,W1.out,R1.out,by have:=T1.out;rwa [show []++(tx (pcs xe))=tx (ordP (xe,false)) from by rw [tx_od0,List.append_nil];rfl] at this⟩
theorem lo_kind {x:Ex} (h:Lo x):isNo x=false:=by
 obtain ⟨h1, -⟩:=h
 cases h1<;>rfl
theorem lo_cell {w:World} {S:Nat→Prop} {x:Ex} {k o vk vn:Int} {vs ns:ByteArray} {A:Option Addr} {n c:Nat} (hL:Lo x) (h:ExIn w S x [.int .i64 k, .int .i64 o, .int .i64 vk, .int .i64 vn, .string vs, .string ns, .slice A n c]):k≠0:=by
 obtain ⟨k',o',vk',vn',vs',ns',kids⟩:=x
 obtain ⟨A',c',e, -⟩:=(exIn_mk ..).1 h
 have hk:k=k' :=by
   unfold exCells at e
   injection e with e1 e2
   injection e1
 rw [hk]
 obtain ⟨h1, -⟩:=hL
 cases h1<;>decide
theorem tx_wh {x:Ex} (h:isNo x=false):tx (whP x)=List.flatten [[32,87,72,69,82,69,32]]++tx (pcs x):=by
 unfold whP
 rw [if_neg (by rw [h];decide)]
 rfl
set_option maxRecDepth 100000 in
set_option maxHeartbeats 1000000 in
theorem wwhere_yes {x:Ex} {kx ox vkx vnx:Int} {vsx nsx:ByteArray} {Ax:Option Addr} {nx cx:Nat} (hx:ExIn w (fun c=>c<b) x [.int .i64 kx, .int .i64 ox, .int .i64 vkx, .int .i64 vnx, .string vsx, .string nsx, .slice Ax nx cx]) (hL:Lo x) (hcb:ExW w b x) (h:Ww b l lg w) (HL:l.length+(tx (whP x)).length≤1000000000):
   Calls Tryz.prog 80 #[.pointer (some ⟨b,0,none⟩), .agg #[.int .i64 kx, .int .i64 ox, .int .i64 vkx, .int .i64 vnx, .string vsx, .string nsx, .slice Ax nx cx]] w (WDid b l lg (tx (whP x)) w):=by
 have hno:=lo_kind hL
 have hk0:=lo_cell hL hx
 have t0:(kx !=0)=true:=bne_yes hk0
 clear hL hk0
 obtain ⟨W1,hW1⟩:∃W1,w.alloc (.cells #[.int .i64 kx, .int .i64 ox, .int .i64 vkx, .int .i64 vnx, .string vsx, .string nsx, .slice Ax nx cx] 30)=W1:=⟨_,rfl⟩
 have hb:Below w.heap.size w W1:=by rw [←hW1];exact al (Below.refl _ _) _
 have x0_w_heap_size:Cel W1 w.heap.size 30 #[.int .i64 kx, .int .i64 ox, .int .i64 vkx, .int .i64 vnx, .string vsx, .string nsx, .slice Ax nx cx]:=by rw [←hW1];exact Cel.new _ _ _ rfl
 have hlb:=h.lt
 have hw1:=h.below hb
 have hr1:Wr b w W1:=Wr.of hb (Nat.le_of_lt hlb)
 have HLEN:=Lib.hid (show l.length+(List.flatten [[32,87,72,69,82,69,32]]++tx (pcs x)).length≤1000000000 by rw [←tx_wh hno];exact HL)
 have HX:=Lib.hid hx
 have HCB:=Lib.hid hcb
 have HNO:=Lib.hid hno
 have W0:=Lib.hid hw1
 have R0:=Lib.hid (hr1)
 have T0:=Lib.hid (show Wt lg l [] lg l from .inl ⟨rfl,(List.append_nil l).symm⟩)
 have y0_0:W1.cell? ⟨w.heap.size,0,none⟩=some (.int .i64 kx):=x0_w_heap_size.at_ 0
 clear h hx hcb HL hb hw1 hr1 hno
 go_enter Tryz.func80,Tryz.ntmps80
 have H0:=Lib.hid (show Calls Tryz.prog 73 #[.pointer (some ⟨b,0,none⟩), .slice (some ⟨W1.heap.size,0,none⟩) 1 1] (W1.alloc (.cells #[.string ⟨#[32,87,72,69,82,69,32]⟩] tS)) (WDid b l lg (List.flatten [[32,87,72,69,82,69,32]]) W1) from saying [[32,87,72,69,82,69,32]] W0.out (by simp) (by have h1:=T0.out.len;have h2:=HLEN.out;simp only [List.length_append,List.length_nil] at h1 h2 ⊢;omega))
 go_wp2_with (go_at_call 73;(with_reducible refine H0.out.mono ?_))
 rintro e1 w1 ⟨rfl,l1,lg1,g1,g2,g3⟩
 have W1:=Lib.hid g1
 have R1:=Lib.hid (R0.out.trans g2)
 have T1:=Lib.hid (show Wt lg l ([]++(List.flatten [[32,87,72,69,82,69,32]])) lg1 l1 from T0.out.trans g3)
 have x1_w_heap_size:Cel w1 (w.heap.size) 30 #[.int .i64 kx, .int .i64 ox, .int .i64 vkx, .int .i64 vnx, .string vsx, .string nsx, .slice Ax nx cx]:=g2.cel (by omega) (by decide) x0_w_heap_size
 clear g1 g2 g3
 have y1_0:w1.cell? ⟨w.heap.size,0,none⟩=some (.int .i64 kx):=x1_w_heap_size.at_ 0
 have y1_1:w1.cell? ⟨w.heap.size,1,none⟩=some (.int .i64 ox):=x1_w_heap_size.at_ 1
 have y1_2:w1.cell? ⟨w.heap.size,2,none⟩=some (.int .i64 vkx):=x1_w_heap_size.at_ 2
 have y1_3:w1.cell? ⟨w.heap.size,3,none⟩=some (.int .i64 vnx):=x1_w_heap_size.at_ 3
 have y1_4:w1.cell? ⟨w.heap.size,4,none⟩=some (.string vsx):=x1_w_heap_size.at_ 4
 have y1_5:w1.cell? ⟨w.heap.size,5,none⟩=some (.string nsx):=x1_w_heap_size.at_ 5
 have y1_6:w1.cell? ⟨w.heap.size,6,none⟩=some (.slice Ax nx cx):=x1_w_heap_size.at_ 6
 have H1:=Lib.hid (show Calls Tryz.prog 130 #[.pointer (some ⟨b,0,none⟩), .agg #[.int .i64 kx, .int .i64 ox, .int .i64 vkx, .int .i64 vnx, .string vsx, .string nsx, .slice Ax nx cx]] w1 (WDid b l1 lg1 (tx (pcs x)) w1) from HCB.out w1 l1 lg1 [.int .i64 kx, .int .i64 ox, .int .i64 vkx, .int .i64 vnx, .string vsx, .string nsx, .slice Ax nx cx] W1.out R1.out (DtIn.below HX.out R1.out.1) (by have h1:=T1.out.len;have h2:=HLEN.out;simp only [List.length_append,List.length_nil] at h1 h2 ⊢;omega))
 go_wp2_with (go_at_call 130;(with_reducible refine H1.out.mono ?_))
 rintro e2 w2 ⟨rfl,l2,lg2,g1,g2,g3⟩
 have W2:=Lib.hid g1
 have R2:=Lib.hid (R1.out.trans g2)
 have T2:=Lib.hid (show Wt lg l ([]++(List.flatten [[32,87,72,69,82,69,32]])++(tx (pcs x))) lg2 l2 from T1.out.trans g3)
 have x2_w_heap_size:Cel w2 (w.heap.size) 30 #[.int .i64 kx, .int .i64 ox, .int .i64 vkx, .int .i64 vnx, .string vsx, .string nsx, .slice Ax nx cx]:=g2.cel (by omega) (by decide) x1_w_heap_size
 clear g1 g2 g3
 go_wp2
 go_end0
 exact ⟨rfl,_,_,W2.out,R2.out,by have:=T2.out;rwa [show []++(List.flatten [[32,87,72,69,82,69,32]])++(tx (pcs x))=tx (whP x) from by rw [tx_wh HNO.out];rfl] at this⟩
set_option maxRecDepth 100000 in
theorem wwhere_no {kx ox vkx vnx:Int} {vsx nsx:ByteArray} {Ax:Option Addr} {nx cx:Nat} (hx:ExIn w (fun c=>c<b) noEx [.int .i64 kx, .int .i64 ox, .int .i64 vkx, .int .i64 vnx, .string vsx, .string nsx, .slice Ax nx cx]) (h:Ww b l lg w):
   Calls Tryz.prog 80 #[.pointer (some ⟨b,0,none⟩), .agg #[.int .i64 kx, .int .i64 ox, .int .i64 vkx, .int .i64 vnx, .string vsx, .string nsx, .slice Ax nx cx]] w (WDid b l lg (tx (whP noEx)) w):=by
 have hk:kx=0:=by
   obtain ⟨A',c',e, -⟩:=(exIn_mk ..).1 hx
   unfold exCells at e
   injection e with e1 e2
   injection e1
 subst hk
 have hlb:=h.lt
 have HD:=Lib.hid (show WDid b l lg (tx (whP noEx)) w (.returned (.tuple #[])) (w.alloc (.cells #[.int .i64 0, .int .i64 ox, .int .i64 vkx, .int .i64 vnx, .string vsx, .string nsx, .slice Ax nx cx] 30)) from ⟨rfl,l,lg,h.below (al (Below.refl _ _) _),Wr.of (al (Below.refl _ _) _) (Nat.le_of_lt hlb), .inl ⟨rfl,(List.append_nil l).symm⟩⟩)
 clear h hx
 go_enter Tryz.func80,Tryz.ntmps80
 go_wp2
 go_end0
 exact HD.out
theorem wwhere_any {x:Ex} {cs:List Value} (hx:DtIn w (fun c=>c<b) (exDt x) cs) (hw:okWh x) (hcb:Lo x→ExW w b x) (h:Ww b l lg w) (HL:l.length+(tx (whP x)).length≤1000000000):
   Calls Tryz.prog 80 #[.pointer (some ⟨b,0,none⟩), .agg cs.toArray] w (WDid b l lg (tx (whP x)) w):=by
 obtain ⟨kx,ox,vkx,vnx,vsx,nsx,Ax,nx,cx,rfl⟩:=ex_form hx
 rcases hw with rfl|hL
 · exact wwhere_no hx h
 · exact wwhere_yes hx hL (hcb hL) h HL
end
end Go.Proofs.YtiaomhdmllhmmaaGreatDoor.Sm
