/- A statement is written: a table. A statement is written: plans. A statement is written: what is prepared. A statement is written: a privilege that may be handed on. -/
import Derived.Test.YtiaomhdmllhmmaaGreatDoorK32
namespace Go.Proofs.YtiaomhdmllhmmaaGreatDoor.Sm
open Go.RowKit Mem Ep Right Lx Go.ChangeShapes Go.WideShapes
set_option linter.unusedVariables false
section
variable {w w' :World} {b:Nat} {l:List UInt8} {lg:Bool} {f:Fl}
theorem tx_wcreate {t n r:Bs} {cols:List Co} {cons:List Cn} {names:List Bs} {rows:List (List Ex)} {wh:Ex} {sets:List (Bs × Ex)} {order:List (Ex × Bool)} {limit priv:Int} {opt:Bool} {kids:List St} (hne:cols≠ []):tx (stP (.mk 1 t n r cols cons names rows wh sets order limit priv opt kids))=List.flatten [[67,82,69,65,84,69,32,84,65,66,76,69,32],t, [32,40]]++tx (sep (cols.map coP))++tx (csP cons)++List.flatten [[41]]:=by
 rw [stP.eq_def]
 show [67,82,69,65,84,69,32,84,65,66,76,69,32]++(t++(32::40::tx (sep (cols.map coP++cons.map cnP)++ [C 41])))=_;rw [sep_cs _ _ (by rw [Ne,List.map_eq_nil_iff];exact hne),tx_app,tx_app,show tx [C 41]= [41] from rfl];simp
set_option maxRecDepth 100000 in
set_option maxHeartbeats 4000000 in
theorem wcreate {t n r:Bs} {cols:List Co} {cons:List Cn} {names:List Bs} {rows:List (List Ex)} {wh:Ex} {sets:List (Bs × Ex)} {order:List (Ex × Bool)} {limit priv:Int} {opt:Bool} {kids:List St} (hx:WX w b f 1 t n r cols cons names rows wh sets order limit priv opt kids) (hne:cols≠ []) (hc:∀x∈cons,OkCn x) (h:Ww b l lg w) (HL:l.length+(tx (stP (.mk 1 t n r cols cons names rows wh sets order limit priv opt kids))).length≤1000000000):
    Calls Tryz.prog 72 #[.pointer (some ⟨b,0,none⟩), .agg f.cells.toArray] w (WDid b l lg (tx (stP (.mk 1 t n r cols cons names rows wh sets order limit priv opt kids))) w):=by
  obtain ⟨V1,hV1⟩:∃W1,w.alloc (.cells f.cells.toArray tSt)=W1:=⟨_,rfl⟩
  have hb:Below w.heap.size w V1:=by rw [←hV1];exact al (Below.refl _ _) _
  have X0:=Lib.hid (show Cel V1 w.heap.size tSt f.cells.toArray by rw [←hV1];exact Cel.new _ _ _ rfl)
  have hlb:=h.lt
  have hw1:=h.below hb
  have hr1:Wr b w V1:=Wr.of hb (Nat.le_of_lt hlb)
  have HLEN:=Lib.hid (show l.length+(List.flatten [[67,82,69,65,84,69,32,84,65,66,76,69,32],t, [32,40]]++tx (sep (cols.map coP))++tx (csP cons)++List.flatten [[41]]).length≤1000000000 by rw [←tx_wcreate hne];exact HL)
  have HX:=Lib.hid hx
  obtain ⟨⟨q0,q1,q2,q3,q4,q5,q6⟩, -⟩:=hx.all.all
  have E0:=Lib.hid q0
  have E1:=Lib.hid q1
  have E2:=Lib.hid q2
  have E3:=Lib.hid q3
  have E4:=Lib.hid q4
  have E5:=Lib.hid q5
  have E6:=Lib.hid q6
  have Yhc:=Lib.hid hc
  have Yhne:=Lib.hid hne
  have W0:=Lib.hid hw1
  have R0:=Lib.hid (hr1)
  have T0:=Lib.hid (show Wt lg l [] lg l from .inl ⟨rfl,(List.append_nil l).symm⟩)
  have y0_0:V1.cell? ⟨w.heap.size,0,none⟩=some (.int .i64 1):=(X0.out.at_ 0).trans (by rw [←E0.out];rfl)
  clear h HL hb hw1 hr1 hx q0 q1 q2 q3 q4 q5 q6 hc hne
  go_enter Tryz.func72,Tryz.ntmps72
  have y0_1:V1.cell? ⟨w.heap.size,1,none⟩=some (.string (Ep.txt t)):=(X0.out.at_ 1).trans (by rw [←E1.out];rfl)
  have H0:=Lib.hid (show Calls Tryz.prog 73 #[.pointer (some ⟨b,0,none⟩), .slice (some ⟨V1.heap.size,0,none⟩) 3 3] (V1.alloc (.cells #[.string ⟨#[67,82,69,65,84,69,32,84,65,66,76,69,32]⟩, .string (Ep.txt t), .string ⟨#[32,40]⟩] tS)) (WDid b l lg (List.flatten [[67,82,69,65,84,69,32,84,65,66,76,69,32],t, [32,40]]) V1) from saying [[67,82,69,65,84,69,32,84,65,66,76,69,32],t, [32,40]] W0.out (by simp) (by have h1:=T0.out.len;have h2:=HLEN.out;simp only [List.length_append,List.length_nil] at h1 h2 ⊢;omega))
  go_wp2_with (go_at_call 73;(with_reducible refine H0.out.mono ?_))
  rintro e1 w1 ⟨rfl,l1,lg1,g1,g2,g3⟩
  have W1:=Lib.hid g1
  have R1:=Lib.hid (R0.out.trans g2)
  have T1:=Lib.hid (show Wt lg l ([]++(List.flatten [[67,82,69,65,84,69,32,84,65,66,76,69,32],t, [32,40]])) lg1 l1 from T0.out.trans g3)
  have X1:=Lib.hid (g2.cel (by omega) (by decide) X0.out:Cel w1 w.heap.size tSt f.cells.toArray)
  clear g1 g2 g3
  have y1_4:w1.cell? ⟨w.heap.size,4,none⟩=some (.slice f.A4 f.n4 f.a4):=X1.out.at_ 4
  have H1:=Lib.hid (show Calls Tryz.prog 128 #[.pointer (some ⟨b,0,none⟩), .slice f.A4 f.n4 f.a4, .func (.func 74) #[.pointer (some ⟨b,0,none⟩)] #[]] w1 (WDid b l1 lg1 (tx (sep (cols.map coP))) w1) from list_co W1.out (HX.out.all.all.2.1.below R1.out.1) (by have h1:=T1.out.len;have h2:=HLEN.out;simp only [List.length_append,List.length_nil] at h1 h2 ⊢;omega) fun x hx W l2 lg2 cs g1 g2 g3 g4=>wcolumn_any g3 g1 g4)
  go_wp2_with (go_at_call 128;(with_reducible refine H1.out.mono ?_))
  rintro e2 w2 ⟨rfl,l2,lg2,g1,g2,g3⟩
  have W2:=Lib.hid g1
  have R2:=Lib.hid (R1.out.trans g2)
  have T2:=Lib.hid (show Wt lg l ([]++(List.flatten [[67,82,69,65,84,69,32,84,65,66,76,69,32],t, [32,40]])++(tx (sep (cols.map coP)))) lg2 l2 from T1.out.trans g3)
  have X2:=Lib.hid (g2.cel (by omega) (by decide) X1.out:Cel w2 w.heap.size tSt f.cells.toArray)
  clear g1 g2 g3
  have y2_5:w2.cell? ⟨w.heap.size,5,none⟩=some (.slice f.A5 f.n5 f.a5):=X2.out.at_ 5
  have hL5:=HX.out.all.all.2.2.1
  obtain ⟨A5,hA5⟩:∃A,f.A5=A:=⟨_,rfl⟩
  obtain ⟨n5,hn5⟩:∃n,f.n5=n:=⟨_,rfl⟩
  rw [hA5,hn5] at hL5
  have z5:w2.cell? ⟨w.heap.size,5,none⟩=some (.slice A5 n5 f.a5):=y2_5.trans (by rw [hA5,hn5])
  have hn:n5=cons.length:=by rw [hL5.1,List.length_map]
  have hmx:n5≤2 ^ 63 - 1:=by have:=hL5.2.1;unfold maxLen at this;omega
  have HL5:=Lib.hid hL5
  have HN:=Lib.hid hn
  have HST:=Lib.hid (show ListI b l lg w ([]++(List.flatten [[67,82,69,65,84,69,32,84,65,66,76,69,32],t, [32,40]])++(tx (sep (cols.map coP)))++tx (csP (cons.take 0))) w2∧Cel w2 w.heap.size tSt f.cells.toArray from ⟨⟨l2,lg2,W2.out,R2.out,by rw [show tx (csP (cons.take 0))= [] from rfl,List.append_nil];exact T2.out⟩,X2.out⟩)
  clear hL5 hA5 hn5 hn y2_5
  go_wp2
  go_loopw [20] (fun i wr=>∃j:Nat,j≤n5∧i= .int .i64 (j:Int)∧Hid (ListI b l lg w ([]++(List.flatten [[67,82,69,65,84,69,32,84,65,66,76,69,32],t, [32,40]])++(tx (sep (cols.map coP)))++tx (csP (cons.take j))) wr∧Cel wr w.heap.size tSt f.cells.toArray)) (fun i _=>n5+1 - (intOf i).toNat)
  case atStart=>exact ⟨0,Nat.zero_le _,rfl,HST⟩
  case round=>
    obtain ⟨j,hj,rfl,HE⟩:=hrel
    by_cases hlt:j<n5
    · obtain ⟨⟨k1,kg1,hw,hr,ht⟩,hX⟩:=HE.out
      obtain ⟨x,hx⟩:=some_at HN.out.symm hlt
      have hxm:=List.mem_of_getElem? hx
      have hwl:=hw.lt
      have tl:decide ((j:Int)<(n5:Int))=true:=decide_eq_true (by omega)
      have hT:=tcs_le (l:=cons) (j:=j+1)
      have hLE:=HLEN.out
      have hl1:=ht.len
      have hTZ:=tcs_on hx
      rw [hTZ,List.length_append,List.length_append] at hT
      simp only [List.length_append,List.length_nil] at hLE hl1
      have h2:([44,32]:List UInt8).length=2:=rfl
      have HSTEP:=Lib.hid (show ∀W2 l2 lg2,Ww b l2 lg2 W2→Wr b wr W2→Wt kg1 k1 ([44,32]++tx (cnP x)) lg2 l2→ListI b l lg w ([]++(List.flatten [[67,82,69,65,84,69,32,84,65,66,76,69,32],t, [32,40]])++(tx (sep (cols.map coP)))++tx (csP (cons.take (j+1)))) W2∧Cel W2 w.heap.size tSt f.cells.toArray from fun W2 l2 lg2 g1 g2 g3=>⟨⟨l2,lg2,g1,hr.trans g2,by rw [hTZ,←List.append_assoc];exact ht.trans g3⟩,g2.cel (by omega) (by decide) hX⟩)
      have hlen1:k1.length+(2+(tx (cnP x)).length)≤1000000000:=by omega
      obtain ⟨b1,z1,nmx,kdx,Px,pnx,pcx,kx,ox,vkx,vnx,vsx,nsx,Ax,nx,cx,tbx,Qx,qnx,qcx,rfl,hb1,⟨p0,p1,p2,p3,p4,p5,p6,p7,p8,p9,p10,p11⟩,in1⟩:=cn_at (HL5.out.below hr.1).2.2 hx
      have HIN:=Lib.hid in1
      have c0:wr.cell? ⟨b1,z1+j*12,none⟩=some (.string nmx):=p0
      have c1:wr.cell? ⟨b1,z1+j*12+1,none⟩=some (.int .i64 kdx):=p1
      have c2:wr.cell? ⟨b1,z1+j*12+2,none⟩=some (.slice Px pnx pcx):=p2
      have c3:wr.cell? ⟨b1,z1+j*12+3,none⟩=some (.int .i64 kx):=p3
      have c4:wr.cell? ⟨b1,z1+j*12+4,none⟩=some (.int .i64 ox):=p4
      have c5:wr.cell? ⟨b1,z1+j*12+5,none⟩=some (.int .i64 vkx):=p5
      have c6:wr.cell? ⟨b1,z1+j*12+6,none⟩=some (.int .i64 vnx):=p6
      have c7:wr.cell? ⟨b1,z1+j*12+7,none⟩=some (.string vsx):=p7
      have c8:wr.cell? ⟨b1,z1+j*12+8,none⟩=some (.string nsx):=p8
      have c9:wr.cell? ⟨b1,z1+j*12+9,none⟩=some (.slice Ax nx cx):=p9
      have c10:wr.cell? ⟨b1,z1+j*12+10,none⟩=some (.string tbx):=p10
      have c11:wr.cell? ⟨b1,z1+j*12+11,none⟩=some (.slice Qx qnx qcx):=p11
      obtain ⟨V2,hV2⟩:∃W1,wr.alloc (.cells #[.string nmx, .int .i64 kdx, .slice Px pnx pcx, .int .i64 kx, .int .i64 ox, .int .i64 vkx, .int .i64 vnx, .string vsx, .string nsx, .slice Ax nx cx, .string tbx, .slice Qx qnx qcx] 56)=W1:=⟨_,rfl⟩
      have hbw:Below wr.heap.size wr V2:=by rw [←hV2];exact al (Below.refl _ _) _
      have xw:Cel V2 wr.heap.size 56 #[.string nmx, .int .i64 kdx, .slice Px pnx pcx, .int .i64 kx, .int .i64 ox, .int .i64 vkx, .int .i64 vnx, .string vsx, .string nsx, .slice Ax nx cx, .string tbx, .slice Qx qnx qcx]:=by rw [←hV2];exact Cel.new _ _ _ rfl
      have v0:V2.cell? ⟨wr.heap.size,0,none⟩=some (.string nmx):=xw.at_ 0
      have v1:V2.cell? ⟨wr.heap.size,1,none⟩=some (.int .i64 kdx):=xw.at_ 1
      have v2:V2.cell? ⟨wr.heap.size,2,none⟩=some (.slice Px pnx pcx):=xw.at_ 2
      have v3:V2.cell? ⟨wr.heap.size,3,none⟩=some (.int .i64 kx):=xw.at_ 3
      have v4:V2.cell? ⟨wr.heap.size,4,none⟩=some (.int .i64 ox):=xw.at_ 4
      have v5:V2.cell? ⟨wr.heap.size,5,none⟩=some (.int .i64 vkx):=xw.at_ 5
      have v6:V2.cell? ⟨wr.heap.size,6,none⟩=some (.int .i64 vnx):=xw.at_ 6
      have v7:V2.cell? ⟨wr.heap.size,7,none⟩=some (.string vsx):=xw.at_ 7
      have v8:V2.cell? ⟨wr.heap.size,8,none⟩=some (.string nsx):=xw.at_ 8
      have v9:V2.cell? ⟨wr.heap.size,9,none⟩=some (.slice Ax nx cx):=xw.at_ 9
      have v10:V2.cell? ⟨wr.heap.size,10,none⟩=some (.string tbx):=xw.at_ 10
      have v11:V2.cell? ⟨wr.heap.size,11,none⟩=some (.slice Qx qnx qcx):=xw.at_ 11
      have hw1:Ww b k1 kg1 V2:=hw.below hbw
      have hr1:Wr b wr V2:=Wr.of hbw (Nat.le_of_lt hwl)
      have HSAY:=Lib.hid (show Calls Tryz.prog 73 #[.pointer (some ⟨b,0,none⟩), .slice (some ⟨V2.heap.size,0,none⟩) 1 1] (V2.alloc (.cells #[.string ⟨#[44,32]⟩] tS)) (WDid b k1 kg1 [44,32] V2) from saying [[44,32]] hw1 (by simp) (by simp;omega))
      have HNEXT:=Lib.hid (show ∀w1 l2 lg2,Ww b l2 lg2 w1→Wr b V2 w1→Wt kg1 k1 [44,32] lg2 l2→Cel w1 wr.heap.size 56 #[.string nmx, .int .i64 kdx, .slice Px pnx pcx, .int .i64 kx, .int .i64 ox, .int .i64 vkx, .int .i64 vnx, .string vsx, .string nsx, .slice Ax nx cx, .string tbx, .slice Qx qnx qcx]∧Calls Tryz.prog 75 #[.pointer (some ⟨b,0,none⟩), .agg #[.string nmx, .int .i64 kdx, .slice Px pnx pcx, .int .i64 kx, .int .i64 ox, .int .i64 vkx, .int .i64 vnx, .string vsx, .string nsx, .slice Ax nx cx, .string tbx, .slice Qx qnx qcx]] w1 (WDid b l2 lg2 (tx (cnP x)) w1)∧Wr b wr w1 from fun w1 l2 lg2 g1 g2 g3=>by
        have hr2:=hr1.trans g2
        have hl2:=g3.len
        rw [h2] at hl2
        exact ⟨g2.cel (by omega) (by decide) xw,wcons_any (cs:= [.string nmx, .int .i64 kdx, .slice Px pnx pcx, .int .i64 kx, .int .i64 ox, .int .i64 vkx, .int .i64 vnx, .string vsx, .string nsx, .slice Ax nx cx, .string tbx, .slice Qx qnx qcx]) (HIN.out.below hr2.1) (Yhc.out x hxm) (fun hl=>(HX.out.exs _ (.inl ⟨x,hxm,rfl⟩) hl).to (hr.trans hr2)) g1 (by omega),hr2⟩)
      clear hx hxm hw hr ht hX hwl hT hLE hl1 hTZ hlen1 hb1 hbw hw1 hr1 p0 p1 p2 p3 p4 p5 p6 p7 p8 p9 p10 p11 in1 xw HE h2
      go_wp2_with (first|(go_at_call 73;(with_reducible refine HSAY.out.mono ?_);rintro e1 w1 ⟨rfl,l2,lg2,g1,g2,g3⟩;obtain ⟨y1,y2,y3⟩:=HNEXT.out w1 l2 lg2 g1 g2 g3;have hx1:=Lib.hid y1;have HCC:=Lib.hid y2;have HR2:=Lib.hid y3;have HT2:=Lib.hid g3;have u0:w1.cell? ⟨wr.heap.size,0,none⟩=some (.string nmx):=hx1.out.at_ 0;have u1:w1.cell? ⟨wr.heap.size,1,none⟩=some (.int .i64 kdx):=hx1.out.at_ 1;have u2:w1.cell? ⟨wr.heap.size,2,none⟩=some (.slice Px pnx pcx):=hx1.out.at_ 2;have u3:w1.cell? ⟨wr.heap.size,3,none⟩=some (.int .i64 kx):=hx1.out.at_ 3;have u4:w1.cell? ⟨wr.heap.size,4,none⟩=some (.int .i64 ox):=hx1.out.at_ 4;have u5:w1.cell? ⟨wr.heap.size,5,none⟩=some (.int .i64 vkx):=hx1.out.at_ 5;have u6:w1.cell? ⟨wr.heap.size,6,none⟩=some (.int .i64 vnx):=hx1.out.at_ 6;have u7:w1.cell? ⟨wr.heap.size,7,none⟩=some (.string vsx):=hx1.out.at_ 7;have u8:w1.cell? ⟨wr.heap.size,8,none⟩=some (.string nsx):=hx1.out.at_ 8;have u9:w1.cell? ⟨wr.heap.size,9,none⟩=some (.slice Ax nx cx):=hx1.out.at_ 9;have u10:w1.cell? ⟨wr.heap.size,10,none⟩=some (.string tbx):=hx1.out.at_ 10;have u11:w1.cell? ⟨wr.heap.size,11,none⟩=some (.slice Qx qnx qcx):=hx1.out.at_ 11;clear g1 g2 g3 y1 y2 y3)|(go_at_call 75;(with_reducible refine HCC.out.mono ?_);rintro e1 w2 ⟨rfl,l3,lg3,g1,g2,g3⟩;have HR:=Lib.hid (HSTEP.out w2 l3 lg3 g1 (HR2.out.trans g2) (HT2.out.trans g3));clear g1 g2 g3))
      go_roundw
      case rel=>exact ⟨j+1,by omega,by go_num,HR⟩
      case measure=>simp [intOf];omega
    · have tl:decide ((j:Int)<(n5:Int))=false:=decide_eq_false (by omega)
      obtain rfl:j=n5:=by omega
      obtain ⟨⟨l3,lg3,g1,g2,g3⟩,g4⟩:=HE.out
      rw [HN.out,List.take_length] at g3
      have W3:=Lib.hid g1
      have R3:=Lib.hid g2
      have T3:=Lib.hid g3
      have X3:=Lib.hid g4
      clear g1 g2 g3 g4 HE HST
      have H3:=Lib.hid (show Calls Tryz.prog 73 #[.pointer (some ⟨b,0,none⟩), .slice (some ⟨wr.heap.size,0,none⟩) 1 1] (wr.alloc (.cells #[.string ⟨#[41]⟩] tS)) (WDid b l3 lg3 (List.flatten [[41]]) wr) from saying [[41]] W3.out (by simp) (by have h1:=T3.out.len;have h2:=HLEN.out;simp only [List.length_append,List.length_nil] at h1 h2 ⊢;omega))
      go_wp2_with (go_at_call 73;(with_reducible refine H3.out.mono ?_))
      rintro e4 w4 ⟨rfl,l4,lg4,g1,g2,g3⟩
      have W4:=Lib.hid g1
      have R4:=Lib.hid (R3.out.trans g2)
      have T4:=Lib.hid (show Wt lg l ([]++(List.flatten [[67,82,69,65,84,69,32,84,65,66,76,69,32],t, [32,40]])++(tx (sep (cols.map coP)))++tx (csP cons)++(List.flatten [[41]])) lg4 l4 from T3.out.trans g3)
      have X4:=Lib.hid (g2.cel (by omega) (by decide) X3.out:Cel w4 w.heap.size tSt f.cells.toArray)
      clear g1 g2 g3
      go_wp2
      go_end0
      exact ⟨rfl,_,_,W4.out,R4.out,by have:=T4.out;rwa [show []++(List.flatten [[67,82,69,65,84,69,32,84,65,66,76,69,32],t, [32,40]])++(tx (sep (cols.map coP)))++tx (csP cons)++(List.flatten [[41]])=tx (stP (.mk 1 t n r cols cons names rows wh sets order limit priv opt kids)) from by rw [tx_wcreate Yhne.out];rfl] at this⟩
end
end Go.Proofs.YtiaomhdmllhmmaaGreatDoor.Sm
namespace Go.Proofs.YtiaomhdmllhmmaaGreatDoor.Sm
open Go.RowKit Mem Ep Right Lx Go.ChangeShapes Go.WideShapes
set_option linter.unusedVariables false
section
variable {w w' :World} {b:Nat} {l:List UInt8} {lg:Bool} {f:Fl}
theorem tx_wexec_one {t n r:Bs} {cols:List Co} {cons:List Cn} {names:List Bs} {x:List Ex} {wh:Ex} {sets:List (Bs × Ex)} {order:List (Ex × Bool)} {limit priv:Int} {opt:Bool} {kids:List St}:tx (stP (.mk 21 t n r cols cons names [x] wh sets order limit priv opt kids))=List.flatten [[69,88,69,67,85,84,69,32],n]++(32::tx (rowP x)):=by
 rw [stP.eq_def]
 show [69,88,69,67,85,84,69,32]++(n++(32::tx (rowP x)))=_;simp
set_option maxRecDepth 100000 in
set_option maxHeartbeats 4000000 in
theorem wexec_one {t n r:Bs} {cols:List Co} {cons:List Cn} {names:List Bs} {x:List Ex} {wh:Ex} {sets:List (Bs × Ex)} {order:List (Ex × Bool)} {limit priv:Int} {opt:Bool} {kids:List St} (hx:WX w b f 21 t n r cols cons names [x] wh sets order limit priv opt kids) (hr:okEs x 6) (h:Ww b l lg w) (HL:l.length+(tx (stP (.mk 21 t n r cols cons names [x] wh sets order limit priv opt kids))).length≤1000000000):
    Calls Tryz.prog 44 #[.pointer (some ⟨b,0,none⟩), .agg f.cells.toArray] w (WDid b l lg (tx (stP (.mk 21 t n r cols cons names [x] wh sets order limit priv opt kids))) w):=by
  obtain ⟨V1,hV1⟩:∃W1,w.alloc (.cells f.cells.toArray tSt)=W1:=⟨_,rfl⟩
  have hb:Below w.heap.size w V1:=by rw [←hV1];exact al (Below.refl _ _) _
  have X0:=Lib.hid (show Cel V1 w.heap.size tSt f.cells.toArray by rw [←hV1];exact Cel.new _ _ _ rfl)
  have hlb:=h.lt
  have hw1:=h.below hb
  have hr1:Wr b w V1:=Wr.of hb (Nat.le_of_lt hlb)
  have HLEN:=Lib.hid (show l.length+(List.flatten [[69,88,69,67,85,84,69,32],n]++(32::tx (rowP x))).length≤1000000000 by rw [←tx_wexec_one];exact HL)
  have HX:=Lib.hid hx
  obtain ⟨⟨q0,q1,q2,q3,q4,q5,q6⟩, -⟩:=hx.all.all
  have E0:=Lib.hid q0
  have E1:=Lib.hid q1
  have E2:=Lib.hid q2
  have E3:=Lib.hid q3
  have E4:=Lib.hid q4
  have E5:=Lib.hid q5
  have E6:=Lib.hid q6
  have Yhr:=Lib.hid hr
  have W0:=Lib.hid hw1
  have R0:=Lib.hid (hr1)
  have T0:=Lib.hid (show Wt lg l [] lg l from .inl ⟨rfl,(List.append_nil l).symm⟩)
  have y0_0:V1.cell? ⟨w.heap.size,0,none⟩=some (.int .i64 21):=(X0.out.at_ 0).trans (by rw [←E0.out];rfl)
  clear h HL hb hw1 hr1 hx q0 q1 q2 q3 q4 q5 q6 hr
  go_enter Tryz.func44,Tryz.ntmps44
  have y0_2:V1.cell? ⟨w.heap.size,2,none⟩=some (.string (Ep.txt n)):=(X0.out.at_ 2).trans (by rw [←E2.out];rfl)
  have H0:=Lib.hid (show Calls Tryz.prog 73 #[.pointer (some ⟨b,0,none⟩), .slice (some ⟨V1.heap.size,0,none⟩) 2 2] (V1.alloc (.cells #[.string ⟨#[69,88,69,67,85,84,69,32]⟩, .string (Ep.txt n)] tS)) (WDid b l lg (List.flatten [[69,88,69,67,85,84,69,32],n]) V1) from saying [[69,88,69,67,85,84,69,32],n] W0.out (by simp) (by have h1:=T0.out.len;have h2:=HLEN.out;simp only [List.length_append,List.length_nil] at h1 h2 ⊢;omega))
  go_wp2_with (go_at_call 73;(with_reducible refine H0.out.mono ?_))
  rintro e1 w1 ⟨rfl,l1,lg1,g1,g2,g3⟩
  have W1:=Lib.hid g1
  have R1:=Lib.hid (R0.out.trans g2)
  have T1:=Lib.hid (show Wt lg l ([]++(List.flatten [[69,88,69,67,85,84,69,32],n])) lg1 l1 from T0.out.trans g3)
  have X1:=Lib.hid (g2.cel (by omega) (by decide) X0.out:Cel w1 w.heap.size tSt f.cells.toArray)
  clear g1 g2 g3
  have y1_7:w1.cell? ⟨w.heap.size,7,none⟩=some (.slice f.A7 f.n7 f.a7):=X1.out.at_ 7
  have hL7:=HX.out.all.all.2.2.2.2.1
  obtain ⟨b1,z1,A1,n1,c1,hA,hb1,p0,in1⟩:=rw_at (hL7.below R1.out.1).2.2 (show [x][0]?=some x from rfl)
  have hn7:f.n7=1:=hL7.1
  have z7:w1.cell? ⟨w.heap.size,7,none⟩=some (.slice (some ⟨b1,z1,none⟩) 1 f.a7):=y1_7.trans (by rw [hA,hn7])
  have HB1:=Lib.hid hb1
  have HP0:=Lib.hid (show w1.cell? ⟨b1,z1,none⟩=some (.slice A1 n1 c1) by simpa using p0)
  have HIN:=Lib.hid in1
  have HST:=Lib.hid (show ListI b l lg w (if (0:Nat)=0 then []++(List.flatten [[69,88,69,67,85,84,69,32],n]) else []++(List.flatten [[69,88,69,67,85,84,69,32],n])++(32::tx (rowP x))) w1∧Wr b w1 w1 from ⟨⟨l1,lg1,W1.out,R1.out,T1.out⟩,Wr.refl _ _⟩)
  clear hL7 hA hn7 hb1 p0 in1 y1_7
  go_wp2
  go_loopw [31] (fun i wr=>∃j:Nat,j≤1∧i= .int .i64 (j:Int)∧Hid (ListI b l lg w (if j=0 then []++(List.flatten [[69,88,69,67,85,84,69,32],n]) else []++(List.flatten [[69,88,69,67,85,84,69,32],n])++(32::tx (rowP x))) wr∧Wr b w1 wr)) (fun i _=>2 - (intOf i).toNat)
  case atStart=>exact ⟨0,Nat.zero_le _,rfl,HST⟩
  case round=>
    obtain ⟨j,hj,rfl,HE⟩:=hrel
    by_cases hlt:j=0
    · subst hlt
      obtain ⟨⟨k1,kg1,hw,hr,ht⟩,hr0⟩:=HE.out
      rw [if_pos rfl] at ht
      have hwl:=hw.lt
      have c0:wr.cell? ⟨b1,z1,none⟩=some (.slice A1 n1 c1):=(hr0.1.cell (p:=⟨b1,z1,none⟩) HB1.out).trans HP0.out
      have hlen1:k1.length+(1+(tx (rowP x)).length)≤1000000000:=by
        have h1:=ht.len
        have h2:=HLEN.out
        simp only [List.length_append,List.length_cons,List.length_nil] at h1 h2
        omega
      have HSAY:=Lib.hid (show Calls Tryz.prog 73 #[.pointer (some ⟨b,0,none⟩), .slice (some ⟨wr.heap.size,0,none⟩) 1 1] (wr.alloc (.cells #[.string ⟨#[32]⟩] tS)) (WDid b k1 kg1 [32] wr) from saying [[32]] hw (by simp) (by simp;omega))
      have HNEXT:=Lib.hid (show ∀w2 l2 lg2,Ww b l2 lg2 w2→Wr b wr w2→Wt kg1 k1 [32] lg2 l2→Calls Tryz.prog 82 #[.pointer (some ⟨b,0,none⟩), .slice A1 n1 c1] w2 (fun e w' =>e= .returned (.tuple #[])∧(ListI b l lg w (if (0+1)=0 then []++(List.flatten [[69,88,69,67,85,84,69,32],n]) else []++(List.flatten [[69,88,69,67,85,84,69,32],n])++(32::tx (rowP x))) w' ∧Wr b w1 w')) from fun w2 l2 lg2 g1 g2 g3=>by
        obtain ⟨u,hu,hrr⟩:=row_is.1 (HIN.out.below (hr0.trans g2).1)
        injection hu with hu
        subst hu
        have hl2:=g3.len
        simp only [List.length_cons,List.length_nil] at hl2
        refine (wrow_any hrr (fun e he=>(HX.out.exs _ (.inr (.inl ⟨x,by simp,he⟩)) (Yhr.out.2.2 e he)).to (hr.trans g2)) g1 (by omega)).mono fun e w' d=>?_
        obtain ⟨d1,l',lg',d2,d3,d4⟩:=d
        exact ⟨d1,⟨l',lg',d2,(hr.trans g2).trans d3,by rw [if_neg (by decide)];exact ht.trans (g3.trans d4)⟩,(hr0.trans g2).trans d3⟩)
      clear hw hr ht hr0 hwl hlen1 HE HST
      go_wp2_with (first|(go_at_call 73;(with_reducible refine HSAY.out.mono ?_);rintro e1 w2 ⟨rfl,l2,lg2,g1,g2,g3⟩;have HCC:=Lib.hid (HNEXT.out w2 l2 lg2 g1 g2 g3);clear g1 g2 g3)|(go_at_call 82;(with_reducible refine HCC.out.mono ?_);rintro e1 w3 ⟨rfl,hli⟩;have HR:=Lib.hid hli;clear hli))
      go_roundw
      case rel=>exact ⟨0+1,by omega,by first|rfl|go_num,HR⟩
      case measure=>(simp [intOf];try omega)
    · obtain rfl:j=1:=by omega
      obtain ⟨⟨l2,lg2,g1,g2,g3⟩, -⟩:=HE.out
      rw [if_neg (by decide)] at g3
      have W2:=Lib.hid g1
      have R2:=Lib.hid g2
      have T2:=Lib.hid g3
      clear g1 g2 g3 HE HST
      go_wp2
      go_end0
      exact ⟨rfl,_,_,W2.out,R2.out,by have:=T2.out;rwa [show []++(List.flatten [[69,88,69,67,85,84,69,32],n])++(32::tx (rowP x))=tx (stP (.mk 21 t n r cols cons names [x] wh sets order limit priv opt kids)) from by rw [tx_wexec_one];rfl] at this⟩
theorem tx_wexec_none {t n r:Bs} {cols:List Co} {cons:List Cn} {names:List Bs} {wh:Ex} {sets:List (Bs × Ex)} {order:List (Ex × Bool)} {limit priv:Int} {opt:Bool} {kids:List St}:tx (stP (.mk 21 t n r cols cons names [] wh sets order limit priv opt kids))=List.flatten [[69,88,69,67,85,84,69,32],n]:=by
 rw [stP.eq_def]
 rfl
set_option maxRecDepth 100000 in
set_option maxHeartbeats 4000000 in
theorem wexec_none {t n r:Bs} {cols:List Co} {cons:List Cn} {names:List Bs} {wh:Ex} {sets:List (Bs × Ex)} {order:List (Ex × Bool)} {limit priv:Int} {opt:Bool} {kids:List St} (hx:WX w b f 21 t n r cols cons names [] wh sets order limit priv opt kids)  (h:Ww b l lg w) (HL:l.length+(tx (stP (.mk 21 t n r cols cons names [] wh sets order limit priv opt kids))).length≤1000000000):
   Calls Tryz.prog 44 #[.pointer (some ⟨b,0,none⟩), .agg f.cells.toArray] w (WDid b l lg (tx (stP (.mk 21 t n r cols cons names [] wh sets order limit priv opt kids))) w):=by
 obtain ⟨V1,hV1⟩:∃W1,w.alloc (.cells f.cells.toArray tSt)=W1:=⟨_,rfl⟩
 have hb:Below w.heap.size w V1:=by rw [←hV1];exact al (Below.refl _ _) _
 have X0:=Lib.hid (show Cel V1 w.heap.size tSt f.cells.toArray by rw [←hV1];exact Cel.new _ _ _ rfl)
 have hlb:=h.lt
 have hw1:=h.below hb
 have hr1:Wr b w V1:=Wr.of hb (Nat.le_of_lt hlb)
 have HLEN:=Lib.hid (show l.length+(List.flatten [[69,88,69,67,85,84,69,32],n]).length≤1000000000 by rw [←tx_wexec_none];exact HL)
 have HX:=Lib.hid hx
 obtain ⟨⟨q0,q1,q2,q3,q4,q5,q6⟩, -⟩:=hx.all.all
 have E0:=Lib.hid q0
 have E1:=Lib.hid q1
 have E2:=Lib.hid q2
 have E3:=Lib.hid q3
 have E4:=Lib.hid q4
 have E5:=Lib.hid q5
 have E6:=Lib.hid q6
 have W0:=Lib.hid hw1
 have R0:=Lib.hid (hr1)
 have T0:=Lib.hid (show Wt lg l [] lg l from .inl ⟨rfl,(List.append_nil l).symm⟩)
 have y0_0:V1.cell? ⟨w.heap.size,0,none⟩=some (.int .i64 21):=(X0.out.at_ 0).trans (by rw [←E0.out];rfl)
 clear h HL hb hw1 hr1 hx q0 q1 q2 q3 q4 q5 q6
 go_enter Tryz.func44,Tryz.ntmps44
 have y0_2:V1.cell? ⟨w.heap.size,2,none⟩=some (.string (Ep.txt n)):=(X0.out.at_ 2).trans (by rw [←E2.out];rfl)
 have H0:=Lib.hid (show Calls Tryz.prog 73 #[.pointer (some ⟨b,0,none⟩), .slice (some ⟨V1.heap.size,0,none⟩) 2 2] (V1.alloc (.cells #[.string ⟨#[69,88,69,67,85,84,69,32]⟩, .string (Ep.txt n)] tS)) (WDid b l lg (List.flatten [[69,88,69,67,85,84,69,32],n]) V1) from saying [[69,88,69,67,85,84,69,32],n] W0.out (by simp) HLEN.out)
 go_wp2_with (go_at_call 73;(with_reducible refine H0.out.mono ?_))
 rintro e1 w1 ⟨rfl,l1,lg1,g1,g2,g3⟩
 have W1:=Lib.hid g1
 have R1:=Lib.hid (R0.out.trans g2)
 have T1:=Lib.hid (show Wt lg l ([]++(List.flatten [[69,88,69,67,85,84,69,32],n])) lg1 l1 from T0.out.trans g3)
 have X1:=Lib.hid (g2.cel (by omega) (by decide) X0.out:Cel w1 w.heap.size tSt f.cells.toArray)
 clear g1 g2 g3
 have y1_7:w1.cell? ⟨w.heap.size,7,none⟩=some (.slice f.A7 f.n7 f.a7):=X1.out.at_ 7
 have hL7:=HX.out.all.all.2.2.2.2.1
 have hn7:f.n7=0:=hL7.1
 have z7:w1.cell? ⟨w.heap.size,7,none⟩=some (.slice f.A7 0 f.a7):=y1_7.trans (by rw [hn7])
 clear hL7 hn7 y1_7
 go_wp2
 go_loopw [31] (fun i wr=>i= .int .i64 0∧wr=w1) (fun _ _=>0)
 case atStart=>exact ⟨rfl,rfl⟩
 case round=>
   obtain ⟨rfl,rfl⟩:=hrel
   go_wp2
   go_end0
   exact ⟨rfl,_,_,W1.out,R1.out,by have:=T1.out;rwa [show []++(List.flatten [[69,88,69,67,85,84,69,32],n])=tx (stP (.mk 21 t n r cols cons names [] wh sets order limit priv opt kids)) from by rw [tx_wexec_none];rfl] at this⟩
end
end Go.Proofs.YtiaomhdmllhmmaaGreatDoor.Sm
namespace Go.Proofs.YtiaomhdmllhmmaaGreatDoor.Sm
open Go.RowKit Mem Ep Right Lx Go.ChangeShapes Go.WideShapes
set_option linter.unusedVariables false
section
variable {w w' :World} {b:Nat} {l:List UInt8} {lg:Bool} {f:Fl}
theorem tx_wprepare {t n r:Bs} {cols:List Co} {cons:List Cn} {names:List Bs} {rows:List (List Ex)} {wh:Ex} {sets:List (Bs × Ex)} {order:List (Ex × Bool)} {limit priv:Int} {opt:Bool} {x:St}:tx (stP (.mk 20 t n r cols cons names rows wh sets order limit priv opt [x]))=List.flatten [[80,82,69,80,65,82,69,32],n, [32,65,83,32]]++tx (stP x):=by
 rw [stP.eq_def]
 show [80,82,69,80,65,82,69,32]++(n++([32,65,83,32]++tx (stP x)))=_;simp
set_option maxRecDepth 100000 in
set_option maxHeartbeats 4000000 in
theorem wprepare {t n r:Bs} {cols:List Co} {cons:List Cn} {names:List Bs} {rows:List (List Ex)} {wh:Ex} {sets:List (Bs × Ex)} {order:List (Ex × Bool)} {limit priv:Int} {opt:Bool} {x:St} (hx:WX w b f 20 t n r cols cons names rows wh sets order limit priv opt [x]) (hk:∀W l1 lg1 cs,Ww b l1 lg1 W→Wr b w W→DtIn W (fun c=>c<b) (stDt x) cs→l1.length+(tx (stP x)).length≤1000000000→Calls Tryz.prog 27 #[.pointer (some ⟨b,0,none⟩), .agg cs.toArray] W (WDid b l1 lg1 (tx (stP x)) W)) (h:Ww b l lg w) (HL:l.length+(tx (stP (.mk 20 t n r cols cons names rows wh sets order limit priv opt [x]))).length≤1000000000):
   Calls Tryz.prog 44 #[.pointer (some ⟨b,0,none⟩), .agg f.cells.toArray] w (WDid b l lg (tx (stP (.mk 20 t n r cols cons names rows wh sets order limit priv opt [x]))) w):=by
 obtain ⟨V1,hV1⟩:∃W1,w.alloc (.cells f.cells.toArray tSt)=W1:=⟨_,rfl⟩
 have hb:Below w.heap.size w V1:=by rw [←hV1];exact al (Below.refl _ _) _
 have X0:=Lib.hid (show Cel V1 w.heap.size tSt f.cells.toArray by rw [←hV1];exact Cel.new _ _ _ rfl)
 have hlb:=h.lt
 have hw1:=h.below hb
 have hr1:Wr b w V1:=Wr.of hb (Nat.le_of_lt hlb)
 have HLEN:=Lib.hid (show l.length+(List.flatten [[80,82,69,80,65,82,69,32],n, [32,65,83,32]]++tx (stP x)).length≤1000000000 by rw [←tx_wprepare];exact HL)
 have HX:=Lib.hid hx
 obtain ⟨⟨q0,q1,q2,q3,q4,q5,q6⟩, -⟩:=hx.all.all
 have E0:=Lib.hid q0
 have E1:=Lib.hid q1
 have E2:=Lib.hid q2
 have E3:=Lib.hid q3
 have E4:=Lib.hid q4
 have E5:=Lib.hid q5
 have E6:=Lib.hid q6
 have Yhk:=Lib.hid hk
 have W0:=Lib.hid hw1
 have R0:=Lib.hid (hr1)
 have T0:=Lib.hid (show Wt lg l [] lg l from .inl ⟨rfl,(List.append_nil l).symm⟩)
 have y0_0:V1.cell? ⟨w.heap.size,0,none⟩=some (.int .i64 20):=(X0.out.at_ 0).trans (by rw [←E0.out];rfl)
 clear h HL hb hw1 hr1 hx q0 q1 q2 q3 q4 q5 q6 hk
 go_enter Tryz.func44,Tryz.ntmps44
 have y0_2:V1.cell? ⟨w.heap.size,2,none⟩=some (.string (Ep.txt n)):=(X0.out.at_ 2).trans (by rw [←E2.out];rfl)
 have H0:=Lib.hid (show Calls Tryz.prog 73 #[.pointer (some ⟨b,0,none⟩), .slice (some ⟨V1.heap.size,0,none⟩) 3 3] (V1.alloc (.cells #[.string ⟨#[80,82,69,80,65,82,69,32]⟩, .string (Ep.txt n), .string ⟨#[32,65,83,32]⟩] tS)) (WDid b l lg (List.flatten [[80,82,69,80,65,82,69,32],n, [32,65,83,32]]) V1) from saying [[80,82,69,80,65,82,69,32],n, [32,65,83,32]] W0.out (by simp) (by have h1:=T0.out.len;have h2:=HLEN.out;simp only [List.length_append,List.length_nil] at h1 h2 ⊢;omega))
 go_wp2_with (go_at_call 73;(with_reducible refine H0.out.mono ?_))
 rintro e1 w1 ⟨rfl,l1,lg1,g1,g2,g3⟩
 have W1:=Lib.hid g1
 have R1:=Lib.hid (R0.out.trans g2)
 have T1:=Lib.hid (show Wt lg l ([]++(List.flatten [[80,82,69,80,65,82,69,32],n, [32,65,83,32]])) lg1 l1 from T0.out.trans g3)
 have X1:=Lib.hid (g2.cel (by omega) (by decide) X0.out:Cel w1 w.heap.size tSt f.cells.toArray)
 clear g1 g2 g3
 have y1_20:w1.cell? ⟨w.heap.size,20,none⟩=some (.slice f.A14 f.n14 f.a14):=X1.out.at_ 20
 have hL14:=HX.out.all.all.2.2.2.2.2.2.2.2
 obtain ⟨b1,z1,cs1,hA,hb1,at1,in1⟩:=kid_at (hL14.below R1.out.1).2.2 (show [x][0]?=some x from rfl)
 have hn14:f.n14=1:=hL14.1
 have z14:w1.cell? ⟨w.heap.size,20,none⟩=some (.slice (some ⟨b1,z1,none⟩) 1 f.a14):=y1_20.trans (by rw [hA,hn14])
 have HAT:=Lib.hid (show At w1 b1 z1 cs1 by simpa using at1)
 have HLN:=Lib.hid (st_one in1).1
 have HIN:=Lib.hid in1
 clear hL14 hA hn14 hb1 at1 in1 y1_20
 have H1:=Lib.hid (show Calls Tryz.prog 27 #[.pointer (some ⟨b,0,none⟩), .agg cs1.toArray] w1 (WDid b l1 lg1 (tx (stP x)) w1) from Yhk.out w1 l1 lg1 cs1 W1.out R1.out HIN.out (by have h1:=T1.out.len;have h2:=HLEN.out;simp only [List.length_append,List.length_nil] at h1 h2 ⊢;omega))
 go_wp2_with (first|(refine load_stmt rfl _ rfl b1 z1 rfl cs1 HAT.out HLN.out ?_)|(go_at_call 27;(with_reducible refine H1.out.mono ?_)))
 rintro e2 w2 ⟨rfl,l2,lg2,g1,g2,g3⟩
 have W2:=Lib.hid g1
 have R2:=Lib.hid (R1.out.trans g2)
 have T2:=Lib.hid (show Wt lg l ([]++(List.flatten [[80,82,69,80,65,82,69,32],n, [32,65,83,32]])++(tx (stP x))) lg2 l2 from T1.out.trans g3)
 have X2:=Lib.hid (g2.cel (by omega) (by decide) X1.out:Cel w2 w.heap.size tSt f.cells.toArray)
 clear g1 g2 g3
 go_wp2
 go_end0
 exact ⟨rfl,_,_,W2.out,R2.out,by have:=T2.out;rwa [show []++(List.flatten [[80,82,69,80,65,82,69,32],n, [32,65,83,32]])++(tx (stP x))=tx (stP (.mk 20 t n r cols cons names rows wh sets order limit priv opt [x])) from by rw [tx_wprepare];rfl] at this⟩
end
end Go.Proofs.YtiaomhdmllhmmaaGreatDoor.Sm
namespace Go.Proofs.YtiaomhdmllhmmaaGreatDoor.Sm
open Go.RowKit Mem Ep Right Lx Go.ChangeShapes Go.WideShapes
set_option linter.unusedVariables false
section
variable {w w' :World} {b:Nat} {l:List UInt8} {lg:Bool} {f:Fl}
theorem tx_wofRole_14_true {t n r:Bs} {cols:List Co} {cons:List Cn} {names:List Bs} {rows:List (List Ex)} {wh:Ex} {sets:List (Bs × Ex)} {order:List (Ex × Bool)} {limit priv:Int} {kids:List St}:tx (stP (.mk 14 t n r cols cons names rows wh sets order limit priv true kids))=List.flatten [[71,82,65,78,84,32],prW priv, [32,79,78,32],t, [32,84,79,32],r]++List.flatten [[32,87,73,84,72,32,71,82,65,78,84,32,79,80,84,73,79,78]]:=by
 rw [stP.eq_def]
 show [71,82,65,78,84,32]++(prW priv++([32,79,78,32]++(t++([32,84,79,32]++(r++ [32,87,73,84,72,32,71,82,65,78,84,32,79,80,84,73,79,78])))))=_;simp
set_option maxRecDepth 100000 in
set_option maxHeartbeats 4000000 in
theorem wofRole_14_true {t n r:Bs} {cols:List Co} {cons:List Cn} {names:List Bs} {rows:List (List Ex)} {wh:Ex} {sets:List (Bs × Ex)} {order:List (Ex × Bool)} {limit priv:Int} {kids:List St} (hx:WX w b f 14 t n r cols cons names rows wh sets order limit priv true kids)  (h:Ww b l lg w) (HL:l.length+(tx (stP (.mk 14 t n r cols cons names rows wh sets order limit priv true kids))).length≤1000000000):
   Calls Tryz.prog 42 #[.pointer (some ⟨b,0,none⟩), .agg f.cells.toArray] w (WDid b l lg (tx (stP (.mk 14 t n r cols cons names rows wh sets order limit priv true kids))) w):=by
 obtain ⟨V1,hV1⟩:∃W1,w.alloc (.cells f.cells.toArray tSt)=W1:=⟨_,rfl⟩
 have hb:Below w.heap.size w V1:=by rw [←hV1];exact al (Below.refl _ _) _
 have X0:=Lib.hid (show Cel V1 w.heap.size tSt f.cells.toArray by rw [←hV1];exact Cel.new _ _ _ rfl)
 have hlb:=h.lt
 have hw1:=h.below hb
 have hr1:Wr b w V1:=Wr.of hb (Nat.le_of_lt hlb)
 have HLEN:=Lib.hid (show l.length+(List.flatten [[71,82,65,78,84,32],prW priv, [32,79,78,32],t, [32,84,79,32],r]++List.flatten [[32,87,73,84,72,32,71,82,65,78,84,32,79,80,84,73,79,78]]).length≤1000000000 by rw [←tx_wofRole_14_true];exact HL)
 have HX:=Lib.hid hx
 obtain ⟨⟨q0,q1,q2,q3,q4,q5,q6⟩, -⟩:=hx.all.all
 have E0:=Lib.hid q0
 have E1:=Lib.hid q1
 have E2:=Lib.hid q2
 have E3:=Lib.hid q3
 have E4:=Lib.hid q4
 have E5:=Lib.hid q5
 have E6:=Lib.hid q6
 have W0:=Lib.hid hw1
 have R0:=Lib.hid (hr1)
 have T0:=Lib.hid (show Wt lg l [] lg l from .inl ⟨rfl,(List.append_nil l).symm⟩)
 have y0_0:V1.cell? ⟨w.heap.size,0,none⟩=some (.int .i64 14):=(X0.out.at_ 0).trans (by rw [←E0.out];rfl)
 clear h HL hb hw1 hr1 hx q0 q1 q2 q3 q4 q5 q6
 have y0_18:V1.cell? ⟨w.heap.size,18,none⟩=some (.int .i64 priv):=(X0.out.at_ 18).trans (by rw [←E5.out];rfl)
 have y0_1:V1.cell? ⟨w.heap.size,1,none⟩=some (.string (Ep.txt t)):=(X0.out.at_ 1).trans (by rw [←E1.out];rfl)
 have y0_3:V1.cell? ⟨w.heap.size,3,none⟩=some (.string (Ep.txt r)):=(X0.out.at_ 3).trans (by rw [←E3.out];rfl)
 have y0_19:V1.cell? ⟨w.heap.size,19,none⟩=some (.bool true):=(X0.out.at_ 19).trans (by rw [←E6.out];rfl)
 have HT:=Lib.hid (show ∀W,Calls Tryz.prog 15 #[.int .i64 priv] W fun e w' =>e= .returned (.string (Ep.txt (prW priv)))∧W=w' from fun W=>by rw [←privV_txt];exact priv_any priv W)
 have HS:=Lib.hid (show Calls Tryz.prog 73 #[.pointer (some ⟨b,0,none⟩), .slice (some ⟨V1.heap.size,0,none⟩) 6 6] (V1.drew.alloc (.cells #[.string ⟨#[71,82,65,78,84,32]⟩, .string (Ep.txt (prW priv)), .string ⟨#[32,79,78,32]⟩, .string (Ep.txt (t)), .string ⟨#[32,84,79,32]⟩, .string (Ep.txt (r))] tS)) (fun e w' =>e= .returned (.tuple #[])∧∃l' lg',Ww b l' lg' w' ∧Wr b w w' ∧Wt lg l ([]++(List.flatten [[71,82,65,78,84,32],prW priv, [32,79,78,32],t, [32,84,79,32],r])) lg' l' ∧Cel w' w.heap.size tSt f.cells.toArray) from (saying [[71,82,65,78,84,32],prW priv, [32,79,78,32],t, [32,84,79,32],r] (W0.out.drew:Ww b l lg V1.drew) (by simp) (by have h2:=HLEN.out;first|(simp only [List.length_append] at h2;omega)|omega)).mono fun e w' d=>(by
     obtain ⟨d1,l',lg',d2,d3,d4⟩:=d
     exact ⟨d1,l',lg',d2,(R0.out.drewN 1).trans d3,d4,d3.cel (by omega) (by decide) (show Cel V1.drew w.heap.size tSt f.cells.toArray from X0.out)⟩))
 go_enter Tryz.func42,Tryz.ntmps42
 go_wp2
 go_region_with ((first|(go_at_call 15;(with_reducible refine (HT.out _).mono ?_);rintro e1 w1 ⟨rfl,rfl⟩)|(go_at_call 73;refine HS.out.mono ?_;rintro e1 w1 ⟨rfl,l1,lg1,g1,g2,g3,g4⟩;have W1:=Lib.hid g1;have R1:=Lib.hid g2;have T1:=Lib.hid g3;have X1:=Lib.hid g4;have u19:w1.cell? ⟨w.heap.size,19,none⟩=some (.bool true):=(X1.out.at_ 19).trans (by rw [←E6.out];rfl);clear g1 g2 g3 g4)))
 all_goals
   have H1:=Lib.hid (show Calls Tryz.prog 73 #[.pointer (some ⟨b,0,none⟩), .slice (some ⟨w1.heap.size,0,none⟩) 1 1] (w1.alloc (.cells #[.string ⟨#[32,87,73,84,72,32,71,82,65,78,84,32,79,80,84,73,79,78]⟩] tS)) (WDid b l1 lg1 (List.flatten [[32,87,73,84,72,32,71,82,65,78,84,32,79,80,84,73,79,78]]) w1) from saying [[32,87,73,84,72,32,71,82,65,78,84,32,79,80,84,73,79,78]] W1.out (by simp) (by have h1:=T1.out.len;have h2:=HLEN.out;simp only [List.length_append,List.length_nil] at h1 h2 ⊢;omega))
   go_wp2_with (go_at_call 73;(with_reducible refine H1.out.mono ?_))
   rintro e2 w2 ⟨rfl,l2,lg2,g1,g2,g3⟩
   have W2:=Lib.hid g1
   have R2:=Lib.hid (R1.out.trans g2)
   have T2:=Lib.hid (show Wt lg l ([]++(List.flatten [[71,82,65,78,84,32],prW priv, [32,79,78,32],t, [32,84,79,32],r])++(List.flatten [[32,87,73,84,72,32,71,82,65,78,84,32,79,80,84,73,79,78]])) lg2 l2 from T1.out.trans g3)
   have X2:=Lib.hid (g2.cel (by omega) (by decide) X1.out:Cel w2 w.heap.size tSt f.cells.toArray)
   clear g1 g2 g3
   go_wp2
   go_end0
   exact ⟨rfl,_,_,W2.out,R2.out,by have:=T2.out;rwa [show []++(List.flatten [[71,82,65,78,84,32],prW priv, [32,79,78,32],t, [32,84,79,32],r])++(List.flatten [[32,87,73,84,72,32,71,82,65,78,84,32,79,80,84,73,79,78]])=tx (stP (.mk 14 t n r cols cons names rows wh sets order limit priv true kids)) from by rw [tx_wofRole_14_true];rfl] at this⟩
end
end Go.Proofs.YtiaomhdmllhmmaaGreatDoor.Sm
