/- A sign ahead of one, or behind it, is written. A sign between two is written, from a tree's cells. An expression's text (Print): the program's answer, where its parts are written as they mu Small contracts of package value: known, holds, whole, plain, chain; and of the law's own  A row of bytes that the call made, filled from the front by copies of texts. -/
import Derived.Test.YtiaomhdmllhmmaaGreatDoorK07
import Derived.WalkKit
import Derived.WalkSpells
import Derived.WalkLawsBesides
import Derived.Laws.ResultCell
import Derived.Lib.Hide
import Derived.Lib.IndexBytes
import Derived.Test.YtiaomhdmllhmmaaGreatDoorRows
import Derived.Test.YtiaomhdmllhmmaaGreatDoorK01
import Derived.Lib.AppendStr
import Derived.Laws.CopyRow
import Derived.Laws.MakeOwn
import Derived.Laws.IdiomStrings
namespace Go.Proofs.YtiaomhdmllhmmaaGreatDoor.Ep
open Go.RowKit Mem Right Lx
set_option linter.unusedVariables false
theorem drew_wr (b:Nat) (W:World):Wr b W W.drew:=⟨(Below.refl b W).drew,(Lib.OthersKept.refl t8 (some b) W).drew⟩
set_option maxHeartbeats 4000000 in
set_option maxRecDepth 100000 in
theorem un_any {a:Ex} (ha:KidC a) (o:Int) (h1o:1≤o) (h4o:o≤4) (ca:List Value) (b:Nat) (l:List UInt8) (w:World) (h1:ExAt w b a ca) (hl:Bl b l w) (hO:Osg w) (hg:gTop<b) (hlen:l.length+(tx (pcs (un o a))).length≤1000000):
   Calls Tryz.prog 229 #[prV b, .int .i64 o, .agg ca.toArray] w fun x w' =>x= .returned (.tuple #[])∧∃l',Bl b l' w' ∧Wr b w w' ∧WT l (tx (pcs (un o a))) l' :=by
 have hka:=h1
 obtain ⟨k1,o1,vk1,vn1,vs1,nm1,kids1⟩:=a
 obtain ⟨A1,n1,c1,rfl, -⟩:=ex_open h1
 obtain ⟨a,hea⟩:∃a,Ex.mk k1 o1 vk1 vn1 vs1 nm1 kids1=a:=⟨_,rfl⟩
 rw [hea] at hka ha hlen ⊢
 clear hea h1
 obtain ⟨W,hW⟩:∃W,(w.alloc (.cells (prC b) tP)).alloc (.cells #[.int .i64 k1, .int .i64 o1, .int .i64 vk1, .int .i64 vn1, .string (txt vs1), .string (txt nm1), .slice A1 n1 c1] tE)=W:=⟨_,rfl⟩
 obtain ⟨g1,g2,g3,g4⟩:=boxes hl _ _ _ _ W hW (by decide) (by decide)
 have HX:=Lib.hid (show ∀W',Wr b W W' →(W'.cell? ⟨w.heap.size,0,none⟩=some (.func (.func 129) #[.pointer (some ⟨b,0,none⟩)] #[])∧W'.cell? ⟨w.heap.size,1,none⟩=some (.func (.func 28) #[.pointer (some ⟨b,0,none⟩)] #[]))∧(W'.cell? ⟨w.heap.size+1,0,none⟩=some (.int .i64 k1)∧W'.cell? ⟨w.heap.size+1,1,none⟩=some (.int .i64 o1)∧W'.cell? ⟨w.heap.size+1,2,none⟩=some (.int .i64 vk1)∧W'.cell? ⟨w.heap.size+1,3,none⟩=some (.int .i64 vn1)∧W'.cell? ⟨w.heap.size+1,4,none⟩=some (.string (txt vs1))∧W'.cell? ⟨w.heap.size+1,5,none⟩=some (.string (txt nm1))∧W'.cell? ⟨w.heap.size+1,6,none⟩=some (.slice A1 n1 c1)) from fun W' hW' =>by
   have y:=g4 W' hW'
   exact ⟨⟨(g3 W' hW').at_ 0,(g3 W' hW').at_ 1⟩,y.at_ 0,y.at_ 1,y.at_ 2,y.at_ 3,y.at_ 4,y.at_ 5,y.at_ 6⟩)
 have HKD:=Lib.hid (show ∀(r:Nat) (l' :List UInt8) W',Bl b l' W' →Wr b W W' →l'.length+(tx (kidP a r)).length≤1000000→Calls Tryz.prog 194 #[prV b,exV k1 o1 vk1 vn1 (txt vs1) (txt nm1) A1 n1 c1, .int .i64 (r:Int)] W' fun x w' =>x= .returned (.tuple #[])∧∃l2,Bl b l2 w' ∧Wr b W' w' ∧WT l' (tx (kidP a r)) l2 from
   fun r l' W' q1 q2 q3=>ha _ b r l' W' (hka.wr (g1.trans q2)) q1 (hO.below (g1.trans q2).1 hg) hg q3)
 have HPUT:=Lib.hid (show ∀(s:ByteArray) (m:List UInt8) W',Bl b m W' →m.length+s.size≤1000000000→Calls Tryz.prog 129 #[.pointer (some ⟨b,0,none⟩), .string s] W' fun e w' =>∃n,e= .returned (.tuple #[.int .i64 n, .nilIface])∧Bl b (m++s.data.toList) w' ∧Wr b W' w' from fun s m W' q1 q2=>put_any b m s W' q1 q2)
 have HW:=Lib.hid g1
 have HL0:=Lib.hid g2
 have hpu:=pcs_un o a
 obtain ⟨⟨x0,x1⟩,y0,y1,y2,y3,y4,y5,y6⟩:=HX.out W (Wr.refl _ _)
 clear hka ha g1 g2 g3 g4 hl hO
 by_cases e1:o=1
 · subst e1
   have HT:=Lib.hid (show tx (pcs (un 1 a))= [45]++tx (kidP a 7) by rw [hpu];rfl)
   have HLEN:=Lib.hid (show l.length+1+(tx (kidP a 7)).length≤1000000 by rw [HT.out] at hlen;simp only [List.length_append,List.length_cons,List.length_nil] at hlen;omega)
   have HSZ:=Lib.hid (show (ByteArray.mk #[45]).size=1 from rfl)
   have HKR:=Lib.hid (show ∀(l' :List UInt8) W',Bl b l' W' →Wr b W W' →l'.length+(tx (kidP a 7)).length≤1000000→Calls Tryz.prog 194 #[prV b,exV k1 o1 vk1 vn1 (txt vs1) (txt nm1) A1 n1 c1, .int .i64 7] W' fun x w' =>x= .returned (.tuple #[])∧∃l2,Bl b l2 w' ∧Wr b W' w' ∧WT l' (tx (kidP a 7)) l2 from fun l' W' q1 q2 q3=>HKD.out 7 l' W' q1 q2 q3)
   clear hpu hlen h1o h4o
   go_enter Tryz.func229,Tryz.ntmps229
   go_wp2_with (first
     |(go_at_call 129;(with_reducible refine (HPUT.out ⟨#[45]⟩ l W HL0.out (by have:=HLEN.out;have:=HSZ.out;omega)).mono ?_);rintro e' w2 ⟨n2,rfl,hl2,hr2⟩;have HL2:=Lib.hid hl2;have HR2:=Lib.hid hr2;obtain ⟨⟨x0,x1⟩,y0,y1,y2,y3,y4,y5,y6⟩:=HX.out w2 hr2;clear hl2 hr2)
     |(go_at_call 194;(with_reducible refine (HKR.out (l++ [45]) w2 HL2.out HR2.out (by have:=HLEN.out;simp only [List.length_append,List.length_cons,List.length_nil];omega)).mono ?_);rintro e' w3 ⟨rfl,l3,hl3,hr3,ht3⟩;have HL3:=Lib.hid hl3;have HT3:=Lib.hid ht3;have HR3:=Lib.hid (HR2.out.trans hr3);clear hl3 hr3 ht3))
   go_end0
   refine ⟨rfl,_,HL3.out,HW.out.trans HR3.out,?_⟩
   rw [HT.out]
   exact (WT.lit l _).trans HT3.out
 by_cases e2:o=2
 · subst e2
   have HT:=Lib.hid (show tx (pcs (un 2 a))= [78,79,84,32]++tx (kidP a 3) by rw [hpu];rfl)
   have HLEN:=Lib.hid (show l.length+4+(tx (kidP a 3)).length≤1000000 by rw [HT.out] at hlen;simp only [List.length_append,List.length_cons,List.length_nil] at hlen;omega)
   have HSZ:=Lib.hid (show (ByteArray.mk #[78,79,84,32]).size=4 from rfl)
   have HKR:=Lib.hid (show ∀(l' :List UInt8) W',Bl b l' W' →Wr b W W' →l'.length+(tx (kidP a 3)).length≤1000000→Calls Tryz.prog 194 #[prV b,exV k1 o1 vk1 vn1 (txt vs1) (txt nm1) A1 n1 c1, .int .i64 3] W' fun x w' =>x= .returned (.tuple #[])∧∃l2,Bl b l2 w' ∧Wr b W' w' ∧WT l' (tx (kidP a 3)) l2 from fun l' W' q1 q2 q3=>HKD.out 3 l' W' q1 q2 q3)
   clear hpu hlen h1o h4o
   go_enter Tryz.func229,Tryz.ntmps229
   go_wp2_with (first
     |(go_at_call 129;(with_reducible refine (HPUT.out ⟨#[78,79,84,32]⟩ l W HL0.out (by have:=HLEN.out;have:=HSZ.out;omega)).mono ?_);rintro e' w2 ⟨n2,rfl,hl2,hr2⟩;have HL2:=Lib.hid hl2;have HR2:=Lib.hid hr2;obtain ⟨⟨x0,x1⟩,y0,y1,y2,y3,y4,y5,y6⟩:=HX.out w2 hr2;clear hl2 hr2)
     |(go_at_call 194;(with_reducible refine (HKR.out (l++ [78,79,84,32]) w2 HL2.out HR2.out (by have:=HLEN.out;simp only [List.length_append,List.length_cons,List.length_nil];omega)).mono ?_);rintro e' w3 ⟨rfl,l3,hl3,hr3,ht3⟩;have HL3:=Lib.hid hl3;have HT3:=Lib.hid ht3;have HR3:=Lib.hid (HR2.out.trans hr3);clear hl3 hr3 ht3))
   go_end0
   refine ⟨rfl,_,HL3.out,HW.out.trans HR3.out,?_⟩
   rw [HT.out]
   exact (WT.lit l _).trans HT3.out
 by_cases e3:o=3
 · subst e3
   have HT:=Lib.hid (show tx (pcs (un 3 a))=tx (kidP a 5)++ [32,73,83,32,78,85,76,76] by rw [hpu,if_neg (by decide),if_neg (by decide),if_pos rfl,tx_app];rfl)
   have HLEN:=Lib.hid (show l.length+8+(tx (kidP a 5)).length≤1000000 by rw [HT.out] at hlen;simp only [List.length_append,List.length_cons,List.length_nil] at hlen;omega)
   have HSZ:=Lib.hid (show (ByteArray.mk #[32,73,83,32,78,85,76,76]).size=8 from rfl)
   have HKR:=Lib.hid (show ∀(l' :List UInt8) W',Bl b l' W' →Wr b W W' →l'.length+(tx (kidP a 5)).length≤1000000→Calls Tryz.prog 194 #[prV b,exV k1 o1 vk1 vn1 (txt vs1) (txt nm1) A1 n1 c1, .int .i64 5] W' fun x w' =>x= .returned (.tuple #[])∧∃l2,Bl b l2 w' ∧Wr b W' w' ∧WT l' (tx (kidP a 5)) l2 from fun l' W' q1 q2 q3=>HKD.out 5 l' W' q1 q2 q3)
   clear hpu hlen h1o h4o
   go_enter Tryz.func229,Tryz.ntmps229
   go_wp2_with (first
     |(go_at_call 194;(with_reducible refine (HKR.out l W HL0.out (Wr.refl _ _) (by have:=HLEN.out;omega)).mono ?_);rintro e' w3 ⟨rfl,l3,hl3,hr3,ht3⟩;have HL3:=Lib.hid hl3;have HT3:=Lib.hid ht3;have HR3:=Lib.hid hr3;obtain ⟨⟨x0,x1⟩,y0,y1,y2,y3,y4,y5,y6⟩:=HX.out w3 hr3;clear hl3 hr3 ht3)
     |(go_at_call 129;(with_reducible refine (HPUT.out ⟨#[32,73,83,32,78,85,76,76]⟩ l3 w3 HL3.out (by have:=HLEN.out;have:=HT3.out.len;have:=HSZ.out;omega)).mono ?_);rintro e' w4 ⟨n4,rfl,hl4,hr4⟩;have HL4:=Lib.hid hl4;have HR4:=Lib.hid (HR3.out.trans hr4);clear hl4 hr4))
   go_end0
   refine ⟨rfl,_,HL4.out,HW.out.trans HR4.out,?_⟩
   rw [HT.out]
   exact HT3.out.trans (WT.lit _ _)
 obtain rfl:o=4:=by omega
 have HT:=Lib.hid (show tx (pcs (un 4 a))=tx (kidP a 5)++ [32,73,83,32,78,79,84,32,78,85,76,76] by rw [hpu,if_neg (by decide),if_neg (by decide),if_neg (by decide),tx_app];rfl)
 have HLEN:=Lib.hid (show l.length+12+(tx (kidP a 5)).length≤1000000 by rw [HT.out] at hlen;simp only [List.length_append,List.length_cons,List.length_nil] at hlen;omega)
 have HSZ:=Lib.hid (show (ByteArray.mk #[32,73,83,32,78,79,84,32,78,85,76,76]).size=12 from rfl)
 have HKR:=Lib.hid (show ∀(l' :List UInt8) W',Bl b l' W' →Wr b W W' →l'.length+(tx (kidP a 5)).length≤1000000→Calls Tryz.prog 194 #[prV b,exV k1 o1 vk1 vn1 (txt vs1) (txt nm1) A1 n1 c1, .int .i64 5] W' fun x w' =>x= .returned (.tuple #[])∧∃l2,Bl b l2 w' ∧Wr b W' w' ∧WT l' (tx (kidP a 5)) l2 from fun l' W' q1 q2 q3=>HKD.out 5 l' W' q1 q2 q3)
 clear hpu hlen h1o h4o
 go_enter Tryz.func229,Tryz.ntmps229
 go_wp2_with (first
   |(go_at_call 194;(with_reducible refine (HKR.out l W HL0.out (Wr.refl _ _) (by have:=HLEN.out;omega)).mono ?_);rintro e' w3 ⟨rfl,l3,hl3,hr3,ht3⟩;have HL3:=Lib.hid hl3;have HT3:=Lib.hid ht3;have HR3:=Lib.hid hr3;obtain ⟨⟨x0,x1⟩,y0,y1,y2,y3,y4,y5,y6⟩:=HX.out w3 hr3;clear hl3 hr3 ht3)
   |(go_at_call 129;(with_reducible refine (HPUT.out ⟨#[32,73,83,32,78,79,84,32,78,85,76,76]⟩ l3 w3 HL3.out (by have:=HLEN.out;have:=HT3.out.len;have:=HSZ.out;omega)).mono ?_);rintro e' w4 ⟨n4,rfl,hl4,hr4⟩;have HL4:=Lib.hid hl4;have HR4:=Lib.hid (HR3.out.trans hr4);clear hl4 hr4))
 go_end0
 refine ⟨rfl,_,HL4.out,HW.out.trans HR4.out,?_⟩
 rw [HT.out]
 exact HT3.out.trans (WT.lit _ _)
set_option maxHeartbeats 4000000 in
set_option maxRecDepth 100000 in
theorem bare_un {a:Ex} (ha:KidC a) (o:Int) (h1o:1≤o) (h4o:o≤4):BareC (un o a):=by
 intro cs b l w h hl hO hg hlen
 obtain ⟨A,kn,cp,rfl,hkn,hcl, -, -,hk⟩:=ex_open (show ExIn w _ (.mk 4 o 0 0 [] [] [a]) cs from h)
 obtain rfl:kn=1:=hkn
 obtain ⟨k1,o1,vk1,vn1,vs1,nm1,ks1,A1,n1,c1',b1,p1,ea,hA1,hb1, -,c0,c1,c2,c3,c4,c5,c6,hina⟩:=kid_at (j:=0) hk rfl
 subst hA1
 obtain ⟨W,hW⟩:∃W,(w.alloc (.cells (prC b) tP)).alloc (.cells #[.int .i64 4, .int .i64 o, .int .i64 0, .int .i64 0, .string (txt []), .string (txt []), .slice (some ⟨b1,p1,none⟩) 1 cp] tE)=W:=⟨_,rfl⟩
 obtain ⟨g1,g2,g3,g4⟩:=boxes hl _ _ _ _ W hW (by decide) (by decide)
 have kk:=(g4 W (Wr.refl _ _)).at_ 0
 simp at kk
 have hwD:Wr b w W.drew:=g1.trans (drew_wr b W)
 have g3' :=g3 W.drew (drew_wr b W)
 have g4' :=g4 W.drew (drew_wr b W)
 have x0:W.drew.cell? ⟨w.heap.size,0,none⟩=some (.func (.func 129) #[.pointer (some ⟨b,0,none⟩)] #[]):=g3'.at_ 0
 have x1:W.drew.cell? ⟨w.heap.size,1,none⟩=some (.func (.func 28) #[.pointer (some ⟨b,0,none⟩)] #[]):=g3'.at_ 1
 have y1:W.drew.cell? ⟨w.heap.size+1,1,none⟩=some (.int .i64 o):=g4'.at_ 1
 have y6:W.drew.cell? ⟨w.heap.size+1,6,none⟩=some (.slice (some ⟨b1,p1,none⟩) 1 cp):=g4'.at_ 6
 simp only [Nat.zero_mul,Nat.add_zero] at c0 c1 c2 c3 c4 c5 c6
 have HBN:=Lib.hid (show Calls Tryz.prog 229 #[prV b, .int .i64 o,exV k1 o1 vk1 vn1 (txt vs1) (txt nm1) A1 n1 c1'] W.drew fun x w' =>x= .returned (.tuple #[])∧∃l',Bl b l' w' ∧Wr b W.drew w' ∧WT l (tx (pcs (un o a))) l' from
   un_any ha o h1o h4o _ b l W.drew (hina.to (fun _ h=>h) (fun p hp=>hwD.1.cell hp)) g2 (hO.below hwD.1 hg) hg hlen)
 have HW:=Lib.hid hwD
 have e0:W.drew.cell? ⟨b1,p1,none⟩=some (.int .i64 k1):=(hwD.1.cell hb1).trans c0
 have e1:W.drew.cell? ⟨b1,p1+1,none⟩=some (.int .i64 o1):=(hwD.1.cell hb1).trans c1
 have e2:W.drew.cell? ⟨b1,p1+2,none⟩=some (.int .i64 vk1):=(hwD.1.cell hb1).trans c2
 have e3:W.drew.cell? ⟨b1,p1+3,none⟩=some (.int .i64 vn1):=(hwD.1.cell hb1).trans c3
 have e4:W.drew.cell? ⟨b1,p1+4,none⟩=some (.string (txt vs1)):=(hwD.1.cell hb1).trans c4
 have e5:W.drew.cell? ⟨b1,p1+5,none⟩=some (.string (txt nm1)):=(hwD.1.cell hb1).trans c5
 have e6:W.drew.cell? ⟨b1,p1+6,none⟩=some (.slice A1 n1 c1'):=(hwD.1.cell hb1).trans c6
 clear h hl hO hlen hk hcl hina g1 g2 g3 g4 g3' g4' hwD ha c0 c1 c2 c3 c4 c5 c6 ea hb1 h1o h4o
 go_enter Tryz.func210,Tryz.ntmps210
 go_wp2
 refine wp_region_still_tail 7 (by kernel_rfl) (by kernel_rfl) ?_
 simp only [List.take_succ_cons,List.take_zero,List.drop_succ_cons,List.drop_zero]
 change wpStill _ _ (W.drew) (fun a' =>wpList _ _ _ _ a' (W.drew)) _ _
 clear kk hW
 generalize W.drew=w3 at*
 repeat still_step
 refine wpStill_nil ?_
 go_wp2_with (first|(go_at_call 229;(with_reducible refine HBN.out.mono ?_);rintro e' w5 ⟨rfl,l5,hl5,hr5,ht5⟩;have HL5:=Lib.hid hl5;have HT5:=Lib.hid ht5;have HR5:=Lib.hid hr5;clear hl5 hr5 ht5))
 go_end0
 exact ⟨rfl,_,HL5.out,HW.out.trans HR5.out,HT5.out⟩
end Go.Proofs.YtiaomhdmllhmmaaGreatDoor.Ep
namespace Go.Proofs.YtiaomhdmllhmmaaGreatDoor.Ep
open Go.RowKit Mem Right Lx
set_option linter.unusedVariables false
set_option maxHeartbeats 4000000 in
set_option maxRecDepth 100000 in
theorem bare_bin {a c:Ex} (ha:KidC a) (hc:KidC c) (j:Nat) (hj:j<14):BareC (bin ((j:Int)+1) a c):=by
 intro cs b l w h hl hO hg hlen
 obtain ⟨A,kn,cp,rfl,hkn,hcl, -, -,hk⟩:=ex_open (show ExIn w _ (.mk 5 ((j:Int)+1) 0 0 [] [] [a,c]) cs from h)
 obtain rfl:kn=2:=hkn
 obtain ⟨k1,o1,vk1,vn1,vs1,nm1,ks1,A1,n1,c1',b1,p1,ea,hA1,hb1, -,c0,c1,c2,c3,c4,c5,c6,hina⟩:=kid_at (j:=0) hk rfl
 obtain ⟨k2,o2,vk2,vn2,vs2,nm2,ks2,A2,n2,c2',b2,p2,ec,hA2,hb2, -,d0,d1,d2,d3,d4,d5,d6,hinc⟩:=kid_at (j:=1) hk rfl
 subst hA1
 injection hA2 with hA2
 injection hA2 with e1 e2
 subst e1 e2
 obtain ⟨W,hW⟩:∃W,(w.alloc (.cells (prC b) tP)).alloc (.cells #[.int .i64 5, .int .i64 ((j:Int)+1), .int .i64 0, .int .i64 0, .string (txt []), .string (txt []), .slice (some ⟨b1,p1,none⟩) 2 cp] tE)=W:=⟨_,rfl⟩
 obtain ⟨g1,g2,g3,g4⟩:=boxes hl _ _ _ _ W hW (by decide) (by decide)
 have hwW:=g1
 have c0:=(hwW.1.cell hb1).trans c0
 have c1:=(hwW.1.cell hb1).trans c1
 have c2:=(hwW.1.cell hb1).trans c2
 have c3:=(hwW.1.cell hb1).trans c3
 have c4:=(hwW.1.cell hb1).trans c4
 have c5:=(hwW.1.cell hb1).trans c5
 have c6:=(hwW.1.cell hb1).trans c6
 have d0:=(hwW.1.cell hb2).trans d0
 have d1:=(hwW.1.cell hb2).trans d1
 have d2:=(hwW.1.cell hb2).trans d2
 have d3:=(hwW.1.cell hb2).trans d3
 have d4:=(hwW.1.cell hb2).trans d4
 have d5:=(hwW.1.cell hb2).trans d5
 have d6:=(hwW.1.cell hb2).trans d6
 simp only [Nat.zero_mul,Nat.one_mul,Nat.add_zero,Nat.add_assoc,Nat.reduceAdd] at c0 c1 c2 c3 c4 c5 c6 d0 d1 d2 d3 d4 d5 d6
 have kk:=(g4 W (Wr.refl _ _)).at_ 0
 simp at kk
 have g3' :=g3 W.drew ⟨(Below.refl b W).drew,(Lib.OthersKept.refl t8 (some b) W).drew⟩
 have g4' :=g4 W.drew ⟨(Below.refl b W).drew,(Lib.OthersKept.refl t8 (some b) W).drew⟩
 have x0:W.drew.cell? ⟨w.heap.size,0,none⟩=some (.func (.func 129) #[.pointer (some ⟨b,0,none⟩)] #[]):=g3'.at_ 0
 have x1:W.drew.cell? ⟨w.heap.size,1,none⟩=some (.func (.func 28) #[.pointer (some ⟨b,0,none⟩)] #[]):=g3'.at_ 1
 have y1:W.drew.cell? ⟨w.heap.size+1,1,none⟩=some (.int .i64 ((j:Int)+1)):=g4'.at_ 1
 have y6:W.drew.cell? ⟨w.heap.size+1,6,none⟩=some (.slice (some ⟨b1,p1,none⟩) 2 cp):=g4'.at_ 6
 have hwD:Wr b w W.drew:=⟨hwW.1.drew,hwW.2.drew⟩
 have hBN:=bin_any ha hc j hj _ _ b l W.drew (hina.to (fun _ h=>h) (fun p hp=>hwD.1.cell hp)) (hinc.to (fun _ h=>h) (fun p hp=>hwD.1.cell hp)) g2 (hO.below hwD.1 hg) hg hlen
 have HBN:=Lib.hid (show Calls Tryz.prog 230 #[prV b, .int .i64 ((j:Int)+1),exV k1 o1 vk1 vn1 (txt vs1) (txt nm1) A1 n1 c1',exV k2 o2 vk2 vn2 (txt vs2) (txt nm2) A2 n2 c2'] W.drew fun x w' =>x= .returned (.tuple #[])∧∃l',Bl b l' w' ∧Wr b W.drew w' ∧WT l (tx (pcs (bin ((j:Int)+1) a c))) l' from hBN)
 have HW:=Lib.hid hwD
 have e0:W.drew.cell? ⟨b1,p1,none⟩=some (.int .i64 k1):=c0
 have e1:W.drew.cell? ⟨b1,p1+1,none⟩=some (.int .i64 o1):=c1
 have e2:W.drew.cell? ⟨b1,p1+2,none⟩=some (.int .i64 vk1):=c2
 have e3:W.drew.cell? ⟨b1,p1+3,none⟩=some (.int .i64 vn1):=c3
 have e4:W.drew.cell? ⟨b1,p1+4,none⟩=some (.string (txt vs1)):=c4
 have e5:W.drew.cell? ⟨b1,p1+5,none⟩=some (.string (txt nm1)):=c5
 have e6:W.drew.cell? ⟨b1,p1+6,none⟩=some (.slice A1 n1 c1'):=c6
 have f0:W.drew.cell? ⟨b1,p1+7,none⟩=some (.int .i64 k2):=d0
 have f1:W.drew.cell? ⟨b1,p1+8,none⟩=some (.int .i64 o2):=d1
 have f2:W.drew.cell? ⟨b1,p1+9,none⟩=some (.int .i64 vk2):=d2
 have f3:W.drew.cell? ⟨b1,p1+10,none⟩=some (.int .i64 vn2):=d3
 have f4:W.drew.cell? ⟨b1,p1+11,none⟩=some (.string (txt vs2)):=d4
 have f5:W.drew.cell? ⟨b1,p1+12,none⟩=some (.string (txt nm2)):=d5
 have f6:W.drew.cell? ⟨b1,p1+13,none⟩=some (.slice A2 n2 c2'):=d6
 clear h hl hO hlen hk hcl hina hinc g1 g2 g3 g4 g3' g4' hwW hwD hBN ha hc c0 c1 c2 c3 c4 c5 c6 d0 d1 d2 d3 d4 d5 d6 ea ec hb1 hb2
 go_enter Tryz.func210,Tryz.ntmps210
 go_wp2
 refine wp_region_still_tail 11 (by kernel_rfl) (by kernel_rfl) ?_
 simp only [List.take_succ_cons,List.take_zero,List.drop_succ_cons,List.drop_zero]
 change wpStill _ _ (W.drew) (fun a' =>wpList _ _ _ _ a' (W.drew)) _ _
 clear kk hW
 generalize W.drew=w3 at*
 repeat still_step
 refine wpStill_nil ?_
 go_wp2_with (first|(go_at_call 230;(with_reducible refine HBN.out.mono ?_);rintro e' w5 ⟨rfl,l5,hl5,hr5,ht5⟩;have HL5:=Lib.hid hl5;have HT5:=Lib.hid ht5;have HR5:=Lib.hid hr5;clear hl5 hr5 ht5))
 go_end0
 exact ⟨rfl,_,HL5.out,HW.out.trans HR5.out,HT5.out⟩
end Go.Proofs.YtiaomhdmllhmmaaGreatDoor.Ep
namespace Go.Proofs.YtiaomhdmllhmmaaGreatDoor.Ep
open Go.RowKit Mem Right Lx
set_option linter.unusedVariables false
def printV (e:Ex):List UInt8 × Int:=if checkE true e≠0 then ([],checkE true e) else if 400<(tx (pcs e)).length then ([],3) else (tx (pcs e),0)
theorem rank_pos (e:Ex):1≤e.rank:=by
 obtain ⟨k,o,vk,vn,vs,nm,kids⟩:=e
 show 1≤rk k o
 unfold rk
 repeat' split
 all_goals omega
theorem kid_one (e:Ex):kidP e 1=pcs e:=by
 unfold kidP asked br
 rw [decide_eq_false (by have:=rank_pos e;omega),if_neg (by decide)]
theorem Bl.new (w:World) {b:Nat} (hb:w.heap.size=b):Bl b [] (w.alloc (.cells #[.pointer none, .slice none 0 0] tB)):=by
 subst hb
 refine ⟨.inl ⟨Nat.le_refl _, .slice none 0 0,heap_alloc_new w _,World.ownsRowF_nil _ _ _ _,by simp [Value.ownBlock]⟩,by simp⟩
set_option maxHeartbeats 4000000 in
set_option maxRecDepth 100000 in
theorem print_any (e:Ex) (he:KidC e) (cs:List Value) (w:World) (h:ExAt w w.heap.size e cs) (hs:Signs w) (hO:Osg w) (hl:Lim e) (hlen:(tx (pcs e)).length≤1000000):
    Calls Tryz.prog 180 #[.agg cs.toArray] w fun x w' =>x= .returned (.tuple #[.string (txt (printV e).1), .int .i64 (printV e).2])∧Below w.heap.size w w' :=by
  have hcs:=h
  obtain ⟨k,o,vk,vn,vs,nm,kids⟩:=e
  obtain ⟨A,kn,c,rfl, -⟩:=ex_open h
  obtain ⟨e,hee⟩:∃e,Ex.mk k o vk vn vs nm kids=e:=⟨_,rfl⟩
  rw [hee] at hcs hl he hlen ⊢
  clear hee h
  obtain ⟨W,hW⟩:∃W,w.alloc (.cells #[.int .i64 k, .int .i64 o, .int .i64 vk, .int .i64 vn, .string (txt vs), .string (txt nm), .slice A kn c] tE)=W:=⟨_,rfl⟩
  have hb:Below w.heap.size w W:=by rw [←hW];exact al (Below.refl _ _) _
  have hbx:Cel W w.heap.size tE #[.int .i64 k, .int .i64 o, .int .i64 vk, .int .i64 vn, .string (txt vs), .string (txt nm), .slice A kn c]:=by rw [←hW];exact Cel.new w tE _ rfl
  have hX:∀W',Below (w.heap.size+1) W W' →W'.cell? ⟨w.heap.size,0,none⟩=some (.int .i64 k)∧W'.cell? ⟨w.heap.size,1,none⟩=some (.int .i64 o)∧W'.cell? ⟨w.heap.size,2,none⟩=some (.int .i64 vk)∧W'.cell? ⟨w.heap.size,3,none⟩=some (.int .i64 vn)∧W'.cell? ⟨w.heap.size,4,none⟩=some (.string (txt vs))∧W'.cell? ⟨w.heap.size,5,none⟩=some (.string (txt nm))∧W'.cell? ⟨w.heap.size,6,none⟩=some (.slice A kn c):=fun W' hW' =>by
    have hc:Cel W' w.heap.size tE #[.int .i64 k, .int .i64 o, .int .i64 vk, .int .i64 vn, .string (txt vs), .string (txt nm), .slice A kn c]:=(hW'.block _ (Nat.lt_succ_self _)).trans hbx
    exact ⟨hc.at_ 0,hc.at_ 1,hc.at_ 2,hc.at_ 3,hc.at_ 4,hc.at_ 5,hc.at_ 6⟩
  have hsz:W.heap.size=w.heap.size+1:=by rw [←hW];simp
  obtain ⟨x0,x1,x2,x3,x4,x5,x6⟩:=hX W (Below.refl _ _)
  obtain ⟨er,her⟩:∃er,checkE true e=er:=⟨_,rfl⟩
  have HC:=Lib.hid (show Calls Tryz.prog 192 #[exV k o vk vn (txt vs) (txt nm) A kn c, .bool true] W fun x w' =>x= .returned (.int .i64 er)∧Below W.heap.size W w' from by rw [←her];exact check_any e _ true W (hcs.on hb) (hs.below hb hs.lt) hl)
  have HB:=Lib.hid hb
  by_cases h0:er=0
  · subst h0
    have HK:=Lib.hid (show ∀W',Below W.heap.size W W' →Calls Tryz.prog 194 #[prV W'.heap.size,exV k o vk vn (txt vs) (txt nm) A kn c, .int .i64 1] (W'.alloc (.cells #[.pointer none, .slice none 0 0] tB)) fun x w' =>x= .returned (.tuple #[])∧∃l',Bl W'.heap.size l' w' ∧Below W'.heap.size W' w' ∧WT [] (tx (pcs e)) l' from fun W' hW' =>by
      have hbw:=Mem.on hb hW'
      have hsz' :=hbw.size
      have hal:Below W'.heap.size W' (W'.alloc (.cells #[.pointer none, .slice none 0 0] tB)):=al (Below.refl _ _) _
      refine (he _ W'.heap.size 1 [] _ (ExIn.to (fun b hb' =>Nat.lt_of_lt_of_le hb' hsz') (fun p hp=>(Mem.on hbw hal).cell hp) e _ hcs) (Bl.new W' rfl) (hO.below (Mem.on hbw hal) hO.lt) (Nat.lt_of_lt_of_le hO.lt hsz') (by rw [kid_one];simpa using hlen)).mono ?_
      rintro x w' ⟨rfl,l',h1,h2,h3⟩
      rw [kid_one] at h3
      exact ⟨rfl,l',h1,hal.trans h2.1,h3⟩)
    have HX:=Lib.hid hX
    have HSZ:=Lib.hid hsz
    have HLN:=Lib.hid (fun b l w h=>(long_any b l w h:Calls Tryz.prog 28 #[.pointer (some ⟨b,0,none⟩)] w fun e w' =>e= .returned (.int .i64 (l.length:Int))∧w' =w))
    have HTD:=Lib.hid (fun b l w h=>(told_any b l w h:Calls Tryz.prog 29 #[.pointer (some ⟨b,0,none⟩)] w fun e w' =>e= .returned (.string (txt l))∧Bl b l w' ∧Wr b w w'))
    by_cases h4:400<(tx (pcs e)).length
    · have HV:=Lib.hid (show printV e=([],3) by unfold printV;rw [her,if_neg (by decide),if_pos h4])
      clear hcs hs hO hl hlen hb hbx hX hsz her he
      have H4:=Lib.hid h4
      clear h4
      go_enter Tryz.func180,Tryz.ntmps180
      go_wp2_with (first
        |(go_at_call 192;(with_reducible refine HC.out.mono ?_);rintro e' w2 ⟨rfl,hb2⟩;have HB2:=Lib.hid hb2;obtain ⟨x0,x1,x2,x3,x4,x5,x6⟩:=HX.out (w2.alloc (.cells #[.pointer none, .slice none 0 0] tB)) ((hb2.mono (Nat.le_of_eq HSZ.out.symm)).alloc (by have:=hb2.size;have:=HSZ.out;omega) _);clear hb2)
        |(go_at_call 194;(with_reducible refine (HK.out w2 HB2.out).mono ?_);rintro e' w3 ⟨rfl,l3,hl3,hb3,ht3⟩;have HL3:=Lib.hid hl3;have HB3:=Lib.hid (Mem.on (Mem.on HB.out HB2.out) hb3);have t3:decide (400<(l3.length:Int))=true:=decide_eq_true (by have:=ht3.told.1.2 H4.out;omega);clear hl3 hb3 ht3)
        |(go_at_call 28;(with_reducible refine (HLN.out _ _ _ HL3.out).mono ?_);rintro e' w4 ⟨rfl,rfl⟩))
      go_ret2
      exact ⟨by rw [HV.out];rfl,HB3.out⟩
    · have HV:=Lib.hid (show printV e=(tx (pcs e),0) by unfold printV;rw [her,if_neg (by decide),if_neg h4])
      clear hcs hs hO hl hlen hb hbx hX hsz her he
      have H4:=Lib.hid h4
      clear h4
      go_enter Tryz.func180,Tryz.ntmps180
      go_wp2_with (first
        |(go_at_call 192;(with_reducible refine HC.out.mono ?_);rintro e' w2 ⟨rfl,hb2⟩;have HB2:=Lib.hid hb2;obtain ⟨x0,x1,x2,x3,x4,x5,x6⟩:=HX.out (w2.alloc (.cells #[.pointer none, .slice none 0 0] tB)) ((hb2.mono (Nat.le_of_eq HSZ.out.symm)).alloc (by have:=hb2.size;have:=HSZ.out;omega) _);clear hb2)
        |(go_at_call 194;(with_reducible refine (HK.out w2 HB2.out).mono ?_);rintro e' w3 ⟨rfl,l3,hl3,hb3,ht3⟩;have HL3:=Lib.hid hl3;have HB3:=Lib.hid (Mem.on (Mem.on HB.out HB2.out) hb3);have t3:decide (400<(l3.length:Int))=false:=decide_eq_false (fun g=>H4.out (ht3.told.1.1 (by omega)));have HE3:=Lib.hid (ht3.told.2 (by have:=of_decide_eq_false t3;omega));clear hl3 hb3 ht3)
        |(go_at_call 28;(with_reducible refine (HLN.out _ _ _ HL3.out).mono ?_);rintro e' w4 ⟨rfl,rfl⟩)
        |(go_at_call 29;(with_reducible refine (HTD.out _ _ _ HL3.out).mono ?_);rintro e' w5 ⟨rfl,hl5,hr5⟩;have HR5:=Lib.hid hr5;clear hl5 hr5))
      go_ret2
      exact ⟨by rw [HV.out,HE3.out];rfl,HB3.out.trans (HR5.out.1.mono (by have:=(Mem.on HB.out HB2.out).size;omega))⟩
  · have HV:=Lib.hid (show printV e=([],er) by unfold printV;rw [her,if_pos h0])
    have t0:(er !=0)=true:=bne_yes h0
    clear hcs hs hO hl hlen hb hbx hX hsz her he h0
    go_enter Tryz.func180,Tryz.ntmps180
    go_wp2_with (first
        |(go_at_call 192;(with_reducible refine HC.out.mono ?_);rintro e' w2 ⟨rfl,hb2⟩;have HB2:=Lib.hid hb2;clear hb2))
    go_ret2
    exact ⟨by rw [HV.out];rfl,Mem.on HB.out HB2.out⟩
end Go.Proofs.YtiaomhdmllhmmaaGreatDoor.Ep
namespace Go.Proofs.YtiaomhdmllhmmaaGreatDoor.Val
open Go.RowKit Mem
set_option linter.unusedVariables false
theorem beq_no {a b:Int} (h:¬a=b):(a==b)=false:=beq_eq_false_iff_ne.2 h
theorem rs {a b:ByteArray} (h:a=b):Ending.returned (.string a)= .returned (.string b):=by rw [h]
end Go.Proofs.YtiaomhdmllhmmaaGreatDoor.Val
namespace Go.Proofs.YtiaomhdmllhmmaaGreatDoor.Mem
open Go.RowKit
def Buf (w:World) (g N:Nat) (l:List UInt8):Prop:=
 ∃cur:Array Value,w.heap[g]?=some (.cells cur 5 (0,0))∧cur.size=N∧l.length≤N∧cur.toList.take l.length=Lib.strCells ⟨l.toArray⟩
theorem Buf.made (w:World) (N:Nat):Buf (w.alloc (.cells (madeCells (Value.int .u8 0).cells N) 5)) w.heap.size N []:=
 ⟨_,heap_alloc_new w _,size_madeCells _ _,Nat.zero_le _,rfl⟩
theorem Buf.below {w w' :World} {g N B:Nat} {l:List UInt8} (h:Buf w g N l) (hb:Below B w w') (hg:g<B):Buf w' g N l:=by
 obtain ⟨cur,h1,h2⟩:=h
 exact ⟨cur,(hb.block g hg).trans h1,h2⟩
theorem Buf.lt {w:World} {g N:Nat} {l:List UInt8} (h:Buf w g N l):g<w.heap.size:=by
 obtain ⟨cur,h1,_⟩:=h
 rcases Nat.lt_or_ge g w.heap.size with h2|h2
 · exact h2
 · rw [Array.getElem?_eq_none h2] at h1;cases h1
theorem cells_app (a:List UInt8) (x:ByteArray):Lib.strCells ⟨a.toArray⟩++Lib.strCells x=Lib.strCells ⟨(a++x.data.toList).toArray⟩:=by simp [Lib.strCells]
theorem run_copy_text {w:World} {g N:Nat} {l:List UInt8} (h:Buf w g N l) (x:ByteArray) (hfit:l.length+x.size≤N) (ty:TypeId) (c:Nat):
   ∃w',(Builtin.copy_ #[68,9] ty #[.slice (some ⟨g,l.length,none⟩) (N - l.length) c, .string x]).run Tryz.prog w= .ok (goInt x.size) w' ∧Buf w' g N (l++x.data.toList)∧∀B w0,Below B w0 w→B≤g→Below B w0 w' :=by
 obtain ⟨cur,h1,h2,h3,h4⟩:=h
 have hn:Nat.min x.size (N - l.length)=x.size:=Nat.min_eq_left (by omega)
 have hl:=Lib.strCells_length x
 have hst:=run_storeCells_at Tryz.prog g l.length 5 (Lib.strCells x) 0 cur w h1 (by rw [hl];omega) (Lib.strCells_oneCell x)
 have hq:Tryz.prog.info? 5=some Tryz.t5:=by kernel_rfl
 have hi:Tryz.t5.size=1:=by kernel_rfl
 refine ⟨w.setRow g (cur.toList.take (l.length+0)++Lib.strCells x++cur.toList.drop (l.length+0+(Lib.strCells x).length)).toArray,?_,⟨_,setRow_heap w g cur _ _ _ h1,?_,?_,?_⟩,fun B w0 hb hB=>?_⟩
 · have hf:=Lib.run_firstCells_string (P:=Tryz.prog) w 1 x
   simp [Builtin.copy_,run_underlying Tryz.underlying68,Builtin.lenOf,sizeOf,typeInfo,hq,hi,hn,hf,hst]
 · have:(cur.toList.length:Nat)=N:=by simpa using h2
   simp [hl];omega
 · simp;exact hfit
 · have e:(l++x.data.toList).length=l.length+(Lib.strCells x).length:=by rw [List.length_append,hl];rfl
   rw [e,←cells_app]
   simp only [Nat.add_zero]
   have e2:(cur.toList.take l.length++Lib.strCells x).length=l.length+(Lib.strCells x).length:=by
     have h5:l.length≤cur.size:=by rw [h2];exact h3
     have h6:cur.toList.length=cur.size:=Array.length_toList
     rw [List.length_append,List.length_take,h6,Nat.min_eq_left h5]
   rw [List.take_append_of_le_length (by rw [e2];exact Nat.le_refl _),List.take_of_length_le (by rw [e2];exact Nat.le_refl _),h4]
 · exact hb.trans ⟨rfl,rfl,rfl,by simp [World.setRow],fun k hk=>setRow_other w g k _ (by omega)⟩
theorem wpList_copy_text {w:World} {ops:Array Oper} {rest:List Oper} {o:Oper} {a:Act} {Q:Exit→Act→World→Prop} (hgd:o.guard=none) (d s:Operand)
   (ho:o.op= .call {callee:= .builtin .copy,args:= #[d,s],argTypes:= #[68,9]}) {g N:Nat} {l:List UInt8} (h:Buf w g N l) (c:Nat) (x:ByteArray)
   (hd:a.eval d= .slice (some ⟨g,l.length,none⟩) (N - l.length) c) (hs:a.eval s= .string x) (hfit:l.length+x.size≤N)
   (k:∀w',Buf w' g N (l++x.data.toList)→(∀B w0,Below B w0 w→B≤g→Below B w0 w')→wpList Tryz.prog ops Q rest (a.put o.dst (goInt x.size)) w'):wpList Tryz.prog ops Q (o::rest) a w:=by
 refine wpList_plain hgd fun K hK=>?_
 obtain ⟨w',hr,h2,h3⟩:=run_copy_text h x hfit o.type c
 unfold Oper.wp execOp
 simp only [ho,resolve,invoke,builtin,Sem.run_bind,Sem.run_pure,Result.andThen_ok,List.map_toArray,List.map_cons,List.map_nil,hd,hs,hr]
 exact hK _ _ (k w' h2 h3)
theorem wpList_copy_list {w:World} {ops:Array Oper} {rest:List Oper} {o:Oper} {a:Act} {Q:Exit→Act→World→Prop} (hgd:o.guard=none) (d s:Operand)
   (ho:o.op= .call {callee:= .builtin .copy,args:= #[d,s],argTypes:= #[68,9]}) {g N:Nat} {l:List UInt8} (h:Buf w g N l) (y:List UInt8) (p n c:Nat) (hp:l.length=p) (hn:y.length=n)
   (hd:a.eval d= .slice (some ⟨g,p,none⟩) (N - p) c) (hs:a.eval s= .string ⟨y.toArray⟩) (hfit:p+n≤N)
   (k:∀w',Buf w' g N (l++y)→(∀B w0,Below B w0 w→B≤g→Below B w0 w')→wpList Tryz.prog ops Q rest (a.put o.dst (goInt n)) w'):wpList Tryz.prog ops Q (o::rest) a w:=by
 subst hp
 have hx:(⟨y.toArray⟩:ByteArray).size=y.length:=by simp [ByteArray.size]
 refine wpList_copy_text hgd d s ho h c ⟨y.toArray⟩ hd hs (by rw [hx,hn];exact hfit) fun w' h1 h2=>?_
 rw [hx,hn]
 exact k w' h1 h2
theorem make_row (W:World) (N:Nat) (h:N≤281474976710656):
   (Instr.makeSlice 68 (.int .i64 (N:Int)) (.int .i64 (N:Int))).run Tryz.prog W= .ok (.slice (some ⟨W.heap.size,0,none⟩) N N) (W.alloc (.cells (madeCells (Value.int .u8 0).cells N) 5)):=by
 have hb:Tryz.t5.bytes=1:=by kernel_rfl
 have hs:Tryz.t5.size=1:=by kernel_rfl
 have:=run_make (P:=Tryz.prog) W 68 5 Tryz.t5 (.int .u8 0) Tryz.underlying68 (by kernel_rfl) (by kernel_rfl) .i64 .i64 (N:Int) (N:Int) (by omega) (by omega) (by rw [hb];omega) (by omega)
 rw [hs,Nat.mul_one] at this
 simpa only [Int.toNat_natCast] using this
theorem slice_row (W:World) (g N p:Nat) (z:Int) (hz:z=p) (hp:p<N):
   (Instr.sliceAt 68 (.slice (some ⟨g,0,none⟩) N N) (some (.int .i64 z)) none none).run Tryz.prog W= .ok (.slice (some ⟨g,p,none⟩) (N - p) (N - p)) W:=by
 subst hz
 have hl:=Tryz.underlying68
 have he:Tryz.prog.elem 68=5:=by simp [Program.elem,hl]
 have hs:(sizeOf 5).run Tryz.prog W= .ok 1 W:=by kernel_rfl
 rw [run_sliceAt_slice W _ _ _ _ _ (by rw [he];exact hl),run_slice_l W 68 _ N N (by rw [he];exact hl) .i64 p (by omega) (by omega),he,hs]
 simp only [Result.andThen,sliced,Int.toNat_natCast]
 rw [if_neg (by omega)]
 unfold Addr.add
 by_cases h0:p=0
 · subst h0;simp
 · simp [h0]
theorem row_text (W:World) (g N:Nat) (t:List UInt8) (hb:Buf W g N t) (ht:t.length=N):
   (convert 68 9 (.slice (some ⟨g,0,none⟩) N N)).run Tryz.prog W= .ok (.string ⟨t.toArray⟩) W:=by
 obtain ⟨cur,h1,h2,h3,h4⟩:=hb
 subst ht
 refine run_convert_bytes_back W 68 9 5 ⟨g,0,none⟩ _ t Tryz.underlying68 Tryz.underlying5 Tryz.underlying9 fun j hj=>?_
 have e2:(⟨g,0,none⟩:Addr).add j=⟨g,j,none⟩:=by unfold Addr.add;split<;>simp_all
 have h5:cur.toList=Lib.strCells ⟨t.toArray⟩:=by rw [←h4];exact (List.take_of_length_le (by rw [Array.length_toList];omega)).symm
 have h6:cur[j]?=(Lib.strCells ⟨t.toArray⟩)[j]?:=by rw [←h5];simp
 have h7:W.cell? ⟨g,j,none⟩=cur[j]?:=by simp [World.cell?,h1]
 rw [e2,h7,h6]
 simp [Lib.strCells,hj]
end Go.Proofs.YtiaomhdmllhmmaaGreatDoor.Mem
