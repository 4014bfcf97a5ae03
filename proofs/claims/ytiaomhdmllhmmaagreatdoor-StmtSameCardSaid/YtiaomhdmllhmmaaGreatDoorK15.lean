/- Two constraints, rows, sets, orders are one: what stmt.Same calls. A region that draws its order, beside calls that make memory: one walk, in the order of th -/
import Derived.Test.YtiaomhdmllhmmaaGreatDoorK14
import Derived.Deep.QuietTactic
import Derived.BigQuiet
namespace Go.Proofs.YtiaomhdmllhmmaaGreatDoor.Sm
open Go.RowKit Mem Ep Right Go.ChangeShapes Go.WideShapes
set_option linter.unusedVariables false
theorem same_row (x:List Ex):SameW 66 exsDt x:=fun y cs ds w h1 h2=>by
 unfold exsDt at h1 h2
 obtain ⟨v,rfl,A,ca,rfl,l1,l2, -,r1⟩:=row_is.1 h1
 obtain ⟨v',rfl,A',ca',rfl, -, -, -,r2⟩:=row_is.1 h2
 simp only [List.length_map] at l1 l2 ⊢
 have HC:=Lib.hid (show Calls Tryz.prog 71 #[.slice A x.length ca, .slice A' y.length ca',sameV] w fun e w' =>e= .returned (.bool (sameL x y))∧Below w.heap.size w w' from
   eqList_of x (fun z _=>same_any z) y A A' ca ca' w (by omega) r1 r2)
 have HQ:=Lib.hid (eqB_of (p:=sameL x y) sameL_iff)
 obtain ⟨n,hn⟩:∃n,x.length=n:=⟨_,rfl⟩
 obtain ⟨n',hn'⟩:∃n,y.length=n:=⟨_,rfl⟩
 rw [hn,hn'] at HC
 rw [hn,hn']
 clear h1 h2 r1 r2 l1 l2 hn hn'
 show Calls Tryz.prog 66 #[.slice A n ca, .slice A' n' ca'] w _
 go_enter Tryz.func66,Tryz.ntmps66
 go_wp2_with (go_at_call 71;(with_reducible refine HC.out.mono ?_);rintro e' w2 ⟨rfl,hb2⟩;have HB2:=Lib.hid hb2;clear hb2)
 go_ret
 exact ⟨rb HQ.out,HB2.out⟩
set_option maxHeartbeats 4000000 in
theorem same_set (x:Bs × Ex):SameW 68 seDt x:=fun y cs ds w h1 h2=>by
 obtain ⟨xn,xe⟩:=x
 obtain ⟨yn,ye⟩:=y
 obtain ⟨e1,rfl,r1⟩:=se_in.1 h1
 obtain ⟨e2,rfl,s1⟩:=se_in.1 h2
 obtain ⟨ku,ou,vku,vnu,vsu,nsu,Bu,mu,du,rfl⟩:=ex_form r1
 obtain ⟨kv,ov,vkv,vnv,vsv,nsv,Bv,mv,dv,rfl⟩:=ex_form s1
 show Calls Tryz.prog 68 #[.agg #[.string (txt xn), .int .i64 ku, .int .i64 ou, .int .i64 vku, .int .i64 vnu, .string vsu, .string nsu, .slice Bu mu du], .agg #[.string (txt yn), .int .i64 kv, .int .i64 ov, .int .i64 vkv, .int .i64 vnv, .string vsv, .string nsv, .slice Bv mv dv]] w _
 obtain ⟨W,hW⟩:∃W,(w.alloc (.cells #[.string (txt xn), .int .i64 ku, .int .i64 ou, .int .i64 vku, .int .i64 vnu, .string vsu, .string nsu, .slice Bu mu du] 58)).alloc (.cells #[.string (txt yn), .int .i64 kv, .int .i64 ov, .int .i64 vkv, .int .i64 vnv, .string vsv, .string nsv, .slice Bv mv dv] 58)=W:=⟨_,rfl⟩
 have hb:Below w.heap.size w W:=by rw [←hW];exact al (al (Below.refl _ _) _) _
 have hs1:w.heap.size<W.heap.size:=by rw [←hW];simp;omega
 have hs2:w.heap.size+1<W.heap.size:=by rw [←hW];simp
 have x1:Cel W w.heap.size 58 #[.string (txt xn), .int .i64 ku, .int .i64 ou, .int .i64 vku, .int .i64 vnu, .string vsu, .string nsu, .slice Bu mu du]:=by rw [←hW];exact (Cel.new w _ _ rfl).alloc _
 have x2:Cel W (w.heap.size+1) 58 #[.string (txt yn), .int .i64 kv, .int .i64 ov, .int .i64 vkv, .int .i64 vnv, .string vsv, .string nsv, .slice Bv mv dv]:=by rw [←hW];exact Cel.new _ _ _ (by simp)
 have HB:=Lib.hid hb
 have HY:=Lib.hid (Below.refl W.heap.size W)
 have HS1:=Lib.hid hs1
 have HS2:=Lib.hid hs2
 have X1:=Lib.hid x1
 have X2:=Lib.hid x2
 obtain ⟨q1,hq1⟩:∃q,eqB xe ye=q:=⟨_,rfl⟩
 have HC1:=Lib.hid (show ∀W',Below W.heap.size W W' →Calls Tryz.prog 40 #[.agg #[.int .i64 ku, .int .i64 ou, .int .i64 vku, .int .i64 vnu, .string vsu, .string nsu, .slice Bu mu du], .agg #[.int .i64 kv, .int .i64 ov, .int .i64 vkv, .int .i64 vnv, .string vsv, .string nsv, .slice Bv mv dv]] W' fun e w' =>e= .returned (.bool q1)∧Below W'.heap.size W' w' from fun W' hW=>by
   rw [←hq1]
   exact same_ex xe ye _ _ W' (DtIn.on r1 (Mem.on hb hW)) (DtIn.on s1 (Mem.on hb hW)))
 have c0:=x1.at_ 0
 have c1:=x1.at_ 1
 have c2:=x1.at_ 2
 have c3:=x1.at_ 3
 have c4:=x1.at_ 4
 have c5:=x1.at_ 5
 have c6:=x1.at_ 6
 have c7:=x1.at_ 7
 have d0:=x2.at_ 0
 have d1:=x2.at_ 1
 have d2:=x2.at_ 2
 have d3:=x2.at_ 3
 have d4:=x2.at_ 4
 have d5:=x2.at_ 5
 have d6:=x2.at_ 6
 have d7:=x2.at_ 7
 clear h1 h2 x1 x2 hb hs1 hs2 r1 s1
 by_cases e0:xn=yn
 case neg=>
   obtain ⟨t3,t4,t5⟩:=txt_ne e0
   have HF:=Lib.hid (eqB_no (a:=(xn,xe)) (b:=(yn,ye)) (fun g=>by
     have e9:xn=yn:=by injection g
     exact e0 e9)).symm
   clear hq1
   go_enter Tryz.func68,Tryz.ntmps68
   go_wp2
   go_ret
   exact ⟨rb HF.out,HB.out⟩
 subst e0
 by_cases e0:q1=false
 case pos=>
   subst e0
   have HF:=Lib.hid (eqB_no (a:=(xn,xe)) (b:=(xn,ye)) (fun g=>by
     have e9:xe=ye:=by injection g
     rw [eqB_yes e9] at hq1
     cases hq1)).symm
   clear hq1
   go_enter Tryz.func68,Tryz.ntmps68
   go_wp2_with (go_at_call 40;(with_reducible refine (HC1.out _ HY.out).mono ?_);rintro e' w2 ⟨rfl,hb2⟩;have HB:=Lib.hid (Mem.on HB.out hb2);have HY:=Lib.hid (Mem.on HY.out hb2);clear hb2)
   go_ret
   exact ⟨rb HF.out,HB.out⟩
 obtain rfl:q1=true:=by
   cases q1 with
   |false=>exact absurd rfl e0
   |true=>rfl
 clear e0
 have HF:=Lib.hid (eqB_yes (a:=(xn,xe)) (b:=(xn,ye)) (by rw [eqB_iff.1 hq1])).symm
 clear hq1
 go_enter Tryz.func68,Tryz.ntmps68
 go_wp2_with (go_at_call 40;(with_reducible refine (HC1.out _ HY.out).mono ?_);rintro e' w2 ⟨rfl,hb2⟩;have HB:=Lib.hid (Mem.on HB.out hb2);have HY:=Lib.hid (Mem.on HY.out hb2);clear hb2)
 go_ret
 exact ⟨rb HF.out,HB.out⟩
set_option maxHeartbeats 4000000 in
theorem same_order (x:Ex × Bool):SameW 70 orDt x:=fun y cs ds w h1 h2=>by
 obtain ⟨xe,xn⟩:=x
 obtain ⟨ye,yn⟩:=y
 obtain ⟨e1,rfl,r1⟩:=or_in.1 h1
 obtain ⟨e2,rfl,s1⟩:=or_in.1 h2
 obtain ⟨ku,ou,vku,vnu,vsu,nsu,Bu,mu,du,rfl⟩:=ex_form r1
 obtain ⟨kv,ov,vkv,vnv,vsv,nsv,Bv,mv,dv,rfl⟩:=ex_form s1
 show Calls Tryz.prog 70 #[.agg #[.int .i64 ku, .int .i64 ou, .int .i64 vku, .int .i64 vnu, .string vsu, .string nsu, .slice Bu mu du, .bool xn], .agg #[.int .i64 kv, .int .i64 ov, .int .i64 vkv, .int .i64 vnv, .string vsv, .string nsv, .slice Bv mv dv, .bool yn]] w _
 obtain ⟨W,hW⟩:∃W,(w.alloc (.cells #[.int .i64 ku, .int .i64 ou, .int .i64 vku, .int .i64 vnu, .string vsu, .string nsu, .slice Bu mu du, .bool xn] 60)).alloc (.cells #[.int .i64 kv, .int .i64 ov, .int .i64 vkv, .int .i64 vnv, .string vsv, .string nsv, .slice Bv mv dv, .bool yn] 60)=W:=⟨_,rfl⟩
 have hb:Below w.heap.size w W:=by rw [←hW];exact al (al (Below.refl _ _) _) _
 have hs1:w.heap.size<W.heap.size:=by rw [←hW];simp;omega
 have hs2:w.heap.size+1<W.heap.size:=by rw [←hW];simp
 have x1:Cel W w.heap.size 60 #[.int .i64 ku, .int .i64 ou, .int .i64 vku, .int .i64 vnu, .string vsu, .string nsu, .slice Bu mu du, .bool xn]:=by rw [←hW];exact (Cel.new w _ _ rfl).alloc _
 have x2:Cel W (w.heap.size+1) 60 #[.int .i64 kv, .int .i64 ov, .int .i64 vkv, .int .i64 vnv, .string vsv, .string nsv, .slice Bv mv dv, .bool yn]:=by rw [←hW];exact Cel.new _ _ _ (by simp)
 have HB:=Lib.hid hb
 have HY:=Lib.hid (Below.refl W.heap.size W)
 have HS1:=Lib.hid hs1
 have HS2:=Lib.hid hs2
 have X1:=Lib.hid x1
 have X2:=Lib.hid x2
 obtain ⟨q1,hq1⟩:∃q,eqB xe ye=q:=⟨_,rfl⟩
 have HC1:=Lib.hid (show ∀W',Below W.heap.size W W' →Calls Tryz.prog 40 #[.agg #[.int .i64 ku, .int .i64 ou, .int .i64 vku, .int .i64 vnu, .string vsu, .string nsu, .slice Bu mu du], .agg #[.int .i64 kv, .int .i64 ov, .int .i64 vkv, .int .i64 vnv, .string vsv, .string nsv, .slice Bv mv dv]] W' fun e w' =>e= .returned (.bool q1)∧Below W'.heap.size W' w' from fun W' hW=>by
   rw [←hq1]
   exact same_ex xe ye _ _ W' (DtIn.on r1 (Mem.on hb hW)) (DtIn.on s1 (Mem.on hb hW)))
 have c0:=x1.at_ 0
 have c1:=x1.at_ 1
 have c2:=x1.at_ 2
 have c3:=x1.at_ 3
 have c4:=x1.at_ 4
 have c5:=x1.at_ 5
 have c6:=x1.at_ 6
 have c7:=x1.at_ 7
 have d0:=x2.at_ 0
 have d1:=x2.at_ 1
 have d2:=x2.at_ 2
 have d3:=x2.at_ 3
 have d4:=x2.at_ 4
 have d5:=x2.at_ 5
 have d6:=x2.at_ 6
 have d7:=x2.at_ 7
 clear h1 h2 x1 x2 hb hs1 hs2 r1 s1
 by_cases e0:xn=yn
 case neg=>
   have t1:(xn==yn)=false:=beq_eq_false_iff_ne.2 e0
   have HF:=Lib.hid (eqB_no (a:=(xe,xn)) (b:=(ye,yn)) (fun g=>by
     have e9:xn=yn:=by injection g
     exact e0 e9)).symm
   clear hq1
   go_enter Tryz.func70,Tryz.ntmps70
   go_wp2
   go_ret
   exact ⟨rb HF.out,HB.out⟩
 subst e0
 by_cases e0:q1=false
 case pos=>
   subst e0
   have HF:=Lib.hid (eqB_no (a:=(xe,xn)) (b:=(ye,xn)) (fun g=>by
     have e9:xe=ye:=by injection g
     rw [eqB_yes e9] at hq1
     cases hq1)).symm
   clear hq1
   go_enter Tryz.func70,Tryz.ntmps70
   go_wp2_with (go_at_call 40;(with_reducible refine (HC1.out _ HY.out).mono ?_);rintro e' w2 ⟨rfl,hb2⟩;have HB:=Lib.hid (Mem.on HB.out hb2);have HY:=Lib.hid (Mem.on HY.out hb2);clear hb2)
   go_ret
   exact ⟨rb HF.out,HB.out⟩
 obtain rfl:q1=true:=by
   cases q1 with
   |false=>exact absurd rfl e0
   |true=>rfl
 clear e0
 have HF:=Lib.hid (eqB_yes (a:=(xe,xn)) (b:=(ye,xn)) (by rw [eqB_iff.1 hq1])).symm
 clear hq1
 go_enter Tryz.func70,Tryz.ntmps70
 go_wp2_with (go_at_call 40;(with_reducible refine (HC1.out _ HY.out).mono ?_);rintro e' w2 ⟨rfl,hb2⟩;have HB:=Lib.hid (Mem.on HB.out hb2);have HY:=Lib.hid (Mem.on HY.out hb2);clear hb2)
 go_ret
 exact ⟨rb HF.out,HB.out⟩
set_option maxHeartbeats 4000000 in
theorem same_cons (x:Cn):SameW 63 cnDt x:=fun y cs ds w h1 h2=>by
 obtain ⟨xn,xk,xc,xe,xt,xr⟩:=x
 obtain ⟨yn,yk,yc,ye,yt,yr⟩:=y
 obtain ⟨u1,e1,u2,rfl,⟨A1,a1,rfl,l1,m1, -,r1⟩,r2,⟨A2,a2,rfl,l2,m2, -,r3⟩⟩:=cn_in.1 h1
 obtain ⟨v1,f1,v2,rfl,⟨C1,b1,rfl, -, -, -,s1⟩,s2,⟨C2,b2,rfl, -, -, -,s3⟩⟩:=cn_in.1 h2
 simp only [List.length_map] at l1 l2 h1 h2 r1 r2 r3 s1 s2 s3 ⊢
 obtain ⟨ku,ou,vku,vnu,vsu,nsu,Bu,mu,du,rfl⟩:=ex_form r2
 obtain ⟨kv,ov,vkv,vnv,vsv,nsv,Bv,mv,dv,rfl⟩:=ex_form s2
 obtain ⟨n1,hn1⟩:∃n,xc.length=n:=⟨_,rfl⟩
 obtain ⟨n2,hn2⟩:∃n,xr.length=n:=⟨_,rfl⟩
 obtain ⟨p1,hp1⟩:∃n,yc.length=n:=⟨_,rfl⟩
 obtain ⟨p2,hp2⟩:∃n,yr.length=n:=⟨_,rfl⟩
 rw [hn1,hn2,hp1,hp2]
 show Calls Tryz.prog 63 #[.agg #[.string (txt xn), .int .i64 xk, .slice A1 n1 a1, .int .i64 ku, .int .i64 ou, .int .i64 vku, .int .i64 vnu, .string vsu, .string nsu, .slice Bu mu du, .string (txt xt), .slice A2 n2 a2], .agg #[.string (txt yn), .int .i64 yk, .slice C1 p1 b1, .int .i64 kv, .int .i64 ov, .int .i64 vkv, .int .i64 vnv, .string vsv, .string nsv, .slice Bv mv dv, .string (txt yt), .slice C2 p2 b2]] w _
 obtain ⟨W,hW⟩:∃W,(w.alloc (.cells #[.string (txt xn), .int .i64 xk, .slice A1 n1 a1, .int .i64 ku, .int .i64 ou, .int .i64 vku, .int .i64 vnu, .string vsu, .string nsu, .slice Bu mu du, .string (txt xt), .slice A2 n2 a2] 56)).alloc (.cells #[.string (txt yn), .int .i64 yk, .slice C1 p1 b1, .int .i64 kv, .int .i64 ov, .int .i64 vkv, .int .i64 vnv, .string vsv, .string nsv, .slice Bv mv dv, .string (txt yt), .slice C2 p2 b2] 56)=W:=⟨_,rfl⟩
 have hb:Below w.heap.size w W:=by rw [←hW];exact al (al (Below.refl _ _) _) _
 have hs1:w.heap.size<W.heap.size:=by rw [←hW];simp;omega
 have hs2:w.heap.size+1<W.heap.size:=by rw [←hW];simp
 have x1:Cel W w.heap.size 56 #[.string (txt xn), .int .i64 xk, .slice A1 n1 a1, .int .i64 ku, .int .i64 ou, .int .i64 vku, .int .i64 vnu, .string vsu, .string nsu, .slice Bu mu du, .string (txt xt), .slice A2 n2 a2]:=by rw [←hW];exact (Cel.new w _ _ rfl).alloc _
 have x2:Cel W (w.heap.size+1) 56 #[.string (txt yn), .int .i64 yk, .slice C1 p1 b1, .int .i64 kv, .int .i64 ov, .int .i64 vkv, .int .i64 vnv, .string vsv, .string nsv, .slice Bv mv dv, .string (txt yt), .slice C2 p2 b2]:=by rw [←hW];exact Cel.new _ _ _ (by simp)
 have HB:=Lib.hid hb
 have HY:=Lib.hid (Below.refl W.heap.size W)
 have HS1:=Lib.hid hs1
 have HS2:=Lib.hid hs2
 have X1:=Lib.hid x1
 have X2:=Lib.hid x2
 obtain ⟨q1,hq1⟩:∃q,eqB xc yc=q:=⟨_,rfl⟩
 have HC1:=Lib.hid (show ∀W',Below W.heap.size W W' →Calls Tryz.prog 64 #[.slice A1 n1 a1, .slice C1 p1 b1] W' fun e w' =>e= .returned (.bool q1)∧Below W'.heap.size W' w' from fun W' hW=>by
   rw [←hq1,←hn1,←hp1]
   exact equalS_any xc yc A1 C1 a1 b1 W' (by omega) (RowIn.to (fun b h=>Nat.lt_of_lt_of_le h (Mem.on hb hW).size) (fun p hp=>(Mem.on hb hW).cell hp) r1) (RowIn.to (fun b h=>Nat.lt_of_lt_of_le h (Mem.on hb hW).size) (fun p hp=>(Mem.on hb hW).cell hp) s1))
 obtain ⟨q2,hq2⟩:∃q,eqB xr yr=q:=⟨_,rfl⟩
 have HC2:=Lib.hid (show ∀W',Below W.heap.size W W' →Calls Tryz.prog 64 #[.slice A2 n2 a2, .slice C2 p2 b2] W' fun e w' =>e= .returned (.bool q2)∧Below W'.heap.size W' w' from fun W' hW=>by
   rw [←hq2,←hn2,←hp2]
   exact equalS_any xr yr A2 C2 a2 b2 W' (by omega) (RowIn.to (fun b h=>Nat.lt_of_lt_of_le h (Mem.on hb hW).size) (fun p hp=>(Mem.on hb hW).cell hp) r3) (RowIn.to (fun b h=>Nat.lt_of_lt_of_le h (Mem.on hb hW).size) (fun p hp=>(Mem.on hb hW).cell hp) s3))
 obtain ⟨q3,hq3⟩:∃q,eqB xe ye=q:=⟨_,rfl⟩
 have HC3:=Lib.hid (show ∀W',Below W.heap.size W W' →Calls Tryz.prog 40 #[.agg #[.int .i64 ku, .int .i64 ou, .int .i64 vku, .int .i64 vnu, .string vsu, .string nsu, .slice Bu mu du], .agg #[.int .i64 kv, .int .i64 ov, .int .i64 vkv, .int .i64 vnv, .string vsv, .string nsv, .slice Bv mv dv]] W' fun e w' =>e= .returned (.bool q3)∧Below W'.heap.size W' w' from fun W' hW=>by
   rw [←hq3]
   exact same_ex xe ye _ _ W' (DtIn.on r2 (Mem.on hb hW)) (DtIn.on s2 (Mem.on hb hW)))
 have c0:=x1.at_ 0
 have c1:=x1.at_ 1
 have c2:=x1.at_ 2
 have c3:=x1.at_ 3
 have c4:=x1.at_ 4
 have c5:=x1.at_ 5
 have c6:=x1.at_ 6
 have c7:=x1.at_ 7
 have c8:=x1.at_ 8
 have c9:=x1.at_ 9
 have c10:=x1.at_ 10
 have c11:=x1.at_ 11
 have d0:=x2.at_ 0
 have d1:=x2.at_ 1
 have d2:=x2.at_ 2
 have d3:=x2.at_ 3
 have d4:=x2.at_ 4
 have d5:=x2.at_ 5
 have d6:=x2.at_ 6
 have d7:=x2.at_ 7
 have d8:=x2.at_ 8
 have d9:=x2.at_ 9
 have d10:=x2.at_ 10
 have d11:=x2.at_ 11
 clear h1 h2 x1 x2 hb hs1 hs2 r1 r2 r3 s1 s2 s3 l1 l2 m1 m2 hn1 hn2 hp1 hp2
 by_cases e0:xn=yn
 case neg=>
   obtain ⟨t3,t4,t5⟩:=txt_ne e0
   have HF:=Lib.hid (eqB_no (a:=(⟨xn,xk,xc,xe,xt,xr⟩:Cn)) (b:=(⟨yn,yk,yc,ye,yt,yr⟩:Cn)) (fun g=>by
     have e9:xn=yn:=by injection g
     exact e0 e9)).symm
   clear hq1 hq2 hq3
   go_enter Tryz.func63,Tryz.ntmps63
   go_wp2
   go_ret
   exact ⟨rb HF.out,HB.out⟩
 subst e0
 by_cases e0:xk=yk
 case neg=>
   have t1:(xk==yk)=false:=beq_no e0
   have HF:=Lib.hid (eqB_no (a:=(⟨xn,xk,xc,xe,xt,xr⟩:Cn)) (b:=(⟨xn,yk,yc,ye,yt,yr⟩:Cn)) (fun g=>by
     have e9:xk=yk:=by injection g
     exact e0 e9)).symm
   clear hq1 hq2 hq3
   go_enter Tryz.func63,Tryz.ntmps63
   go_wp2
   go_ret
   exact ⟨rb HF.out,HB.out⟩
 subst e0
 by_cases e0:xt=yt
 case neg=>
   obtain ⟨t3,t4,t5⟩:=txt_ne e0
   have HF:=Lib.hid (eqB_no (a:=(⟨xn,xk,xc,xe,xt,xr⟩:Cn)) (b:=(⟨xn,xk,yc,ye,yt,yr⟩:Cn)) (fun g=>by
     have e9:xt=yt:=by injection g
     exact e0 e9)).symm
   clear hq1 hq2 hq3
   go_enter Tryz.func63,Tryz.ntmps63
   go_wp2
   go_ret
   exact ⟨rb HF.out,HB.out⟩
 subst e0
 by_cases e0:q1=false
 case pos=>
   subst e0
   have HF:=Lib.hid (eqB_no (a:=(⟨xn,xk,xc,xe,xt,xr⟩:Cn)) (b:=(⟨xn,xk,yc,ye,xt,yr⟩:Cn)) (fun g=>by
     have e9:xc=yc:=by injection g
     rw [eqB_yes e9] at hq1
     cases hq1)).symm
   clear hq1 hq2 hq3
   go_enter Tryz.func63,Tryz.ntmps63
   go_wp2_with (go_at_call 64;(with_reducible refine (HC1.out _ HY.out).mono ?_);rintro e' w2 ⟨rfl,hb2⟩;have HB:=Lib.hid (Mem.on HB.out hb2);have HY:=Lib.hid (Mem.on HY.out hb2);have c11:=(HY.out.cell (p:=⟨w.heap.size,11,none⟩) HS1.out).trans (X1.out.at_ 11);have d11:=(HY.out.cell (p:=⟨w.heap.size+1,11,none⟩) HS2.out).trans (X2.out.at_ 11);have c3:=(HY.out.cell (p:=⟨w.heap.size,3,none⟩) HS1.out).trans (X1.out.at_ 3);have d3:=(HY.out.cell (p:=⟨w.heap.size+1,3,none⟩) HS2.out).trans (X2.out.at_ 3);have c4:=(HY.out.cell (p:=⟨w.heap.size,4,none⟩) HS1.out).trans (X1.out.at_ 4);have d4:=(HY.out.cell (p:=⟨w.heap.size+1,4,none⟩) HS2.out).trans (X2.out.at_ 4);have c5:=(HY.out.cell (p:=⟨w.heap.size,5,none⟩) HS1.out).trans (X1.out.at_ 5);have d5:=(HY.out.cell (p:=⟨w.heap.size+1,5,none⟩) HS2.out).trans (X2.out.at_ 5);have c6:=(HY.out.cell (p:=⟨w.heap.size,6,none⟩) HS1.out).trans (X1.out.at_ 6);have d6:=(HY.out.cell (p:=⟨w.heap.size+1,6,none⟩) HS2.out).trans (X2.out.at_ 6);have c7:=(HY.out.cell (p:=⟨w.heap.size,7,none⟩) HS1.out).trans (X1.out.at_ 7);have d7:=(HY.out.cell (p:=⟨w.heap.size+1,7,none⟩) HS2.out).trans (X2.out.at_ 7);have c8:=(HY.out.cell (p:=⟨w.heap.size,8,none⟩) HS1.out).trans (X1.out.at_ 8);have d8:=(HY.out.cell (p:=⟨w.heap.size+1,8,none⟩) HS2.out).trans (X2.out.at_ 8);have c9:=(HY.out.cell (p:=⟨w.heap.size,9,none⟩) HS1.out).trans (X1.out.at_ 9);have d9:=(HY.out.cell (p:=⟨w.heap.size+1,9,none⟩) HS2.out).trans (X2.out.at_ 9);clear hb2)
   go_ret
   exact ⟨rb HF.out,HB.out⟩
 obtain rfl:q1=true:=by
   cases q1 with
   |false=>exact absurd rfl e0
   |true=>rfl
 clear e0
 by_cases e0:q2=false
 case pos=>
   subst e0
   have HF:=Lib.hid (eqB_no (a:=(⟨xn,xk,xc,xe,xt,xr⟩:Cn)) (b:=(⟨xn,xk,yc,ye,xt,yr⟩:Cn)) (fun g=>by
     have e9:xr=yr:=by injection g
     rw [eqB_yes e9] at hq2
     cases hq2)).symm
   clear hq1 hq2 hq3
   go_enter Tryz.func63,Tryz.ntmps63
   go_wp2_with (go_at_call 64;(with_reducible refine (HC1.out _ HY.out).mono ?_);rintro e' w2 ⟨rfl,hb2⟩;have HB:=Lib.hid (Mem.on HB.out hb2);have HY:=Lib.hid (Mem.on HY.out hb2);have c11:=(HY.out.cell (p:=⟨w.heap.size,11,none⟩) HS1.out).trans (X1.out.at_ 11);have d11:=(HY.out.cell (p:=⟨w.heap.size+1,11,none⟩) HS2.out).trans (X2.out.at_ 11);have c3:=(HY.out.cell (p:=⟨w.heap.size,3,none⟩) HS1.out).trans (X1.out.at_ 3);have d3:=(HY.out.cell (p:=⟨w.heap.size+1,3,none⟩) HS2.out).trans (X2.out.at_ 3);have c4:=(HY.out.cell (p:=⟨w.heap.size,4,none⟩) HS1.out).trans (X1.out.at_ 4);have d4:=(HY.out.cell (p:=⟨w.heap.size+1,4,none⟩) HS2.out).trans (X2.out.at_ 4);have c5:=(HY.out.cell (p:=⟨w.heap.size,5,none⟩) HS1.out).trans (X1.out.at_ 5);have d5:=(HY.out.cell (p:=⟨w.heap.size+1,5,none⟩) HS2.out).trans (X2.out.at_ 5);have c6:=(HY.out.cell (p:=⟨w.heap.size,6,none⟩) HS1.out).trans (X1.out.at_ 6);have d6:=(HY.out.cell (p:=⟨w.heap.size+1,6,none⟩) HS2.out).trans (X2.out.at_ 6);have c7:=(HY.out.cell (p:=⟨w.heap.size,7,none⟩) HS1.out).trans (X1.out.at_ 7);have d7:=(HY.out.cell (p:=⟨w.heap.size+1,7,none⟩) HS2.out).trans (X2.out.at_ 7);have c8:=(HY.out.cell (p:=⟨w.heap.size,8,none⟩) HS1.out).trans (X1.out.at_ 8);have d8:=(HY.out.cell (p:=⟨w.heap.size+1,8,none⟩) HS2.out).trans (X2.out.at_ 8);have c9:=(HY.out.cell (p:=⟨w.heap.size,9,none⟩) HS1.out).trans (X1.out.at_ 9);have d9:=(HY.out.cell (p:=⟨w.heap.size+1,9,none⟩) HS2.out).trans (X2.out.at_ 9);clear hb2)
   go_wp2_with (go_at_call 64;(with_reducible refine (HC2.out _ HY.out).mono ?_);rintro e' w2 ⟨rfl,hb2⟩;have HB:=Lib.hid (Mem.on HB.out hb2);have HY:=Lib.hid (Mem.on HY.out hb2);have c3:=(HY.out.cell (p:=⟨w.heap.size,3,none⟩) HS1.out).trans (X1.out.at_ 3);have d3:=(HY.out.cell (p:=⟨w.heap.size+1,3,none⟩) HS2.out).trans (X2.out.at_ 3);have c4:=(HY.out.cell (p:=⟨w.heap.size,4,none⟩) HS1.out).trans (X1.out.at_ 4);have d4:=(HY.out.cell (p:=⟨w.heap.size+1,4,none⟩) HS2.out).trans (X2.out.at_ 4);have c5:=(HY.out.cell (p:=⟨w.heap.size,5,none⟩) HS1.out).trans (X1.out.at_ 5);have d5:=(HY.out.cell (p:=⟨w.heap.size+1,5,none⟩) HS2.out).trans (X2.out.at_ 5);have c6:=(HY.out.cell (p:=⟨w.heap.size,6,none⟩) HS1.out).trans (X1.out.at_ 6);have d6:=(HY.out.cell (p:=⟨w.heap.size+1,6,none⟩) HS2.out).trans (X2.out.at_ 6);have c7:=(HY.out.cell (p:=⟨w.heap.size,7,none⟩) HS1.out).trans (X1.out.at_ 7);have d7:=(HY.out.cell (p:=⟨w.heap.size+1,7,none⟩) HS2.out).trans (X2.out.at_ 7);have c8:=(HY.out.cell (p:=⟨w.heap.size,8,none⟩) HS1.out).trans (X1.out.at_ 8);have d8:=(HY.out.cell (p:=⟨w.heap.size+1,8,none⟩) HS2.out).trans (X2.out.at_ 8);have c9:=(HY.out.cell (p:=⟨w.heap.size,9,none⟩) HS1.out).trans (X1.out.at_ 9);have d9:=(HY.out.cell (p:=⟨w.heap.size+1,9,none⟩) HS2.out).trans (X2.out.at_ 9);clear hb2)
   go_ret
   exact ⟨rb HF.out,HB.out⟩
 obtain rfl:q2=true:=by
   cases q2 with
   |false=>exact absurd rfl e0
   |true=>rfl
 clear e0
 by_cases e0:q3=false
 case pos=>
   subst e0
   have HF:=Lib.hid (eqB_no (a:=(⟨xn,xk,xc,xe,xt,xr⟩:Cn)) (b:=(⟨xn,xk,yc,ye,xt,yr⟩:Cn)) (fun g=>by
     have e9:xe=ye:=by injection g
     rw [eqB_yes e9] at hq3
     cases hq3)).symm
   clear hq1 hq2 hq3
   go_enter Tryz.func63,Tryz.ntmps63
   go_wp2_with (go_at_call 64;(with_reducible refine (HC1.out _ HY.out).mono ?_);rintro e' w2 ⟨rfl,hb2⟩;have HB:=Lib.hid (Mem.on HB.out hb2);have HY:=Lib.hid (Mem.on HY.out hb2);have c11:=(HY.out.cell (p:=⟨w.heap.size,11,none⟩) HS1.out).trans (X1.out.at_ 11);have d11:=(HY.out.cell (p:=⟨w.heap.size+1,11,none⟩) HS2.out).trans (X2.out.at_ 11);have c3:=(HY.out.cell (p:=⟨w.heap.size,3,none⟩) HS1.out).trans (X1.out.at_ 3);have d3:=(HY.out.cell (p:=⟨w.heap.size+1,3,none⟩) HS2.out).trans (X2.out.at_ 3);have c4:=(HY.out.cell (p:=⟨w.heap.size,4,none⟩) HS1.out).trans (X1.out.at_ 4);have d4:=(HY.out.cell (p:=⟨w.heap.size+1,4,none⟩) HS2.out).trans (X2.out.at_ 4);have c5:=(HY.out.cell (p:=⟨w.heap.size,5,none⟩) HS1.out).trans (X1.out.at_ 5);have d5:=(HY.out.cell (p:=⟨w.heap.size+1,5,none⟩) HS2.out).trans (X2.out.at_ 5);have c6:=(HY.out.cell (p:=⟨w.heap.size,6,none⟩) HS1.out).trans (X1.out.at_ 6);have d6:=(HY.out.cell (p:=⟨w.heap.size+1,6,none⟩) HS2.out).trans (X2.out.at_ 6);have c7:=(HY.out.cell (p:=⟨w.heap.size,7,none⟩) HS1.out).trans (X1.out.at_ 7);have d7:=(HY.out.cell (p:=⟨w.heap.size+1,7,none⟩) HS2.out).trans (X2.out.at_ 7);have c8:=(HY.out.cell (p:=⟨w.heap.size,8,none⟩) HS1.out).trans (X1.out.at_ 8);have d8:=(HY.out.cell (p:=⟨w.heap.size+1,8,none⟩) HS2.out).trans (X2.out.at_ 8);have c9:=(HY.out.cell (p:=⟨w.heap.size,9,none⟩) HS1.out).trans (X1.out.at_ 9);have d9:=(HY.out.cell (p:=⟨w.heap.size+1,9,none⟩) HS2.out).trans (X2.out.at_ 9);clear hb2)
   go_wp2_with (go_at_call 64;(with_reducible refine (HC2.out _ HY.out).mono ?_);rintro e' w2 ⟨rfl,hb2⟩;have HB:=Lib.hid (Mem.on HB.out hb2);have HY:=Lib.hid (Mem.on HY.out hb2);have c3:=(HY.out.cell (p:=⟨w.heap.size,3,none⟩) HS1.out).trans (X1.out.at_ 3);have d3:=(HY.out.cell (p:=⟨w.heap.size+1,3,none⟩) HS2.out).trans (X2.out.at_ 3);have c4:=(HY.out.cell (p:=⟨w.heap.size,4,none⟩) HS1.out).trans (X1.out.at_ 4);have d4:=(HY.out.cell (p:=⟨w.heap.size+1,4,none⟩) HS2.out).trans (X2.out.at_ 4);have c5:=(HY.out.cell (p:=⟨w.heap.size,5,none⟩) HS1.out).trans (X1.out.at_ 5);have d5:=(HY.out.cell (p:=⟨w.heap.size+1,5,none⟩) HS2.out).trans (X2.out.at_ 5);have c6:=(HY.out.cell (p:=⟨w.heap.size,6,none⟩) HS1.out).trans (X1.out.at_ 6);have d6:=(HY.out.cell (p:=⟨w.heap.size+1,6,none⟩) HS2.out).trans (X2.out.at_ 6);have c7:=(HY.out.cell (p:=⟨w.heap.size,7,none⟩) HS1.out).trans (X1.out.at_ 7);have d7:=(HY.out.cell (p:=⟨w.heap.size+1,7,none⟩) HS2.out).trans (X2.out.at_ 7);have c8:=(HY.out.cell (p:=⟨w.heap.size,8,none⟩) HS1.out).trans (X1.out.at_ 8);have d8:=(HY.out.cell (p:=⟨w.heap.size+1,8,none⟩) HS2.out).trans (X2.out.at_ 8);have c9:=(HY.out.cell (p:=⟨w.heap.size,9,none⟩) HS1.out).trans (X1.out.at_ 9);have d9:=(HY.out.cell (p:=⟨w.heap.size+1,9,none⟩) HS2.out).trans (X2.out.at_ 9);clear hb2)
   go_wp2_with (go_at_call 40;(with_reducible refine (HC3.out _ HY.out).mono ?_);rintro e' w2 ⟨rfl,hb2⟩;have HB:=Lib.hid (Mem.on HB.out hb2);have HY:=Lib.hid (Mem.on HY.out hb2);clear hb2)
   go_ret
   exact ⟨rb HF.out,HB.out⟩
 obtain rfl:q3=true:=by
   cases q3 with
   |false=>exact absurd rfl e0
   |true=>rfl
 clear e0
 have HF:=Lib.hid (eqB_yes (a:=(⟨xn,xk,xc,xe,xt,xr⟩:Cn)) (b:=(⟨xn,xk,yc,ye,xt,yr⟩:Cn)) (by rw [eqB_iff.1 hq1,eqB_iff.1 hq2,eqB_iff.1 hq3])).symm
 clear hq1 hq2 hq3
 go_enter Tryz.func63,Tryz.ntmps63
 go_wp2_with (go_at_call 64;(with_reducible refine (HC1.out _ HY.out).mono ?_);rintro e' w2 ⟨rfl,hb2⟩;have HB:=Lib.hid (Mem.on HB.out hb2);have HY:=Lib.hid (Mem.on HY.out hb2);have c11:=(HY.out.cell (p:=⟨w.heap.size,11,none⟩) HS1.out).trans (X1.out.at_ 11);have d11:=(HY.out.cell (p:=⟨w.heap.size+1,11,none⟩) HS2.out).trans (X2.out.at_ 11);have c3:=(HY.out.cell (p:=⟨w.heap.size,3,none⟩) HS1.out).trans (X1.out.at_ 3);have d3:=(HY.out.cell (p:=⟨w.heap.size+1,3,none⟩) HS2.out).trans (X2.out.at_ 3);have c4:=(HY.out.cell (p:=⟨w.heap.size,4,none⟩) HS1.out).trans (X1.out.at_ 4);have d4:=(HY.out.cell (p:=⟨w.heap.size+1,4,none⟩) HS2.out).trans (X2.out.at_ 4);have c5:=(HY.out.cell (p:=⟨w.heap.size,5,none⟩) HS1.out).trans (X1.out.at_ 5);have d5:=(HY.out.cell (p:=⟨w.heap.size+1,5,none⟩) HS2.out).trans (X2.out.at_ 5);have c6:=(HY.out.cell (p:=⟨w.heap.size,6,none⟩) HS1.out).trans (X1.out.at_ 6);have d6:=(HY.out.cell (p:=⟨w.heap.size+1,6,none⟩) HS2.out).trans (X2.out.at_ 6);have c7:=(HY.out.cell (p:=⟨w.heap.size,7,none⟩) HS1.out).trans (X1.out.at_ 7);have d7:=(HY.out.cell (p:=⟨w.heap.size+1,7,none⟩) HS2.out).trans (X2.out.at_ 7);have c8:=(HY.out.cell (p:=⟨w.heap.size,8,none⟩) HS1.out).trans (X1.out.at_ 8);have d8:=(HY.out.cell (p:=⟨w.heap.size+1,8,none⟩) HS2.out).trans (X2.out.at_ 8);have c9:=(HY.out.cell (p:=⟨w.heap.size,9,none⟩) HS1.out).trans (X1.out.at_ 9);have d9:=(HY.out.cell (p:=⟨w.heap.size+1,9,none⟩) HS2.out).trans (X2.out.at_ 9);clear hb2)
 go_wp2_with (go_at_call 64;(with_reducible refine (HC2.out _ HY.out).mono ?_);rintro e' w2 ⟨rfl,hb2⟩;have HB:=Lib.hid (Mem.on HB.out hb2);have HY:=Lib.hid (Mem.on HY.out hb2);have c3:=(HY.out.cell (p:=⟨w.heap.size,3,none⟩) HS1.out).trans (X1.out.at_ 3);have d3:=(HY.out.cell (p:=⟨w.heap.size+1,3,none⟩) HS2.out).trans (X2.out.at_ 3);have c4:=(HY.out.cell (p:=⟨w.heap.size,4,none⟩) HS1.out).trans (X1.out.at_ 4);have d4:=(HY.out.cell (p:=⟨w.heap.size+1,4,none⟩) HS2.out).trans (X2.out.at_ 4);have c5:=(HY.out.cell (p:=⟨w.heap.size,5,none⟩) HS1.out).trans (X1.out.at_ 5);have d5:=(HY.out.cell (p:=⟨w.heap.size+1,5,none⟩) HS2.out).trans (X2.out.at_ 5);have c6:=(HY.out.cell (p:=⟨w.heap.size,6,none⟩) HS1.out).trans (X1.out.at_ 6);have d6:=(HY.out.cell (p:=⟨w.heap.size+1,6,none⟩) HS2.out).trans (X2.out.at_ 6);have c7:=(HY.out.cell (p:=⟨w.heap.size,7,none⟩) HS1.out).trans (X1.out.at_ 7);have d7:=(HY.out.cell (p:=⟨w.heap.size+1,7,none⟩) HS2.out).trans (X2.out.at_ 7);have c8:=(HY.out.cell (p:=⟨w.heap.size,8,none⟩) HS1.out).trans (X1.out.at_ 8);have d8:=(HY.out.cell (p:=⟨w.heap.size+1,8,none⟩) HS2.out).trans (X2.out.at_ 8);have c9:=(HY.out.cell (p:=⟨w.heap.size,9,none⟩) HS1.out).trans (X1.out.at_ 9);have d9:=(HY.out.cell (p:=⟨w.heap.size+1,9,none⟩) HS2.out).trans (X2.out.at_ 9);clear hb2)
 go_wp2_with (go_at_call 40;(with_reducible refine (HC3.out _ HY.out).mono ?_);rintro e' w2 ⟨rfl,hb2⟩;have HB:=Lib.hid (Mem.on HB.out hb2);have HY:=Lib.hid (Mem.on HY.out hb2);clear hb2)
 go_ret
 exact ⟨rb HF.out,HB.out⟩
end Go.Proofs.YtiaomhdmllhmmaaGreatDoor.Sm
namespace Go.Proofs.YtiaomhdmllhmmaaGreatDoor.Sm
open Go.RowKit Mem Ep Right Go.ChangeShapes Go.WideShapes
set_option linter.unusedVariables false
structure CW (w:World) where
 val:World
 h:Below w.heap.size w val
instance (w:World):Nonempty (CW w):=⟨⟨w,Below.refl _ _⟩⟩
theorem wp_region_class {P:Program} {w₀:World} {id:Nat} {Q:Exit→Act→World→Prop} {a:Act} {w:World} {l:List Oper} (hC:Below w₀.heap.size w₀ w.drew) (hm:P.follows .mixedOrders=true) (hB:Region.lexB .any l.toArray=true)
   (h:wpQuiet P l.toArray (fun w' =>∃s:CW w₀,w' =s.val) (fun a' =>∀w',(∃s:CW w₀,w' =s.val)→Q .normal a' w') l a):(Code.region id l.toArray true).wp P Q a w:=
 wp_region_quiet (C:=fun w' =>∃s:CW w₀,w' =s.val) hm hB ⟨⟨_,hC⟩,rfl⟩ (by simpa using h)
theorem CW.calls {P:Program} {f:FuncId} {args:Array Value} {w:World} {v:Value} {s:CW w} (h:Calls P f args s.val fun e w' =>e= .returned v∧Below s.val.heap.size s.val w'):
   Calls P f args s.val fun e w'' =>e= .returned v∧∃s' :CW w,w'' =s'.val:=h.mono fun _ w' ⟨he,hb⟩=>⟨he,⟨w',Mem.on s.h hb⟩,rfl⟩
end Go.Proofs.YtiaomhdmllhmmaaGreatDoor.Sm
