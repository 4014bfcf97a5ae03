/- The items of a list are checked one by one: columns, constraints, names, rows. -/
import Derived.Test.YtiaomhdmllhmmaaGreatDoorK18
namespace Go.Proofs.YtiaomhdmllhmmaaGreatDoor.Sm
open Go.RowKit Mem Ep Right Lx Go.ChangeShapes Go.WideShapes
set_option linter.unusedVariables false
def EachI {α:Type} (B:Nat) (f:Fl) (m:Mk) (er:Int) (w:World) (l:List α) (P:α→Prop) (j:Nat) (wr:World):Prop:=∃er' :Int,Cel wr B tC (ckA f m er')∧Oth B w wr∧(er' =0↔er=0∧∀x∈l.take j,P x)
section
variable {w w' :World} {B:Nat} {f:Fl} {m:Mk} {er:Int}
set_option maxRecDepth 100000 in
set_option maxHeartbeats 2000000 in
theorem each_co {l:List (Co)} {A:Option Addr} {n c:Nat} (least most:Nat) {P:Co→Prop} (h:Cel w B tC (ckA f m er)) (hl:LsIn w B A n 3 (l.map coDt)) (hcb:∀x∈l,∀(W:World) (er:Int) (cs:List Value),Cel W B tC (ckA f m er)→Oth B w W→DtIn W (fun b=>b<B) (coDt x) cs→Calls Tryz.prog 165 #[cP B, .agg cs.toArray] W (Did B f m er (P x) W)):
    Calls Tryz.prog 164 #[cP B, .slice A n c, .int .i64 (least:Int), .int .i64 (most:Int), .func (.func 165) #[cP B] #[]] w (Did B f m er (okLn l least most P) w):=by
  have hn:n=l.length:=by rw [hl.1,List.length_map]
  obtain ⟨lo,hlo⟩:∃lo:Int,(least:Int)=lo:=⟨_,rfl⟩
  obtain ⟨hi,hhi⟩:∃hi:Int,(most:Int)=hi:=⟨_,rfl⟩
  have hmx:n≤2 ^ 63 - 1:=by have:=hl.2.1;unfold maxLen at this;omega
  rw [hlo,hhi]
  by_cases h1:(n:Int)<lo
  · have HM:=Lib.hid (show Calls Tryz.prog 37 #[cP B, .bool false] w (Did B f m er (okLn l least most P) w) from (must_any false h).mono fun _ _ g=>g.iff ⟨fun g=>(by cases g),fun g=>absurd g.1 (by omega)⟩)
    have t1:decide ((n:Int)<lo)=true:=decide_eq_true h1
    clear h hl hcb hn hlo hhi
    go_enter Tryz.func164,Tryz.ntmps164
    go_wp2_with (go_at_call 37;(with_reducible refine HM.out.mono ?_);rintro e1 w1 ⟨rfl,HD1⟩)
    go_end0
    exact ⟨rfl,HD1⟩
  have t1:decide ((n:Int)<lo)=false:=decide_eq_false h1
  by_cases h2:hi<(n:Int)
  · have HM:=Lib.hid (show Calls Tryz.prog 37 #[cP B, .bool false] w (Did B f m er (okLn l least most P) w) from (must_any false h).mono fun _ _ g=>g.iff ⟨fun g=>(by cases g),fun g=>absurd g.2.1 (by omega)⟩)
    have t2:decide (hi<(n:Int))=true:=decide_eq_true h2
    clear h hl hcb hn hlo hhi
    go_enter Tryz.func164,Tryz.ntmps164
    go_wp2_with (go_at_call 37;(with_reducible refine HM.out.mono ?_);rintro e1 w1 ⟨rfl,HD1⟩)
    go_end0
    exact ⟨rfl,HD1⟩
  have t2:decide (hi<(n:Int))=false:=decide_eq_false h2
  have HFIN:=Lib.hid (show ∀wr,EachI B f m er w l P n wr→Did B f m er (okLn l least most P) w (.returned (.tuple #[])) wr from fun wr hI=>by
    obtain ⟨er1,hC1,hO,hq⟩:=hI
    refine ⟨rfl,er1,hC1,hO,?_⟩
    rw [hq,hn,List.take_length]
    exact ⟨fun g=>⟨g.1,by omega,by omega,g.2⟩,fun g=>⟨g.1,g.2.2.2⟩⟩)
  have HL:=Lib.hid hl
  have HCB:=Lib.hid hcb
  have HN:=Lib.hid hn
  have HST:=Lib.hid (show EachI B f m er w l P 0 w from ⟨er,h,Oth.refl _ _,⟨fun g=>⟨g,fun x hx=>by simp at hx⟩,fun g=>g.1⟩⟩)
  clear h hl hcb hn hlo hhi
  go_enter Tryz.func164,Tryz.ntmps164
  go_wp2
  go_loopw [26] (fun i wr=>∃j:Nat,j≤n∧i= .int .i64 (j:Int)∧Hid (EachI B f m er w l P j wr)) (fun i _=>n+1 - (intOf i).toNat)
  case atStart=>exact ⟨0,Nat.zero_le _,rfl,HST⟩
  case round=>
    obtain ⟨j,hj,rfl,HE⟩:=hrel
    by_cases hlt:j<n
    · obtain ⟨er1,hC1,hO,hq⟩:=HE.out
      obtain ⟨x,hx⟩:=some_at HN.out.symm hlt
      have hxm:=List.mem_of_getElem? hx
      have hlB:=hC1.lt
      have HSTEP:=Lib.hid (show ∀w2 er2,Cel w2 B tC (ckA f m er2)→Oth B wr w2→(er2=0↔er1=0∧P x)→EachI B f m er w l P (j+1) w2 from fun w2 er2 g1 g2 g3=>⟨er2,g1,hO.trans g2,by
        rw [g3,hq,List.take_add_one,hx]
        simp only [Option.toList_some,List.mem_append,List.mem_singleton]
        exact ⟨fun g=>⟨g.1.1,fun y hy=>hy.elim (g.1.2 y) (fun e=>e▸g.2)⟩,fun g=>⟨⟨g.1,fun y hy=>g.2 y (.inl hy)⟩,g.2 x (.inr rfl)⟩⟩⟩)
      obtain ⟨b1,z1,rfl,hb1,p0,p1,p2⟩:=co_at (HL.out.below hO.1).2.2 hx
      have HIN:=Lib.hid (show DtIn wr (fun b=>b<B) (coDt x) [.string (txt x.nm), .int .i64 x.ty, .bool x.nn] from co_in.2 rfl)
      obtain ⟨xn,xt,xb⟩:=x
      have c0:wr.cell? ⟨b1,z1+j*3,none⟩=some (.string (txt xn)):=p0
      have c1:wr.cell? ⟨b1,z1+j*3+1,none⟩=some (.int .i64 xt):=p1
      have c2:wr.cell? ⟨b1,z1+j*3+2,none⟩=some (.bool xb):=p2
      obtain ⟨W1,hW1⟩:∃W1,wr.alloc (.cells #[.string (txt xn), .int .i64 xt, .bool xb] 54)=W1:=⟨_,rfl⟩
      have hbw:Below wr.heap.size wr W1:=by rw [←hW1];exact al (Below.refl _ _) _
      have HBW:=Lib.hid hbw
      have xw:Cel W1 wr.heap.size 54 #[.string (txt xn), .int .i64 xt, .bool xb]:=by rw [←hW1];exact Cel.new _ _ _ rfl
      have v0:W1.cell? ⟨wr.heap.size,0,none⟩=some (.string (txt xn)):=xw.at_ 0
      have v1:W1.cell? ⟨wr.heap.size,1,none⟩=some (.int .i64 xt):=xw.at_ 1
      have v2:W1.cell? ⟨wr.heap.size,2,none⟩=some (.bool xb):=xw.at_ 2
      clear hbw xw
      have HCC:=Lib.hid (show ∀W,Below wr.heap.size wr W→Calls Tryz.prog 165 #[cP B, .agg #[.string (txt xn), .int .i64 xt, .bool xb]] W (Did B f m er1 (P ⟨xn,xt,xb⟩) W) from fun W hW=>HCB.out ⟨xn,xt,xb⟩ hxm W er1 [.string (txt xn), .int .i64 xt, .bool xb] (hC1.below hW) (hO.trans (Oth.of hW (Nat.le_of_lt hlB))) (HIN.out.below (hW.mono (Nat.le_of_lt hlB))))
      have tl:decide ((j:Int)<(n:Int))=true:=decide_eq_true (by omega)
      have HLB:=Lib.hid hlB
      clear hx hxm hC1 hO hq hlB hb1 p0 p1 p2 HE
      go_wp2_with (go_at_call 165;(with_reducible refine (HCC.out _ HBW.out).mono ?_);rintro e1 w2 ⟨rfl,er2,hC2,hO2,hq2⟩;have HR:=Lib.hid (HSTEP.out w2 er2 hC2 (Oth.trans (show Oth B wr _ from (Oth.of HBW.out (Nat.le_of_lt HLB.out))) hO2) hq2);clear hC2 hO2 hq2)
      go_roundw
      case rel=>exact ⟨j+1,by omega,by go_num,HR⟩
      case measure=>simp [intOf];omega
    · have tl:decide ((j:Int)<(n:Int))=false:=decide_eq_false (by omega)
      obtain rfl:j=n:=by omega
      have HD:=Lib.hid (HFIN.out wr HE.out)
      clear HFIN HE
      go_wp2
      go_end0
      exact HD.out
set_option maxRecDepth 100000 in
set_option maxHeartbeats 2000000 in
theorem each_cn {l:List (Cn)} {A:Option Addr} {n c:Nat} (least most:Nat) {P:Cn→Prop} (h:Cel w B tC (ckA f m er)) (hl:LsIn w B A n 12 (l.map cnDt)) (hcb:∀x∈l,∀(W:World) (er:Int) (cs:List Value),Cel W B tC (ckA f m er)→Oth B w W→DtIn W (fun b=>b<B) (cnDt x) cs→Calls Tryz.prog 167 #[cP B, .agg cs.toArray] W (Did B f m er (P x) W)):
    Calls Tryz.prog 166 #[cP B, .slice A n c, .int .i64 (least:Int), .int .i64 (most:Int), .func (.func 167) #[cP B] #[]] w (Did B f m er (okLn l least most P) w):=by
  have hn:n=l.length:=by rw [hl.1,List.length_map]
  obtain ⟨lo,hlo⟩:∃lo:Int,(least:Int)=lo:=⟨_,rfl⟩
  obtain ⟨hi,hhi⟩:∃hi:Int,(most:Int)=hi:=⟨_,rfl⟩
  have hmx:n≤2 ^ 63 - 1:=by have:=hl.2.1;unfold maxLen at this;omega
  rw [hlo,hhi]
  by_cases h1:(n:Int)<lo
  · have HM:=Lib.hid (show Calls Tryz.prog 37 #[cP B, .bool false] w (Did B f m er (okLn l least most P) w) from (must_any false h).mono fun _ _ g=>g.iff ⟨fun g=>(by cases g),fun g=>absurd g.1 (by omega)⟩)
    have t1:decide ((n:Int)<lo)=true:=decide_eq_true h1
    clear h hl hcb hn hlo hhi
    go_enter Tryz.func166,Tryz.ntmps166
    go_wp2_with (go_at_call 37;(with_reducible refine HM.out.mono ?_);rintro e1 w1 ⟨rfl,HD1⟩)
    go_end0
    exact ⟨rfl,HD1⟩
  have t1:decide ((n:Int)<lo)=false:=decide_eq_false h1
  by_cases h2:hi<(n:Int)
  · have HM:=Lib.hid (show Calls Tryz.prog 37 #[cP B, .bool false] w (Did B f m er (okLn l least most P) w) from (must_any false h).mono fun _ _ g=>g.iff ⟨fun g=>(by cases g),fun g=>absurd g.2.1 (by omega)⟩)
    have t2:decide (hi<(n:Int))=true:=decide_eq_true h2
    clear h hl hcb hn hlo hhi
    go_enter Tryz.func166,Tryz.ntmps166
    go_wp2_with (go_at_call 37;(with_reducible refine HM.out.mono ?_);rintro e1 w1 ⟨rfl,HD1⟩)
    go_end0
    exact ⟨rfl,HD1⟩
  have t2:decide (hi<(n:Int))=false:=decide_eq_false h2
  have HFIN:=Lib.hid (show ∀wr,EachI B f m er w l P n wr→Did B f m er (okLn l least most P) w (.returned (.tuple #[])) wr from fun wr hI=>by
    obtain ⟨er1,hC1,hO,hq⟩:=hI
    refine ⟨rfl,er1,hC1,hO,?_⟩
    rw [hq,hn,List.take_length]
    exact ⟨fun g=>⟨g.1,by omega,by omega,g.2⟩,fun g=>⟨g.1,g.2.2.2⟩⟩)
  have HL:=Lib.hid hl
  have HCB:=Lib.hid hcb
  have HN:=Lib.hid hn
  have HST:=Lib.hid (show EachI B f m er w l P 0 w from ⟨er,h,Oth.refl _ _,⟨fun g=>⟨g,fun x hx=>by simp at hx⟩,fun g=>g.1⟩⟩)
  clear h hl hcb hn hlo hhi
  go_enter Tryz.func166,Tryz.ntmps166
  go_wp2
  go_loopw [26] (fun i wr=>∃j:Nat,j≤n∧i= .int .i64 (j:Int)∧Hid (EachI B f m er w l P j wr)) (fun i _=>n+1 - (intOf i).toNat)
  case atStart=>exact ⟨0,Nat.zero_le _,rfl,HST⟩
  case round=>
    obtain ⟨j,hj,rfl,HE⟩:=hrel
    by_cases hlt:j<n
    · obtain ⟨er1,hC1,hO,hq⟩:=HE.out
      obtain ⟨x,hx⟩:=some_at HN.out.symm hlt
      have hxm:=List.mem_of_getElem? hx
      have hlB:=hC1.lt
      have HSTEP:=Lib.hid (show ∀w2 er2,Cel w2 B tC (ckA f m er2)→Oth B wr w2→(er2=0↔er1=0∧P x)→EachI B f m er w l P (j+1) w2 from fun w2 er2 g1 g2 g3=>⟨er2,g1,hO.trans g2,by
        rw [g3,hq,List.take_add_one,hx]
        simp only [Option.toList_some,List.mem_append,List.mem_singleton]
        exact ⟨fun g=>⟨g.1.1,fun y hy=>hy.elim (g.1.2 y) (fun e=>e▸g.2)⟩,fun g=>⟨⟨g.1,fun y hy=>g.2 y (.inl hy)⟩,g.2 x (.inr rfl)⟩⟩⟩)
      obtain ⟨b1,z1,nmx,kdx,Px,pnx,pcx,kx,ox,vkx,vnx,vsx,nsx,Ax,nx,cx,tbx,Qx,qnx,qcx,rfl,hb1,⟨p0,p1,p2,p3,p4,p5,p6,p7,p8,p9,p10,p11⟩,in1⟩:=cn_at (HL.out.below hO.1).2.2 hx
      have HIN:=Lib.hid in1
      have c0:wr.cell? ⟨b1,z1+j*12,none⟩=some (.string nmx):=p0
      have c1:wr.cell? ⟨b1,z1+j*12+1,none⟩=some (.int .i64 kdx):=p1
      have c2:wr.cell? ⟨b1,z1+j*12+2,none⟩=some (.slice Px pnx pcx):=p2
      have c3:wr.cell? ⟨b1,z1+j*12+3,none⟩=some (.int .i64 kx):=p3
      have c4:wr.cell? ⟨b1,z1+j*12+4,none⟩=some (.int .i64 ox):=p4
      have c5:wr.cell? ⟨b1,z1+j*12+5,none⟩=some (.int .i64 vkx):=p5
      have c6:wr.cell? ⟨b1,z1+j*12+6,none⟩=some (.int .i64 vnx):=p6
      have c7:wr.cell? ⟨b1,z1+j*12+7,none⟩=some (.string vsx):=p7
      have c8:wr.cell? ⟨b1,z1+j*12+8,none⟩=some (.string nsx):=p8
      have c9:wr.cell? ⟨b1,z1+j*12+9,none⟩=some (.slice Ax nx cx):=p9
      have c10:wr.cell? ⟨b1,z1+j*12+10,none⟩=some (.string tbx):=p10
      have c11:wr.cell? ⟨b1,z1+j*12+11,none⟩=some (.slice Qx qnx qcx):=p11
      obtain ⟨W1,hW1⟩:∃W1,wr.alloc (.cells #[.string nmx, .int .i64 kdx, .slice Px pnx pcx, .int .i64 kx, .int .i64 ox, .int .i64 vkx, .int .i64 vnx, .string vsx, .string nsx, .slice Ax nx cx, .string tbx, .slice Qx qnx qcx] 56)=W1:=⟨_,rfl⟩
      have hbw:Below wr.heap.size wr W1:=by rw [←hW1];exact al (Below.refl _ _) _
      have HBW:=Lib.hid hbw
      have xw:Cel W1 wr.heap.size 56 #[.string nmx, .int .i64 kdx, .slice Px pnx pcx, .int .i64 kx, .int .i64 ox, .int .i64 vkx, .int .i64 vnx, .string vsx, .string nsx, .slice Ax nx cx, .string tbx, .slice Qx qnx qcx]:=by rw [←hW1];exact Cel.new _ _ _ rfl
      have v0:W1.cell? ⟨wr.heap.size,0,none⟩=some (.string nmx):=xw.at_ 0
      have v1:W1.cell? ⟨wr.heap.size,1,none⟩=some (.int .i64 kdx):=xw.at_ 1
      have v2:W1.cell? ⟨wr.heap.size,2,none⟩=some (.slice Px pnx pcx):=xw.at_ 2
      have v3:W1.cell? ⟨wr.heap.size,3,none⟩=some (.int .i64 kx):=xw.at_ 3
      have v4:W1.cell? ⟨wr.heap.size,4,none⟩=some (.int .i64 ox):=xw.at_ 4
      have v5:W1.cell? ⟨wr.heap.size,5,none⟩=some (.int .i64 vkx):=xw.at_ 5
      have v6:W1.cell? ⟨wr.heap.size,6,none⟩=some (.int .i64 vnx):=xw.at_ 6
      have v7:W1.cell? ⟨wr.heap.size,7,none⟩=some (.string vsx):=xw.at_ 7
      have v8:W1.cell? ⟨wr.heap.size,8,none⟩=some (.string nsx):=xw.at_ 8
      have v9:W1.cell? ⟨wr.heap.size,9,none⟩=some (.slice Ax nx cx):=xw.at_ 9
      have v10:W1.cell? ⟨wr.heap.size,10,none⟩=some (.string tbx):=xw.at_ 10
      have v11:W1.cell? ⟨wr.heap.size,11,none⟩=some (.slice Qx qnx qcx):=xw.at_ 11
      clear hbw xw
      have HCC:=Lib.hid (show ∀W,Below wr.heap.size wr W→Calls Tryz.prog 167 #[cP B, .agg #[.string nmx, .int .i64 kdx, .slice Px pnx pcx, .int .i64 kx, .int .i64 ox, .int .i64 vkx, .int .i64 vnx, .string vsx, .string nsx, .slice Ax nx cx, .string tbx, .slice Qx qnx qcx]] W (Did B f m er1 (P x) W) from fun W hW=>HCB.out x hxm W er1 [.string nmx, .int .i64 kdx, .slice Px pnx pcx, .int .i64 kx, .int .i64 ox, .int .i64 vkx, .int .i64 vnx, .string vsx, .string nsx, .slice Ax nx cx, .string tbx, .slice Qx qnx qcx] (hC1.below hW) (hO.trans (Oth.of hW (Nat.le_of_lt hlB))) (HIN.out.below (hW.mono (Nat.le_of_lt hlB))))
      have tl:decide ((j:Int)<(n:Int))=true:=decide_eq_true (by omega)
      have HLB:=Lib.hid hlB
      clear hx hxm hC1 hO hq hlB hb1 p0 p1 p2 p3 p4 p5 p6 p7 p8 p9 p10 p11 in1 HE
      go_wp2_with (go_at_call 167;(with_reducible refine (HCC.out _ HBW.out).mono ?_);rintro e1 w2 ⟨rfl,er2,hC2,hO2,hq2⟩;have HR:=Lib.hid (HSTEP.out w2 er2 hC2 (Oth.trans (show Oth B wr _ from (Oth.of HBW.out (Nat.le_of_lt HLB.out))) hO2) hq2);clear hC2 hO2 hq2)
      go_roundw
      case rel=>exact ⟨j+1,by omega,by go_num,HR⟩
      case measure=>simp [intOf];omega
    · have tl:decide ((j:Int)<(n:Int))=false:=decide_eq_false (by omega)
      obtain rfl:j=n:=by omega
      have HD:=Lib.hid (HFIN.out wr HE.out)
      clear HFIN HE
      go_wp2
      go_end0
      exact HD.out
set_option maxRecDepth 100000 in
set_option maxHeartbeats 2000000 in
theorem each_s {l:List (Bs)} {A:Option Addr} {n c:Nat} (least most:Nat) {P:Bs→Prop} (h:Cel w B tC (ckA f m er)) (hl:LsIn w B A n 1 (l.map sDt)) (hcb:∀x∈l,∀(W:World) (er:Int),Cel W B tC (ckA f m er)→Oth B w W→Calls Tryz.prog 163 #[cP B, .string (txt x)] W (Did B f m er (P x) W)):
    Calls Tryz.prog 168 #[cP B, .slice A n c, .int .i64 (least:Int), .int .i64 (most:Int), .func (.func 163) #[cP B] #[]] w (Did B f m er (okLn l least most P) w):=by
  have hn:n=l.length:=by rw [hl.1,List.length_map]
  obtain ⟨lo,hlo⟩:∃lo:Int,(least:Int)=lo:=⟨_,rfl⟩
  obtain ⟨hi,hhi⟩:∃hi:Int,(most:Int)=hi:=⟨_,rfl⟩
  have hmx:n≤2 ^ 63 - 1:=by have:=hl.2.1;unfold maxLen at this;omega
  rw [hlo,hhi]
  by_cases h1:(n:Int)<lo
  · have HM:=Lib.hid (show Calls Tryz.prog 37 #[cP B, .bool false] w (Did B f m er (okLn l least most P) w) from (must_any false h).mono fun _ _ g=>g.iff ⟨fun g=>(by cases g),fun g=>absurd g.1 (by omega)⟩)
    have t1:decide ((n:Int)<lo)=true:=decide_eq_true h1
    clear h hl hcb hn hlo hhi
    go_enter Tryz.func168,Tryz.ntmps168
    go_wp2_with (go_at_call 37;(with_reducible refine HM.out.mono ?_);rintro e1 w1 ⟨rfl,HD1⟩)
    go_end0
    exact ⟨rfl,HD1⟩
  have t1:decide ((n:Int)<lo)=false:=decide_eq_false h1
  by_cases h2:hi<(n:Int)
  · have HM:=Lib.hid (show Calls Tryz.prog 37 #[cP B, .bool false] w (Did B f m er (okLn l least most P) w) from (must_any false h).mono fun _ _ g=>g.iff ⟨fun g=>(by cases g),fun g=>absurd g.2.1 (by omega)⟩)
    have t2:decide (hi<(n:Int))=true:=decide_eq_true h2
    clear h hl hcb hn hlo hhi
    go_enter Tryz.func168,Tryz.ntmps168
    go_wp2_with (go_at_call 37;(with_reducible refine HM.out.mono ?_);rintro e1 w1 ⟨rfl,HD1⟩)
    go_end0
    exact ⟨rfl,HD1⟩
  have t2:decide (hi<(n:Int))=false:=decide_eq_false h2
  have HFIN:=Lib.hid (show ∀wr,EachI B f m er w l P n wr→Did B f m er (okLn l least most P) w (.returned (.tuple #[])) wr from fun wr hI=>by
    obtain ⟨er1,hC1,hO,hq⟩:=hI
    refine ⟨rfl,er1,hC1,hO,?_⟩
    rw [hq,hn,List.take_length]
    exact ⟨fun g=>⟨g.1,by omega,by omega,g.2⟩,fun g=>⟨g.1,g.2.2.2⟩⟩)
  have HL:=Lib.hid hl
  have HCB:=Lib.hid hcb
  have HN:=Lib.hid hn
  have HST:=Lib.hid (show EachI B f m er w l P 0 w from ⟨er,h,Oth.refl _ _,⟨fun g=>⟨g,fun x hx=>by simp at hx⟩,fun g=>g.1⟩⟩)
  clear h hl hcb hn hlo hhi
  go_enter Tryz.func168,Tryz.ntmps168
  go_wp2
  go_loopw [26] (fun i wr=>∃j:Nat,j≤n∧i= .int .i64 (j:Int)∧Hid (EachI B f m er w l P j wr)) (fun i _=>n+1 - (intOf i).toNat)
  case atStart=>exact ⟨0,Nat.zero_le _,rfl,HST⟩
  case round=>
    obtain ⟨j,hj,rfl,HE⟩:=hrel
    by_cases hlt:j<n
    · obtain ⟨er1,hC1,hO,hq⟩:=HE.out
      obtain ⟨x,hx⟩:=some_at HN.out.symm hlt
      have hxm:=List.mem_of_getElem? hx
      have hlB:=hC1.lt
      have HSTEP:=Lib.hid (show ∀w2 er2,Cel w2 B tC (ckA f m er2)→Oth B wr w2→(er2=0↔er1=0∧P x)→EachI B f m er w l P (j+1) w2 from fun w2 er2 g1 g2 g3=>⟨er2,g1,hO.trans g2,by
        rw [g3,hq,List.take_add_one,hx]
        simp only [Option.toList_some,List.mem_append,List.mem_singleton]
        exact ⟨fun g=>⟨g.1.1,fun y hy=>hy.elim (g.1.2 y) (fun e=>e▸g.2)⟩,fun g=>⟨⟨g.1,fun y hy=>g.2 y (.inl hy)⟩,g.2 x (.inr rfl)⟩⟩⟩)
      obtain ⟨b1,z1,rfl,hb1,p0⟩:=s_at (HL.out.below hO.1).2.2 hx
      have c0:wr.cell? ⟨b1,z1+j,none⟩=some (.string (txt x)):=p0
      have HCC:=Lib.hid (show ∀W,Below wr.heap.size wr W→Calls Tryz.prog 163 #[cP B, .string (txt x)] W (Did B f m er1 (P x) W) from fun W hW=>HCB.out x hxm W er1 (hC1.below hW) (hO.trans (Oth.of hW (Nat.le_of_lt hlB))))
      have tl:decide ((j:Int)<(n:Int))=true:=decide_eq_true (by omega)
      have HLB:=Lib.hid hlB
      clear hx hxm hC1 hO hq hlB hb1 p0 HE
      go_wp2_with (go_at_call 163;(with_reducible refine (HCC.out _ (Below.refl _ _)).mono ?_);rintro e1 w2 ⟨rfl,er2,hC2,hO2,hq2⟩;have HR:=Lib.hid (HSTEP.out w2 er2 hC2 (Oth.trans (show Oth B wr _ from (Oth.refl _ _)) hO2) hq2);clear hC2 hO2 hq2)
      go_roundw
      case rel=>exact ⟨j+1,by omega,by go_num,HR⟩
      case measure=>simp [intOf];omega
    · have tl:decide ((j:Int)<(n:Int))=false:=decide_eq_false (by omega)
      obtain rfl:j=n:=by omega
      have HD:=Lib.hid (HFIN.out wr HE.out)
      clear HFIN HE
      go_wp2
      go_end0
      exact HD.out
set_option maxRecDepth 100000 in
set_option maxHeartbeats 2000000 in
theorem each_rw (pc:Value) (pv:Value) {l:List (List Ex)} {A:Option Addr} {n c:Nat} (least most:Nat) {P:List Ex→Prop} (h:Cel w B tC (ckA f m er)) (hl:LsIn w B A n 1 (l.map exsDt)) (hcb:∀x∈l,∀(W:World) (er:Int) (A:Option Addr) (n c:Nat),Cel W B tC (ckA f m er)→Oth B w W→DtIn W (fun b=>b<B) (exsDt x) [.slice A n c]→Calls Tryz.prog 170 #[.slice A n c,pc,pv] W (Did B f m er (P x) W)):
    Calls Tryz.prog 169 #[cP B, .slice A n c, .int .i64 (least:Int), .int .i64 (most:Int), .func (.func 170) #[] #[pc,pv]] w (Did B f m er (okLn l least most P) w):=by
  have hn:n=l.length:=by rw [hl.1,List.length_map]
  obtain ⟨lo,hlo⟩:∃lo:Int,(least:Int)=lo:=⟨_,rfl⟩
  obtain ⟨hi,hhi⟩:∃hi:Int,(most:Int)=hi:=⟨_,rfl⟩
  have hmx:n≤2 ^ 63 - 1:=by have:=hl.2.1;unfold maxLen at this;omega
  rw [hlo,hhi]
  by_cases h1:(n:Int)<lo
  · have HM:=Lib.hid (show Calls Tryz.prog 37 #[cP B, .bool false] w (Did B f m er (okLn l least most P) w) from (must_any false h).mono fun _ _ g=>g.iff ⟨fun g=>(by cases g),fun g=>absurd g.1 (by omega)⟩)
    have t1:decide ((n:Int)<lo)=true:=decide_eq_true h1
    clear h hl hcb hn hlo hhi
    go_enter Tryz.func169,Tryz.ntmps169
    go_wp2_with (go_at_call 37;(with_reducible refine HM.out.mono ?_);rintro e1 w1 ⟨rfl,HD1⟩)
    go_end0
    exact ⟨rfl,HD1⟩
  have t1:decide ((n:Int)<lo)=false:=decide_eq_false h1
  by_cases h2:hi<(n:Int)
  · have HM:=Lib.hid (show Calls Tryz.prog 37 #[cP B, .bool false] w (Did B f m er (okLn l least most P) w) from (must_any false h).mono fun _ _ g=>g.iff ⟨fun g=>(by cases g),fun g=>absurd g.2.1 (by omega)⟩)
    have t2:decide (hi<(n:Int))=true:=decide_eq_true h2
    clear h hl hcb hn hlo hhi
    go_enter Tryz.func169,Tryz.ntmps169
    go_wp2_with (go_at_call 37;(with_reducible refine HM.out.mono ?_);rintro e1 w1 ⟨rfl,HD1⟩)
    go_end0
    exact ⟨rfl,HD1⟩
  have t2:decide (hi<(n:Int))=false:=decide_eq_false h2
  have HFIN:=Lib.hid (show ∀wr,EachI B f m er w l P n wr→Did B f m er (okLn l least most P) w (.returned (.tuple #[])) wr from fun wr hI=>by
    obtain ⟨er1,hC1,hO,hq⟩:=hI
    refine ⟨rfl,er1,hC1,hO,?_⟩
    rw [hq,hn,List.take_length]
    exact ⟨fun g=>⟨g.1,by omega,by omega,g.2⟩,fun g=>⟨g.1,g.2.2.2⟩⟩)
  have HL:=Lib.hid hl
  have HCB:=Lib.hid hcb
  have HN:=Lib.hid hn
  have HST:=Lib.hid (show EachI B f m er w l P 0 w from ⟨er,h,Oth.refl _ _,⟨fun g=>⟨g,fun x hx=>by simp at hx⟩,fun g=>g.1⟩⟩)
  clear h hl hcb hn hlo hhi
  go_enter Tryz.func169,Tryz.ntmps169
  go_wp2
  go_loopw [26] (fun i wr=>∃j:Nat,j≤n∧i= .int .i64 (j:Int)∧Hid (EachI B f m er w l P j wr)) (fun i _=>n+1 - (intOf i).toNat)
  case atStart=>exact ⟨0,Nat.zero_le _,rfl,HST⟩
  case round=>
    obtain ⟨j,hj,rfl,HE⟩:=hrel
    by_cases hlt:j<n
    · obtain ⟨er1,hC1,hO,hq⟩:=HE.out
      obtain ⟨x,hx⟩:=some_at HN.out.symm hlt
      have hxm:=List.mem_of_getElem? hx
      have hlB:=hC1.lt
      have HSTEP:=Lib.hid (show ∀w2 er2,Cel w2 B tC (ckA f m er2)→Oth B wr w2→(er2=0↔er1=0∧P x)→EachI B f m er w l P (j+1) w2 from fun w2 er2 g1 g2 g3=>⟨er2,g1,hO.trans g2,by
        rw [g3,hq,List.take_add_one,hx]
        simp only [Option.toList_some,List.mem_append,List.mem_singleton]
        exact ⟨fun g=>⟨g.1.1,fun y hy=>hy.elim (g.1.2 y) (fun e=>e▸g.2)⟩,fun g=>⟨⟨g.1,fun y hy=>g.2 y (.inl hy)⟩,g.2 x (.inr rfl)⟩⟩⟩)
      obtain ⟨b1,z1,Ax,nx,cx,rfl,hb1,p0,in1⟩:=rw_at (HL.out.below hO.1).2.2 hx
      have HIN:=Lib.hid in1
      have c0:wr.cell? ⟨b1,z1+j,none⟩=some (.slice Ax nx cx):=p0
      have HCC:=Lib.hid (show ∀W,Below wr.heap.size wr W→Calls Tryz.prog 170 #[.slice Ax nx cx,pc,pv] W (Did B f m er1 (P x) W) from fun W hW=>HCB.out x hxm W er1 _ _ _ (hC1.below hW) (hO.trans (Oth.of hW (Nat.le_of_lt hlB))) (HIN.out.below (hW.mono (Nat.le_of_lt hlB))))
      have tl:decide ((j:Int)<(n:Int))=true:=decide_eq_true (by omega)
      have HLB:=Lib.hid hlB
      clear hx hxm hC1 hO hq hlB hb1 p0 in1 HE
      go_wp2_with (go_at_call 170;(with_reducible refine (HCC.out _ (Below.refl _ _)).mono ?_);rintro e1 w2 ⟨rfl,er2,hC2,hO2,hq2⟩;have HR:=Lib.hid (HSTEP.out w2 er2 hC2 (Oth.trans (show Oth B wr _ from (Oth.refl _ _)) hO2) hq2);clear hC2 hO2 hq2)
      go_roundw
      case rel=>exact ⟨j+1,by omega,by go_num,HR⟩
      case measure=>simp [intOf];omega
    · have tl:decide ((j:Int)<(n:Int))=false:=decide_eq_false (by omega)
      obtain rfl:j=n:=by omega
      have HD:=Lib.hid (HFIN.out wr HE.out)
      clear HFIN HE
      go_wp2
      go_end0
      exact HD.out
end
end Go.Proofs.YtiaomhdmllhmmaaGreatDoor.Sm
