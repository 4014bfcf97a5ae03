/- The items of a list are checked one by one: expressions, sets, orders, statements. Words of types and privileges: the program's and the document's. -/
import Derived.Test.YtiaomhdmllhmmaaGreatDoorK19
import Derived.Test.YtiaomhdmllhmmaaGreatDoorK18
import Derived.Test.YtiaomhdmllhmmaaGreatDoorK15
namespace Go.Proofs.YtiaomhdmllhmmaaGreatDoor.Sm
open Go.RowKit Mem Ep Right Lx Go.ChangeShapes Go.WideShapes
set_option linter.unusedVariables false
section
variable {w w' :World} {B:Nat} {f:Fl} {m:Mk} {er:Int}
set_option maxRecDepth 100000 in
set_option maxHeartbeats 2000000 in
theorem each_ex {l:List (Ex)} {A:Option Addr} {n c:Nat} (least most:Nat) {P:Ex→Prop} (h:Cel w B tC (ckA f m er)) (hl:LsIn w B A n 7 (l.map exDt)) (hcb:∀x∈l,∀(W:World) (er:Int) (cs:List Value),Cel W B tC (ckA f m er)→Oth B w W→DtIn W (fun b=>b<B) (exDt x) cs→Calls Tryz.prog 172 #[cP B, .agg cs.toArray] W (Did B f m er (P x) W)):
    Calls Tryz.prog 171 #[cP B, .slice A n c, .int .i64 (least:Int), .int .i64 (most:Int), .func (.func 172) #[cP B] #[]] w (Did B f m er (okLn l least most P) w):=by
  have hn:n=l.length:=by rw [hl.1,List.length_map]
  obtain ⟨lo,hlo⟩:∃lo:Int,(least:Int)=lo:=⟨_,rfl⟩
  obtain ⟨hi,hhi⟩:∃hi:Int,(most:Int)=hi:=⟨_,rfl⟩
  have hmx:n≤2 ^ 63 - 1:=by have:=hl.2.1;unfold maxLen at this;omega
  rw [hlo,hhi]
  by_cases h1:(n:Int)<lo
  · have HM:=Lib.hid (show Calls Tryz.prog 37 #[cP B, .bool false] w (Did B f m er (okLn l least most P) w) from (must_any false h).mono fun _ _ g=>g.iff ⟨fun g=>(by cases g),fun g=>absurd g.1 (by omega)⟩)
    have t1:decide ((n:Int)<lo)=true:=decide_eq_true h1
    clear h hl hcb hn hlo hhi
    go_enter Tryz.func171,Tryz.ntmps171
    go_wp2_with (go_at_call 37;(with_reducible refine HM.out.mono ?_);rintro e1 w1 ⟨rfl,HD1⟩)
    go_end0
    exact ⟨rfl,HD1⟩
  have t1:decide ((n:Int)<lo)=false:=decide_eq_false h1
  by_cases h2:hi<(n:Int)
  · have HM:=Lib.hid (show Calls Tryz.prog 37 #[cP B, .bool false] w (Did B f m er (okLn l least most P) w) from (must_any false h).mono fun _ _ g=>g.iff ⟨fun g=>(by cases g),fun g=>absurd g.2.1 (by omega)⟩)
    have t2:decide (hi<(n:Int))=true:=decide_eq_true h2
    clear h hl hcb hn hlo hhi
    go_enter Tryz.func171,Tryz.ntmps171
    go_wp2_with (go_at_call 37;(with_reducible refine HM.out.mono ?_);rintro e1 w1 ⟨rfl,HD1⟩)
    go_end0
    exact ⟨rfl,HD1⟩
  have t2:decide (hi<(n:Int))=false:=decide_eq_false h2
  have HFIN:=Lib.hid (show ∀wr,EachI B f m er w l P n wr→Did B f m er (okLn l least most P) w (.returned (.tuple #[])) wr from fun wr hI=>by
    obtain ⟨er1,hC1,hO,hq⟩:=hI
    refine ⟨rfl,er1,hC1,hO,?_⟩
    rw [hq,hn,List.take_length]
    exact ⟨fun g=>⟨g.1,by omega,by omega,g.2⟩,fun g=>⟨g.1,g.2.2.2⟩⟩)
  have HL:=Lib.hid hl
  have HCB:=Lib.hid hcb
  have HN:=Lib.hid hn
  have HST:=Lib.hid (show EachI B f m er w l P 0 w from ⟨er,h,Oth.refl _ _,⟨fun g=>⟨g,fun x hx=>by simp at hx⟩,fun g=>g.1⟩⟩)
  clear h hl hcb hn hlo hhi
  go_enter Tryz.func171,Tryz.ntmps171
  go_wp2
  go_loopw [26] (fun i wr=>∃j:Nat,j≤n∧i= .int .i64 (j:Int)∧Hid (EachI B f m er w l P j wr)) (fun i _=>n+1 - (intOf i).toNat)
  case atStart=>exact ⟨0,Nat.zero_le _,rfl,HST⟩
  case round=>
    obtain ⟨j,hj,rfl,HE⟩:=hrel
    by_cases hlt:j<n
    · obtain ⟨er1,hC1,hO,hq⟩:=HE.out
      obtain ⟨x,hx⟩:=some_at HN.out.symm hlt
      have hxm:=List.mem_of_getElem? hx
      have hlB:=hC1.lt
      have HSTEP:=Lib.hid (show ∀w2 er2,Cel w2 B tC (ckA f m er2)→Oth B wr w2→(er2=0↔er1=0∧P x)→EachI B f m er w l P (j+1) w2 from fun w2 er2 g1 g2 g3=>⟨er2,g1,hO.trans g2,by
        rw [g3,hq,List.take_add_one,hx]
        simp only [Option.toList_some,List.mem_append,List.mem_singleton]
        exact ⟨fun g=>⟨g.1.1,fun y hy=>hy.elim (g.1.2 y) (fun e=>e▸g.2)⟩,fun g=>⟨⟨g.1,fun y hy=>g.2 y (.inl hy)⟩,g.2 x (.inr rfl)⟩⟩⟩)
      obtain ⟨b1,z1,kx,ox,vkx,vnx,vsx,nsx,Ax,nx,cx,rfl,hb1,at1,in1⟩:=ex_at2 (HL.out.below hO.1).2.2 hx
      have HIN:=Lib.hid in1
      have c0:wr.cell? ⟨b1,z1+j*7,none⟩=some (.int .i64 kx):=at1 0 _ rfl
      have c1:wr.cell? ⟨b1,z1+j*7+1,none⟩=some (.int .i64 ox):=at1 1 _ rfl
      have c2:wr.cell? ⟨b1,z1+j*7+2,none⟩=some (.int .i64 vkx):=at1 2 _ rfl
      have c3:wr.cell? ⟨b1,z1+j*7+3,none⟩=some (.int .i64 vnx):=at1 3 _ rfl
      have c4:wr.cell? ⟨b1,z1+j*7+4,none⟩=some (.string vsx):=at1 4 _ rfl
      have c5:wr.cell? ⟨b1,z1+j*7+5,none⟩=some (.string nsx):=at1 5 _ rfl
      have c6:wr.cell? ⟨b1,z1+j*7+6,none⟩=some (.slice Ax nx cx):=at1 6 _ rfl
      obtain ⟨W1,hW1⟩:∃W1,wr.alloc (.cells #[.int .i64 kx, .int .i64 ox, .int .i64 vkx, .int .i64 vnx, .string vsx, .string nsx, .slice Ax nx cx] 30)=W1:=⟨_,rfl⟩
      have hbw:Below wr.heap.size wr W1:=by rw [←hW1];exact al (Below.refl _ _) _
      have HBW:=Lib.hid hbw
      have xw:Cel W1 wr.heap.size 30 #[.int .i64 kx, .int .i64 ox, .int .i64 vkx, .int .i64 vnx, .string vsx, .string nsx, .slice Ax nx cx]:=by rw [←hW1];exact Cel.new _ _ _ rfl
      have v0:W1.cell? ⟨wr.heap.size,0,none⟩=some (.int .i64 kx):=xw.at_ 0
      have v1:W1.cell? ⟨wr.heap.size,1,none⟩=some (.int .i64 ox):=xw.at_ 1
      have v2:W1.cell? ⟨wr.heap.size,2,none⟩=some (.int .i64 vkx):=xw.at_ 2
      have v3:W1.cell? ⟨wr.heap.size,3,none⟩=some (.int .i64 vnx):=xw.at_ 3
      have v4:W1.cell? ⟨wr.heap.size,4,none⟩=some (.string vsx):=xw.at_ 4
      have v5:W1.cell? ⟨wr.heap.size,5,none⟩=some (.string nsx):=xw.at_ 5
      have v6:W1.cell? ⟨wr.heap.size,6,none⟩=some (.slice Ax nx cx):=xw.at_ 6
      clear hbw xw
      have HCC:=Lib.hid (show ∀W,Below wr.heap.size wr W→Calls Tryz.prog 172 #[cP B, .agg #[.int .i64 kx, .int .i64 ox, .int .i64 vkx, .int .i64 vnx, .string vsx, .string nsx, .slice Ax nx cx]] W (Did B f m er1 (P x) W) from fun W hW=>HCB.out x hxm W er1 [.int .i64 kx, .int .i64 ox, .int .i64 vkx, .int .i64 vnx, .string vsx, .string nsx, .slice Ax nx cx] (hC1.below hW) (hO.trans (Oth.of hW (Nat.le_of_lt hlB))) (HIN.out.below (hW.mono (Nat.le_of_lt hlB))))
      have tl:decide ((j:Int)<(n:Int))=true:=decide_eq_true (by omega)
      have HLB:=Lib.hid hlB
      clear hx hxm hC1 hO hq hlB hb1 at1 in1 HE
      go_wp2_with (go_at_call 172;(with_reducible refine (HCC.out _ HBW.out).mono ?_);rintro e1 w2 ⟨rfl,er2,hC2,hO2,hq2⟩;have HR:=Lib.hid (HSTEP.out w2 er2 hC2 (Oth.trans (show Oth B wr _ from (Oth.of HBW.out (Nat.le_of_lt HLB.out))) hO2) hq2);clear hC2 hO2 hq2)
      go_roundw
      case rel=>exact ⟨j+1,by omega,by go_num,HR⟩
      case measure=>simp [intOf];omega
    · have tl:decide ((j:Int)<(n:Int))=false:=decide_eq_false (by omega)
      obtain rfl:j=n:=by omega
      have HD:=Lib.hid (HFIN.out wr HE.out)
      clear HFIN HE
      go_wp2
      go_end0
      exact HD.out
set_option maxRecDepth 100000 in
set_option maxHeartbeats 2000000 in
theorem each_se (pc:Value) {l:List (Bs × Ex)} {A:Option Addr} {n c:Nat} (least most:Nat) {P:Bs × Ex→Prop} (h:Cel w B tC (ckA f m er)) (hl:LsIn w B A n 8 (l.map seDt)) (hcb:∀x∈l,∀(W:World) (er:Int) (cs:List Value),Cel W B tC (ckA f m er)→Oth B w W→DtIn W (fun b=>b<B) (seDt x) cs→Calls Tryz.prog 174 #[.agg cs.toArray,pc] W (Did B f m er (P x) W)):
    Calls Tryz.prog 173 #[cP B, .slice A n c, .int .i64 (least:Int), .int .i64 (most:Int), .func (.func 174) #[] #[pc]] w (Did B f m er (okLn l least most P) w):=by
  have hn:n=l.length:=by rw [hl.1,List.length_map]
  obtain ⟨lo,hlo⟩:∃lo:Int,(least:Int)=lo:=⟨_,rfl⟩
  obtain ⟨hi,hhi⟩:∃hi:Int,(most:Int)=hi:=⟨_,rfl⟩
  have hmx:n≤2 ^ 63 - 1:=by have:=hl.2.1;unfold maxLen at this;omega
  rw [hlo,hhi]
  by_cases h1:(n:Int)<lo
  · have HM:=Lib.hid (show Calls Tryz.prog 37 #[cP B, .bool false] w (Did B f m er (okLn l least most P) w) from (must_any false h).mono fun _ _ g=>g.iff ⟨fun g=>(by cases g),fun g=>absurd g.1 (by omega)⟩)
    have t1:decide ((n:Int)<lo)=true:=decide_eq_true h1
    clear h hl hcb hn hlo hhi
    go_enter Tryz.func173,Tryz.ntmps173
    go_wp2_with (go_at_call 37;(with_reducible refine HM.out.mono ?_);rintro e1 w1 ⟨rfl,HD1⟩)
    go_end0
    exact ⟨rfl,HD1⟩
  have t1:decide ((n:Int)<lo)=false:=decide_eq_false h1
  by_cases h2:hi<(n:Int)
  · have HM:=Lib.hid (show Calls Tryz.prog 37 #[cP B, .bool false] w (Did B f m er (okLn l least most P) w) from (must_any false h).mono fun _ _ g=>g.iff ⟨fun g=>(by cases g),fun g=>absurd g.2.1 (by omega)⟩)
    have t2:decide (hi<(n:Int))=true:=decide_eq_true h2
    clear h hl hcb hn hlo hhi
    go_enter Tryz.func173,Tryz.ntmps173
    go_wp2_with (go_at_call 37;(with_reducible refine HM.out.mono ?_);rintro e1 w1 ⟨rfl,HD1⟩)
    go_end0
    exact ⟨rfl,HD1⟩
  have t2:decide (hi<(n:Int))=false:=decide_eq_false h2
  have HFIN:=Lib.hid (show ∀wr,EachI B f m er w l P n wr→Did B f m er (okLn l least most P) w (.returned (.tuple #[])) wr from fun wr hI=>by
    obtain ⟨er1,hC1,hO,hq⟩:=hI
    refine ⟨rfl,er1,hC1,hO,?_⟩
    rw [hq,hn,List.take_length]
    exact ⟨fun g=>⟨g.1,by omega,by omega,g.2⟩,fun g=>⟨g.1,g.2.2.2⟩⟩)
  have HL:=Lib.hid hl
  have HCB:=Lib.hid hcb
  have HN:=Lib.hid hn
  have HST:=Lib.hid (show EachI B f m er w l P 0 w from ⟨er,h,Oth.refl _ _,⟨fun g=>⟨g,fun x hx=>by simp at hx⟩,fun g=>g.1⟩⟩)
  clear h hl hcb hn hlo hhi
  go_enter Tryz.func173,Tryz.ntmps173
  go_wp2
  go_loopw [26] (fun i wr=>∃j:Nat,j≤n∧i= .int .i64 (j:Int)∧Hid (EachI B f m er w l P j wr)) (fun i _=>n+1 - (intOf i).toNat)
  case atStart=>exact ⟨0,Nat.zero_le _,rfl,HST⟩
  case round=>
    obtain ⟨j,hj,rfl,HE⟩:=hrel
    by_cases hlt:j<n
    · obtain ⟨er1,hC1,hO,hq⟩:=HE.out
      obtain ⟨x,hx⟩:=some_at HN.out.symm hlt
      have hxm:=List.mem_of_getElem? hx
      have hlB:=hC1.lt
      have HSTEP:=Lib.hid (show ∀w2 er2,Cel w2 B tC (ckA f m er2)→Oth B wr w2→(er2=0↔er1=0∧P x)→EachI B f m er w l P (j+1) w2 from fun w2 er2 g1 g2 g3=>⟨er2,g1,hO.trans g2,by
        rw [g3,hq,List.take_add_one,hx]
        simp only [Option.toList_some,List.mem_append,List.mem_singleton]
        exact ⟨fun g=>⟨g.1.1,fun y hy=>hy.elim (g.1.2 y) (fun e=>e▸g.2)⟩,fun g=>⟨⟨g.1,fun y hy=>g.2 y (.inl hy)⟩,g.2 x (.inr rfl)⟩⟩⟩)
      obtain ⟨b1,z1,kx,ox,vkx,vnx,vsx,nsx,Ax,nx,cx,rfl,hb1,at1,in1⟩:=se_at2 (HL.out.below hO.1).2.2 hx
      obtain ⟨xn,xe⟩:=x
      have HIN:=Lib.hid (show DtIn wr (fun b=>b<B) (seDt ⟨xn,xe⟩) [.string (txt xn), .int .i64 kx, .int .i64 ox, .int .i64 vkx, .int .i64 vnx, .string vsx, .string nsx, .slice Ax nx cx] from se_in.2 ⟨[.int .i64 kx, .int .i64 ox, .int .i64 vkx, .int .i64 vnx, .string vsx, .string nsx, .slice Ax nx cx],rfl,in1⟩)
      have c0:wr.cell? ⟨b1,z1+j*8,none⟩=some (.string (txt xn)):=at1 0 _ rfl
      have c1:wr.cell? ⟨b1,z1+j*8+1,none⟩=some (.int .i64 kx):=at1 1 _ rfl
      have c2:wr.cell? ⟨b1,z1+j*8+2,none⟩=some (.int .i64 ox):=at1 2 _ rfl
      have c3:wr.cell? ⟨b1,z1+j*8+3,none⟩=some (.int .i64 vkx):=at1 3 _ rfl
      have c4:wr.cell? ⟨b1,z1+j*8+4,none⟩=some (.int .i64 vnx):=at1 4 _ rfl
      have c5:wr.cell? ⟨b1,z1+j*8+5,none⟩=some (.string vsx):=at1 5 _ rfl
      have c6:wr.cell? ⟨b1,z1+j*8+6,none⟩=some (.string nsx):=at1 6 _ rfl
      have c7:wr.cell? ⟨b1,z1+j*8+7,none⟩=some (.slice Ax nx cx):=at1 7 _ rfl
      obtain ⟨W1,hW1⟩:∃W1,wr.alloc (.cells #[.string (txt xn), .int .i64 kx, .int .i64 ox, .int .i64 vkx, .int .i64 vnx, .string vsx, .string nsx, .slice Ax nx cx] 58)=W1:=⟨_,rfl⟩
      have hbw:Below wr.heap.size wr W1:=by rw [←hW1];exact al (Below.refl _ _) _
      have HBW:=Lib.hid hbw
      have xw:Cel W1 wr.heap.size 58 #[.string (txt xn), .int .i64 kx, .int .i64 ox, .int .i64 vkx, .int .i64 vnx, .string vsx, .string nsx, .slice Ax nx cx]:=by rw [←hW1];exact Cel.new _ _ _ rfl
      have v0:W1.cell? ⟨wr.heap.size,0,none⟩=some (.string (txt xn)):=xw.at_ 0
      have v1:W1.cell? ⟨wr.heap.size,1,none⟩=some (.int .i64 kx):=xw.at_ 1
      have v2:W1.cell? ⟨wr.heap.size,2,none⟩=some (.int .i64 ox):=xw.at_ 2
      have v3:W1.cell? ⟨wr.heap.size,3,none⟩=some (.int .i64 vkx):=xw.at_ 3
      have v4:W1.cell? ⟨wr.heap.size,4,none⟩=some (.int .i64 vnx):=xw.at_ 4
      have v5:W1.cell? ⟨wr.heap.size,5,none⟩=some (.string vsx):=xw.at_ 5
      have v6:W1.cell? ⟨wr.heap.size,6,none⟩=some (.string nsx):=xw.at_ 6
      have v7:W1.cell? ⟨wr.heap.size,7,none⟩=some (.slice Ax nx cx):=xw.at_ 7
      clear hbw xw
      have HCC:=Lib.hid (show ∀W,Below wr.heap.size wr W→Calls Tryz.prog 174 #[.agg #[.string (txt xn), .int .i64 kx, .int .i64 ox, .int .i64 vkx, .int .i64 vnx, .string vsx, .string nsx, .slice Ax nx cx],pc] W (Did B f m er1 (P ⟨xn,xe⟩) W) from fun W hW=>HCB.out ⟨xn,xe⟩ hxm W er1 [.string (txt xn), .int .i64 kx, .int .i64 ox, .int .i64 vkx, .int .i64 vnx, .string vsx, .string nsx, .slice Ax nx cx] (hC1.below hW) (hO.trans (Oth.of hW (Nat.le_of_lt hlB))) (HIN.out.below (hW.mono (Nat.le_of_lt hlB))))
      have tl:decide ((j:Int)<(n:Int))=true:=decide_eq_true (by omega)
      have HLB:=Lib.hid hlB
      clear hx hxm hC1 hO hq hlB hb1 at1 in1 HE
      go_wp2_with (go_at_call 174;(with_reducible refine (HCC.out _ HBW.out).mono ?_);rintro e1 w2 ⟨rfl,er2,hC2,hO2,hq2⟩;have HR:=Lib.hid (HSTEP.out w2 er2 hC2 (Oth.trans (show Oth B wr _ from (Oth.of HBW.out (Nat.le_of_lt HLB.out))) hO2) hq2);clear hC2 hO2 hq2)
      go_roundw
      case rel=>exact ⟨j+1,by omega,by go_num,HR⟩
      case measure=>simp [intOf];omega
    · have tl:decide ((j:Int)<(n:Int))=false:=decide_eq_false (by omega)
      obtain rfl:j=n:=by omega
      have HD:=Lib.hid (HFIN.out wr HE.out)
      clear HFIN HE
      go_wp2
      go_end0
      exact HD.out
set_option maxRecDepth 100000 in
set_option maxHeartbeats 2000000 in
theorem each_or (pc:Value) {l:List (Ex × Bool)} {A:Option Addr} {n c:Nat} (least most:Nat) {P:Ex × Bool→Prop} (h:Cel w B tC (ckA f m er)) (hl:LsIn w B A n 8 (l.map orDt)) (hcb:∀x∈l,∀(W:World) (er:Int) (cs:List Value),Cel W B tC (ckA f m er)→Oth B w W→DtIn W (fun b=>b<B) (orDt x) cs→Calls Tryz.prog 176 #[.agg cs.toArray,pc] W (Did B f m er (P x) W)):
    Calls Tryz.prog 175 #[cP B, .slice A n c, .int .i64 (least:Int), .int .i64 (most:Int), .func (.func 176) #[] #[pc]] w (Did B f m er (okLn l least most P) w):=by
  have hn:n=l.length:=by rw [hl.1,List.length_map]
  obtain ⟨lo,hlo⟩:∃lo:Int,(least:Int)=lo:=⟨_,rfl⟩
  obtain ⟨hi,hhi⟩:∃hi:Int,(most:Int)=hi:=⟨_,rfl⟩
  have hmx:n≤2 ^ 63 - 1:=by have:=hl.2.1;unfold maxLen at this;omega
  rw [hlo,hhi]
  by_cases h1:(n:Int)<lo
  · have HM:=Lib.hid (show Calls Tryz.prog 37 #[cP B, .bool false] w (Did B f m er (okLn l least most P) w) from (must_any false h).mono fun _ _ g=>g.iff ⟨fun g=>(by cases g),fun g=>absurd g.1 (by omega)⟩)
    have t1:decide ((n:Int)<lo)=true:=decide_eq_true h1
    clear h hl hcb hn hlo hhi
    go_enter Tryz.func175,Tryz.ntmps175
    go_wp2_with (go_at_call 37;(with_reducible refine HM.out.mono ?_);rintro e1 w1 ⟨rfl,HD1⟩)
    go_end0
    exact ⟨rfl,HD1⟩
  have t1:decide ((n:Int)<lo)=false:=decide_eq_false h1
  by_cases h2:hi<(n:Int)
  · have HM:=Lib.hid (show Calls Tryz.prog 37 #[cP B, .bool false] w (Did B f m er (okLn l least most P) w) from (must_any false h).mono fun _ _ g=>g.iff ⟨fun g=>(by cases g),fun g=>absurd g.2.1 (by omega)⟩)
    have t2:decide (hi<(n:Int))=true:=decide_eq_true h2
    clear h hl hcb hn hlo hhi
    go_enter Tryz.func175,Tryz.ntmps175
    go_wp2_with (go_at_call 37;(with_reducible refine HM.out.mono ?_);rintro e1 w1 ⟨rfl,HD1⟩)
    go_end0
    exact ⟨rfl,HD1⟩
  have t2:decide (hi<(n:Int))=false:=decide_eq_false h2
  have HFIN:=Lib.hid (show ∀wr,EachI B f m er w l P n wr→Did B f m er (okLn l least most P) w (.returned (.tuple #[])) wr from fun wr hI=>by
    obtain ⟨er1,hC1,hO,hq⟩:=hI
    refine ⟨rfl,er1,hC1,hO,?_⟩
    rw [hq,hn,List.take_length]
    exact ⟨fun g=>⟨g.1,by omega,by omega,g.2⟩,fun g=>⟨g.1,g.2.2.2⟩⟩)
  have HL:=Lib.hid hl
  have HCB:=Lib.hid hcb
  have HN:=Lib.hid hn
  have HST:=Lib.hid (show EachI B f m er w l P 0 w from ⟨er,h,Oth.refl _ _,⟨fun g=>⟨g,fun x hx=>by simp at hx⟩,fun g=>g.1⟩⟩)
  clear h hl hcb hn hlo hhi
  go_enter Tryz.func175,Tryz.ntmps175
  go_wp2
  go_loopw [26] (fun i wr=>∃j:Nat,j≤n∧i= .int .i64 (j:Int)∧Hid (EachI B f m er w l P j wr)) (fun i _=>n+1 - (intOf i).toNat)
  case atStart=>exact ⟨0,Nat.zero_le _,rfl,HST⟩
  case round=>
    obtain ⟨j,hj,rfl,HE⟩:=hrel
    by_cases hlt:j<n
    · obtain ⟨er1,hC1,hO,hq⟩:=HE.out
      obtain ⟨x,hx⟩:=some_at HN.out.symm hlt
      have hxm:=List.mem_of_getElem? hx
      have hlB:=hC1.lt
      have HSTEP:=Lib.hid (show ∀w2 er2,Cel w2 B tC (ckA f m er2)→Oth B wr w2→(er2=0↔er1=0∧P x)→EachI B f m er w l P (j+1) w2 from fun w2 er2 g1 g2 g3=>⟨er2,g1,hO.trans g2,by
        rw [g3,hq,List.take_add_one,hx]
        simp only [Option.toList_some,List.mem_append,List.mem_singleton]
        exact ⟨fun g=>⟨g.1.1,fun y hy=>hy.elim (g.1.2 y) (fun e=>e▸g.2)⟩,fun g=>⟨⟨g.1,fun y hy=>g.2 y (.inl hy)⟩,g.2 x (.inr rfl)⟩⟩⟩)
      obtain ⟨b1,z1,kx,ox,vkx,vnx,vsx,nsx,Ax,nx,cx,rfl,hb1,at1,in1⟩:=or_at2 (HL.out.below hO.1).2.2 hx
      obtain ⟨xe,xb⟩:=x
      have HIN:=Lib.hid (show DtIn wr (fun b=>b<B) (orDt ⟨xe,xb⟩) [.int .i64 kx, .int .i64 ox, .int .i64 vkx, .int .i64 vnx, .string vsx, .string nsx, .slice Ax nx cx, .bool xb] from or_in.2 ⟨[.int .i64 kx, .int .i64 ox, .int .i64 vkx, .int .i64 vnx, .string vsx, .string nsx, .slice Ax nx cx],rfl,in1⟩)
      have c0:wr.cell? ⟨b1,z1+j*8,none⟩=some (.int .i64 kx):=at1 0 _ rfl
      have c1:wr.cell? ⟨b1,z1+j*8+1,none⟩=some (.int .i64 ox):=at1 1 _ rfl
      have c2:wr.cell? ⟨b1,z1+j*8+2,none⟩=some (.int .i64 vkx):=at1 2 _ rfl
      have c3:wr.cell? ⟨b1,z1+j*8+3,none⟩=some (.int .i64 vnx):=at1 3 _ rfl
      have c4:wr.cell? ⟨b1,z1+j*8+4,none⟩=some (.string vsx):=at1 4 _ rfl
      have c5:wr.cell? ⟨b1,z1+j*8+5,none⟩=some (.string nsx):=at1 5 _ rfl
      have c6:wr.cell? ⟨b1,z1+j*8+6,none⟩=some (.slice Ax nx cx):=at1 6 _ rfl
      have c7:wr.cell? ⟨b1,z1+j*8+7,none⟩=some (.bool xb):=at1 7 _ rfl
      obtain ⟨W1,hW1⟩:∃W1,wr.alloc (.cells #[.int .i64 kx, .int .i64 ox, .int .i64 vkx, .int .i64 vnx, .string vsx, .string nsx, .slice Ax nx cx, .bool xb] 60)=W1:=⟨_,rfl⟩
      have hbw:Below wr.heap.size wr W1:=by rw [←hW1];exact al (Below.refl _ _) _
      have HBW:=Lib.hid hbw
      have xw:Cel W1 wr.heap.size 60 #[.int .i64 kx, .int .i64 ox, .int .i64 vkx, .int .i64 vnx, .string vsx, .string nsx, .slice Ax nx cx, .bool xb]:=by rw [←hW1];exact Cel.new _ _ _ rfl
      have v0:W1.cell? ⟨wr.heap.size,0,none⟩=some (.int .i64 kx):=xw.at_ 0
      have v1:W1.cell? ⟨wr.heap.size,1,none⟩=some (.int .i64 ox):=xw.at_ 1
      have v2:W1.cell? ⟨wr.heap.size,2,none⟩=some (.int .i64 vkx):=xw.at_ 2
      have v3:W1.cell? ⟨wr.heap.size,3,none⟩=some (.int .i64 vnx):=xw.at_ 3
      have v4:W1.cell? ⟨wr.heap.size,4,none⟩=some (.string vsx):=xw.at_ 4
      have v5:W1.cell? ⟨wr.heap.size,5,none⟩=some (.string nsx):=xw.at_ 5
      have v6:W1.cell? ⟨wr.heap.size,6,none⟩=some (.slice Ax nx cx):=xw.at_ 6
      have v7:W1.cell? ⟨wr.heap.size,7,none⟩=some (.bool xb):=xw.at_ 7
      clear hbw xw
      have HCC:=Lib.hid (show ∀W,Below wr.heap.size wr W→Calls Tryz.prog 176 #[.agg #[.int .i64 kx, .int .i64 ox, .int .i64 vkx, .int .i64 vnx, .string vsx, .string nsx, .slice Ax nx cx, .bool xb],pc] W (Did B f m er1 (P ⟨xe,xb⟩) W) from fun W hW=>HCB.out ⟨xe,xb⟩ hxm W er1 [.int .i64 kx, .int .i64 ox, .int .i64 vkx, .int .i64 vnx, .string vsx, .string nsx, .slice Ax nx cx, .bool xb] (hC1.below hW) (hO.trans (Oth.of hW (Nat.le_of_lt hlB))) (HIN.out.below (hW.mono (Nat.le_of_lt hlB))))
      have tl:decide ((j:Int)<(n:Int))=true:=decide_eq_true (by omega)
      have HLB:=Lib.hid hlB
      clear hx hxm hC1 hO hq hlB hb1 at1 in1 HE
      go_wp2_with (go_at_call 176;(with_reducible refine (HCC.out _ HBW.out).mono ?_);rintro e1 w2 ⟨rfl,er2,hC2,hO2,hq2⟩;have HR:=Lib.hid (HSTEP.out w2 er2 hC2 (Oth.trans (show Oth B wr _ from (Oth.of HBW.out (Nat.le_of_lt HLB.out))) hO2) hq2);clear hC2 hO2 hq2)
      go_roundw
      case rel=>exact ⟨j+1,by omega,by go_num,HR⟩
      case measure=>simp [intOf];omega
    · have tl:decide ((j:Int)<(n:Int))=false:=decide_eq_false (by omega)
      obtain rfl:j=n:=by omega
      have HD:=Lib.hid (HFIN.out wr HE.out)
      clear HFIN HE
      go_wp2
      go_end0
      exact HD.out
end
end Go.Proofs.YtiaomhdmllhmmaaGreatDoor.Sm
namespace Go.Proofs.YtiaomhdmllhmmaaGreatDoor.Sm
open Go.RowKit Mem Ep Right
set_option linter.unusedVariables false
def typeV (k:Int):ByteArray:=if k=1 then ⟨#[73,78,84]⟩ else if k=2 then ⟨#[66,79,79,76]⟩ else if k=3 then ⟨#[84,69,88,84]⟩ else ⟨#[]⟩
theorem type_any (k:Int) (w:World):Calls Tryz.prog 13 #[.int .i64 k] w fun e w' =>e= .returned (.string (typeV k))∧w=w' :=by
 by_cases e0:k=1
 case pos=>
   subst e0
   go_enter Tryz.func13,Tryz.ntmps13
   go_wp2
   go_ret
   exact ⟨rfl,rfl⟩
 by_cases e1:k=2
 case pos=>
   subst e1
   go_enter Tryz.func13,Tryz.ntmps13
   go_wp2
   go_ret
   exact ⟨rfl,rfl⟩
 by_cases e2:k=3
 case pos=>
   subst e2
   go_enter Tryz.func13,Tryz.ntmps13
   go_wp2
   go_ret
   exact ⟨rfl,rfl⟩
 have t0:(k==1)=false:=beq_no e0
 have t1:(k==2)=false:=beq_no e1
 have t2:(k==3)=false:=beq_no e2
 have HV:=Lib.hid (show typeV k=⟨#[]⟩ by unfold typeV;rw [if_neg e0,if_neg e1,if_neg e2])
 clear e0 e1 e2
 go_enter Tryz.func13,Tryz.ntmps13
 go_wp2
 go_ret
 exact ⟨(congrArg (fun z=>Ending.returned (.string z)) HV.out.symm),rfl⟩
def privV (k:Int):ByteArray:=if k=1 then ⟨#[83,69,76,69,67,84]⟩ else if k=2 then ⟨#[73,78,83,69,82,84]⟩ else if k=3 then ⟨#[85,80,68,65,84,69]⟩ else if k=4 then ⟨#[68,69,76,69,84,69]⟩ else ⟨#[]⟩
theorem priv_any (k:Int) (w:World):Calls Tryz.prog 15 #[.int .i64 k] w fun e w' =>e= .returned (.string (privV k))∧w=w' :=by
 by_cases e0:k=1
 case pos=>
   subst e0
   go_enter Tryz.func15,Tryz.ntmps15
   go_wp2
   go_ret
   exact ⟨rfl,rfl⟩
 by_cases e1:k=2
 case pos=>
   subst e1
   go_enter Tryz.func15,Tryz.ntmps15
   go_wp2
   go_ret
   exact ⟨rfl,rfl⟩
 by_cases e2:k=3
 case pos=>
   subst e2
   go_enter Tryz.func15,Tryz.ntmps15
   go_wp2
   go_ret
   exact ⟨rfl,rfl⟩
 by_cases e3:k=4
 case pos=>
   subst e3
   go_enter Tryz.func15,Tryz.ntmps15
   go_wp2
   go_ret
   exact ⟨rfl,rfl⟩
 have t0:(k==1)=false:=beq_no e0
 have t1:(k==2)=false:=beq_no e1
 have t2:(k==3)=false:=beq_no e2
 have t3:(k==4)=false:=beq_no e3
 have HV:=Lib.hid (show privV k=⟨#[]⟩ by unfold privV;rw [if_neg e0,if_neg e1,if_neg e2,if_neg e3])
 clear e0 e1 e2 e3
 go_enter Tryz.func15,Tryz.ntmps15
 go_wp2
 go_ret
 exact ⟨(congrArg (fun z=>Ending.returned (.string z)) HV.out.symm),rfl⟩
end Go.Proofs.YtiaomhdmllhmmaaGreatDoor.Sm
