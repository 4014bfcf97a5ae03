/- The items of a list are written: sets, orders. -/
import Derived.Test.YtiaomhdmllhmmaaGreatDoorK25
namespace Go.Proofs.YtiaomhdmllhmmaaGreatDoor.Sm
open Go.RowKit Mem Ep Right Lx Go.ChangeShapes Go.WideShapes
set_option linter.unusedVariables false
section
variable {w w' :World} {b:Nat} {l:List UInt8} {lg:Bool}
set_option maxRecDepth 100000 in
set_option maxHeartbeats 2000000 in
theorem list_se {xs:List (Bs × Ex)} {A:Option Addr} {n c:Nat} (h:Ww b l lg w) (hl:LsIn w b A n 8 (xs.map seDt)) (hlen:l.length+(tx (sep (xs.map setP))).length≤1000000000) (hcb:∀x∈xs,∀(W:World) (l1:List UInt8) (lg1:Bool) (cs:List Value),Ww b l1 lg1 W→Wr b w W→DtIn W (fun c=>c<b) (seDt x) cs→l1.length+(tx (setP x)).length≤1000000000→Calls Tryz.prog 79 #[.pointer (some ⟨b,0,none⟩), .agg cs.toArray] W (WDid b l1 lg1 (tx (setP x)) W)):
    Calls Tryz.prog 78 #[.pointer (some ⟨b,0,none⟩), .slice A n c, .func (.func 79) #[.pointer (some ⟨b,0,none⟩)] #[]] w (WDid b l lg (tx (sep (xs.map setP))) w):=by
  have hn:n=xs.length:=by rw [hl.1,List.length_map]
  have hmx:n≤2 ^ 63 - 1:=by have:=hl.2.1;unfold maxLen at this;omega
  have HFIN:=Lib.hid (show ∀wr,ListI b l lg w (tx (sep ((xs.take n).map setP))) wr→WDid b l lg (tx (sep (xs.map setP))) w (.returned (.tuple #[])) wr from fun wr hI=>by
    rw [hn,List.take_length] at hI
    obtain ⟨l1,lg1,g1,g2,g3⟩:=hI
    exact ⟨rfl,l1,lg1,g1,g2,g3⟩)
  have HL:=Lib.hid hl
  have HCB:=Lib.hid hcb
  have HN:=Lib.hid hn
  have HLEN:=Lib.hid hlen
  have HST:=Lib.hid (show ListI b l lg w (tx (sep ((xs.take 0).map setP))) w from ⟨l,lg,h,Wr.refl _ _, .inl ⟨rfl,(List.append_nil _).symm⟩⟩)
  clear h hl hcb hn hlen
  go_enter Tryz.func78,Tryz.ntmps78
  go_wp2
  go_loopw [10] (fun i wr=>∃j:Nat,j≤n∧i= .int .i64 (j:Int)∧Hid (ListI b l lg w (tx (sep ((xs.take j).map setP))) wr)) (fun i _=>n+1 - (intOf i).toNat)
  case atStart=>exact ⟨0,Nat.zero_le _,rfl,HST⟩
  case round=>
    obtain ⟨j,hj,rfl,HE⟩:=hrel
    by_cases hlt:j<n
    · obtain ⟨l1,lg1,hw,hr,ht⟩:=HE.out
      obtain ⟨x,hx⟩:=some_at HN.out.symm hlt
      have hxm:=List.mem_of_getElem? hx
      have hlb:=hw.lt
      have tl:decide ((j:Int)<(n:Int))=true:=decide_eq_true (by omega)
      have hT:=tsep_le (l:=xs) (P:=setP) (j:=j+1)
      have hLE:=HLEN.out
      have hl1:=ht.len
      by_cases hj0:j=0
      · subst hj0
        have hTZ:=tsep_zero (P:=setP) hx
        rw [hTZ] at hT
        have HSTEP:=Lib.hid (show ∀W2 l2 lg2,Ww b l2 lg2 W2→Wr b wr W2→Wt lg1 l1 (tx (setP x)) lg2 l2→ListI b l lg w (tx (sep ((xs.take (0+1)).map setP))) W2 from fun W2 l2 lg2 g1 g2 g3=>⟨l2,lg2,g1,hr.trans g2,by
          have:=ht.trans g3
          rw [show tx (sep ((xs.take (0+1)).map setP))=tx (setP x) from hTZ]
          exact this⟩)
        have hlen1:l1.length+(tx (setP x)).length≤1000000000:=by
          have:(tx (sep ((xs.take 0).map setP))).length=0:=rfl
          omega
        obtain ⟨b1,z1,kx,ox,vkx,vnx,vsx,nsx,Ax,nx,cx,rfl,hb1,at1,in1⟩:=se_at2 (HL.out.below hr.1).2.2 hx
        obtain ⟨xn,xe⟩:=x
        have HIN:=Lib.hid (show DtIn wr (fun c=>c<b) (seDt ⟨xn,xe⟩) [.string (txt xn), .int .i64 kx, .int .i64 ox, .int .i64 vkx, .int .i64 vnx, .string vsx, .string nsx, .slice Ax nx cx] from se_in.2 ⟨[.int .i64 kx, .int .i64 ox, .int .i64 vkx, .int .i64 vnx, .string vsx, .string nsx, .slice Ax nx cx],rfl,in1⟩)
        have c0:wr.cell? ⟨b1,z1,none⟩=some (.string (txt xn)):=by have c:=at1 0 _ (show _=some (.string (txt xn)) from rfl);simpa using c
        have c1:wr.cell? ⟨b1,z1+1,none⟩=some (.int .i64 kx):=by have c:=at1 1 _ (show _=some (.int .i64 kx) from rfl);simpa using c
        have c2:wr.cell? ⟨b1,z1+2,none⟩=some (.int .i64 ox):=by have c:=at1 2 _ (show _=some (.int .i64 ox) from rfl);simpa using c
        have c3:wr.cell? ⟨b1,z1+3,none⟩=some (.int .i64 vkx):=by have c:=at1 3 _ (show _=some (.int .i64 vkx) from rfl);simpa using c
        have c4:wr.cell? ⟨b1,z1+4,none⟩=some (.int .i64 vnx):=by have c:=at1 4 _ (show _=some (.int .i64 vnx) from rfl);simpa using c
        have c5:wr.cell? ⟨b1,z1+5,none⟩=some (.string vsx):=by have c:=at1 5 _ (show _=some (.string vsx) from rfl);simpa using c
        have c6:wr.cell? ⟨b1,z1+6,none⟩=some (.string nsx):=by have c:=at1 6 _ (show _=some (.string nsx) from rfl);simpa using c
        have c7:wr.cell? ⟨b1,z1+7,none⟩=some (.slice Ax nx cx):=by have c:=at1 7 _ (show _=some (.slice Ax nx cx) from rfl);simpa using c
        obtain ⟨W1,hW1⟩:∃W1,wr.alloc (.cells #[.string (txt xn), .int .i64 kx, .int .i64 ox, .int .i64 vkx, .int .i64 vnx, .string vsx, .string nsx, .slice Ax nx cx] 58)=W1:=⟨_,rfl⟩
        have hbw:Below wr.heap.size wr W1:=by rw [←hW1];exact al (Below.refl _ _) _
        have xw:Cel W1 wr.heap.size 58 #[.string (txt xn), .int .i64 kx, .int .i64 ox, .int .i64 vkx, .int .i64 vnx, .string vsx, .string nsx, .slice Ax nx cx]:=by rw [←hW1];exact Cel.new _ _ _ rfl
        have v0:W1.cell? ⟨wr.heap.size,0,none⟩=some (.string (txt xn)):=xw.at_ 0
        have v1:W1.cell? ⟨wr.heap.size,1,none⟩=some (.int .i64 kx):=xw.at_ 1
        have v2:W1.cell? ⟨wr.heap.size,2,none⟩=some (.int .i64 ox):=xw.at_ 2
        have v3:W1.cell? ⟨wr.heap.size,3,none⟩=some (.int .i64 vkx):=xw.at_ 3
        have v4:W1.cell? ⟨wr.heap.size,4,none⟩=some (.int .i64 vnx):=xw.at_ 4
        have v5:W1.cell? ⟨wr.heap.size,5,none⟩=some (.string vsx):=xw.at_ 5
        have v6:W1.cell? ⟨wr.heap.size,6,none⟩=some (.string nsx):=xw.at_ 6
        have v7:W1.cell? ⟨wr.heap.size,7,none⟩=some (.slice Ax nx cx):=xw.at_ 7
        have hw1:Ww b l1 lg1 W1:=hw.below hbw
        have hr1:Wr b wr W1:=Wr.of hbw (Nat.le_of_lt hlb)
        have HCC:=Lib.hid (show Calls Tryz.prog 79 #[.pointer (some ⟨b,0,none⟩), .agg #[.string (txt xn), .int .i64 kx, .int .i64 ox, .int .i64 vkx, .int .i64 vnx, .string vsx, .string nsx, .slice Ax nx cx]] W1 (WDid b l1 lg1 (tx (setP ⟨xn,xe⟩)) W1) from HCB.out ⟨xn,xe⟩ hxm W1 l1 lg1 [.string (txt xn), .int .i64 kx, .int .i64 ox, .int .i64 vkx, .int .i64 vnx, .string vsx, .string nsx, .slice Ax nx cx] hw1 (hr.trans hr1) (HIN.out.below hr1.1) hlen1)
        have HR1:=Lib.hid hr1
        clear hx hxm hw hr ht hlb hT hLE hl1 hTZ hlen1 hb1 hbw hw1 hr1 at1 in1 xw HE
        go_wp2_with (go_at_call 79;(with_reducible refine HCC.out.mono ?_);rintro e1 w2 ⟨rfl,l2,lg2,g1,g2,g3⟩;have HR:=Lib.hid (HSTEP.out w2 l2 lg2 g1 (HR1.out.trans g2) g3);clear g1 g2 g3)
        go_roundw
        case rel=>exact ⟨0+1,by omega,by first|rfl|go_num,HR⟩
        case measure=>(simp [intOf];try omega)
      · have hjp:0<j:=by omega
        have hTZ:=tsep_on (P:=setP) hx hjp
        rw [hTZ,List.length_append,List.length_append] at hT
        have h2:([44,32]:List UInt8).length=2:=rfl
        have t0:decide ((0:Int)<(j:Int))=true:=decide_eq_true (by omega)
        have t00:decide (0<j)=true:=decide_eq_true hjp
        have HSTEP:=Lib.hid (show ∀W2 l2 lg2,Ww b l2 lg2 W2→Wr b wr W2→Wt lg1 l1 ([44,32]++tx (setP x)) lg2 l2→ListI b l lg w (tx (sep ((xs.take (j+1)).map setP))) W2 from fun W2 l2 lg2 g1 g2 g3=>⟨l2,lg2,g1,hr.trans g2,by rw [hTZ];exact ht.trans g3⟩)
        have hlen1:l1.length+(2+(tx (setP x)).length)≤1000000000:=by omega
        obtain ⟨b1,z1,kx,ox,vkx,vnx,vsx,nsx,Ax,nx,cx,rfl,hb1,at1,in1⟩:=se_at2 (HL.out.below hr.1).2.2 hx
        obtain ⟨xn,xe⟩:=x
        have HIN:=Lib.hid (show DtIn wr (fun c=>c<b) (seDt ⟨xn,xe⟩) [.string (txt xn), .int .i64 kx, .int .i64 ox, .int .i64 vkx, .int .i64 vnx, .string vsx, .string nsx, .slice Ax nx cx] from se_in.2 ⟨[.int .i64 kx, .int .i64 ox, .int .i64 vkx, .int .i64 vnx, .string vsx, .string nsx, .slice Ax nx cx],rfl,in1⟩)
        have c0:wr.cell? ⟨b1,z1+j*8,none⟩=some (.string (txt xn)):=at1 0 _ rfl
        have c1:wr.cell? ⟨b1,z1+j*8+1,none⟩=some (.int .i64 kx):=at1 1 _ rfl
        have c2:wr.cell? ⟨b1,z1+j*8+2,none⟩=some (.int .i64 ox):=at1 2 _ rfl
        have c3:wr.cell? ⟨b1,z1+j*8+3,none⟩=some (.int .i64 vkx):=at1 3 _ rfl
        have c4:wr.cell? ⟨b1,z1+j*8+4,none⟩=some (.int .i64 vnx):=at1 4 _ rfl
        have c5:wr.cell? ⟨b1,z1+j*8+5,none⟩=some (.string vsx):=at1 5 _ rfl
        have c6:wr.cell? ⟨b1,z1+j*8+6,none⟩=some (.string nsx):=at1 6 _ rfl
        have c7:wr.cell? ⟨b1,z1+j*8+7,none⟩=some (.slice Ax nx cx):=at1 7 _ rfl
        obtain ⟨W1,hW1⟩:∃W1,wr.alloc (.cells #[.string (txt xn), .int .i64 kx, .int .i64 ox, .int .i64 vkx, .int .i64 vnx, .string vsx, .string nsx, .slice Ax nx cx] 58)=W1:=⟨_,rfl⟩
        have hbw:Below wr.heap.size wr W1:=by rw [←hW1];exact al (Below.refl _ _) _
        have xw:Cel W1 wr.heap.size 58 #[.string (txt xn), .int .i64 kx, .int .i64 ox, .int .i64 vkx, .int .i64 vnx, .string vsx, .string nsx, .slice Ax nx cx]:=by rw [←hW1];exact Cel.new _ _ _ rfl
        have v0:W1.cell? ⟨wr.heap.size,0,none⟩=some (.string (txt xn)):=xw.at_ 0
        have v1:W1.cell? ⟨wr.heap.size,1,none⟩=some (.int .i64 kx):=xw.at_ 1
        have v2:W1.cell? ⟨wr.heap.size,2,none⟩=some (.int .i64 ox):=xw.at_ 2
        have v3:W1.cell? ⟨wr.heap.size,3,none⟩=some (.int .i64 vkx):=xw.at_ 3
        have v4:W1.cell? ⟨wr.heap.size,4,none⟩=some (.int .i64 vnx):=xw.at_ 4
        have v5:W1.cell? ⟨wr.heap.size,5,none⟩=some (.string vsx):=xw.at_ 5
        have v6:W1.cell? ⟨wr.heap.size,6,none⟩=some (.string nsx):=xw.at_ 6
        have v7:W1.cell? ⟨wr.heap.size,7,none⟩=some (.slice Ax nx cx):=xw.at_ 7
        have hw1:Ww b l1 lg1 W1:=hw.below hbw
        have hr1:Wr b wr W1:=Wr.of hbw (Nat.le_of_lt hlb)
        have HSAY:=Lib.hid (show Calls Tryz.prog 73 #[.pointer (some ⟨b,0,none⟩), .slice (some ⟨W1.heap.size,0,none⟩) 1 1] (W1.alloc (.cells #[.string ⟨#[44,32]⟩] tS)) (WDid b l1 lg1 [44,32] W1) from saying [[44,32]] hw1 (by simp) (by simp;omega))
        have HNEXT:=Lib.hid (show ∀w1 l2 lg2,Ww b l2 lg2 w1→Wr b W1 w1→Wt lg1 l1 [44,32] lg2 l2→Cel w1 wr.heap.size 58 #[.string (txt xn), .int .i64 kx, .int .i64 ox, .int .i64 vkx, .int .i64 vnx, .string vsx, .string nsx, .slice Ax nx cx]∧Calls Tryz.prog 79 #[.pointer (some ⟨b,0,none⟩), .agg #[.string (txt xn), .int .i64 kx, .int .i64 ox, .int .i64 vkx, .int .i64 vnx, .string vsx, .string nsx, .slice Ax nx cx]] w1 (WDid b l2 lg2 (tx (setP ⟨xn,xe⟩)) w1)∧Wr b wr w1 from fun w1 l2 lg2 g1 g2 g3=>by
          have hr2:=hr1.trans g2
          have hl2:=g3.len
          rw [h2] at hl2
          exact ⟨g2.cel (by omega) (by decide) xw,HCB.out ⟨xn,xe⟩ hxm w1 l2 lg2 [.string (txt xn), .int .i64 kx, .int .i64 ox, .int .i64 vkx, .int .i64 vnx, .string vsx, .string nsx, .slice Ax nx cx] g1 (hr.trans hr2) (HIN.out.below hr2.1) (by omega),hr2⟩)
        clear hx hxm hw hr ht hlb hT hLE hl1 hTZ hlen1 hb1 hbw hw1 hr1 at1 in1 xw HE h2
        go_wp2_with (first|(go_at_call 73;(with_reducible refine HSAY.out.mono ?_);rintro e1 w1 ⟨rfl,l2,lg2,g1,g2,g3⟩;obtain ⟨y1,y2,y3⟩:=HNEXT.out w1 l2 lg2 g1 g2 g3;have hx1:=Lib.hid y1;have HCC:=Lib.hid y2;have HR2:=Lib.hid y3;have HT2:=Lib.hid g3;have u0:w1.cell? ⟨wr.heap.size,0,none⟩=some (.string (txt xn)):=hx1.out.at_ 0;have u1:w1.cell? ⟨wr.heap.size,1,none⟩=some (.int .i64 kx):=hx1.out.at_ 1;have u2:w1.cell? ⟨wr.heap.size,2,none⟩=some (.int .i64 ox):=hx1.out.at_ 2;have u3:w1.cell? ⟨wr.heap.size,3,none⟩=some (.int .i64 vkx):=hx1.out.at_ 3;have u4:w1.cell? ⟨wr.heap.size,4,none⟩=some (.int .i64 vnx):=hx1.out.at_ 4;have u5:w1.cell? ⟨wr.heap.size,5,none⟩=some (.string vsx):=hx1.out.at_ 5;have u6:w1.cell? ⟨wr.heap.size,6,none⟩=some (.string nsx):=hx1.out.at_ 6;have u7:w1.cell? ⟨wr.heap.size,7,none⟩=some (.slice Ax nx cx):=hx1.out.at_ 7;clear g1 g2 g3 y1 y2 y3)|(go_at_call 79;(with_reducible refine HCC.out.mono ?_);rintro e1 w2 ⟨rfl,l3,lg3,g1,g2,g3⟩;have HR:=Lib.hid (HSTEP.out w2 l3 lg3 g1 (HR2.out.trans g2) (HT2.out.trans g3));clear g1 g2 g3))
        go_roundw
        case rel=>exact ⟨j+1,by omega,by go_num,HR⟩
        case measure=>simp [intOf];omega
    · have tl:decide ((j:Int)<(n:Int))=false:=decide_eq_false (by omega)
      obtain rfl:j=n:=by omega
      have HD:=Lib.hid (HFIN.out wr HE.out)
      clear HFIN HE
      go_wp2
      go_end0
      exact HD.out
set_option maxRecDepth 100000 in
set_option maxHeartbeats 2000000 in
theorem list_or {xs:List (Ex × Bool)} {A:Option Addr} {n c:Nat} (h:Ww b l lg w) (hl:LsIn w b A n 8 (xs.map orDt)) (hlen:l.length+(tx (sep (xs.map ordP))).length≤1000000000) (hcb:∀x∈xs,∀(W:World) (l1:List UInt8) (lg1:Bool) (cs:List Value),Ww b l1 lg1 W→Wr b w W→DtIn W (fun c=>c<b) (orDt x) cs→l1.length+(tx (ordP x)).length≤1000000000→Calls Tryz.prog 135 #[.pointer (some ⟨b,0,none⟩), .agg cs.toArray] W (WDid b l1 lg1 (tx (ordP x)) W)):
    Calls Tryz.prog 134 #[.pointer (some ⟨b,0,none⟩), .slice A n c, .func (.func 135) #[.pointer (some ⟨b,0,none⟩)] #[]] w (WDid b l lg (tx (sep (xs.map ordP))) w):=by
  have hn:n=xs.length:=by rw [hl.1,List.length_map]
  have hmx:n≤2 ^ 63 - 1:=by have:=hl.2.1;unfold maxLen at this;omega
  have HFIN:=Lib.hid (show ∀wr,ListI b l lg w (tx (sep ((xs.take n).map ordP))) wr→WDid b l lg (tx (sep (xs.map ordP))) w (.returned (.tuple #[])) wr from fun wr hI=>by
    rw [hn,List.take_length] at hI
    obtain ⟨l1,lg1,g1,g2,g3⟩:=hI
    exact ⟨rfl,l1,lg1,g1,g2,g3⟩)
  have HL:=Lib.hid hl
  have HCB:=Lib.hid hcb
  have HN:=Lib.hid hn
  have HLEN:=Lib.hid hlen
  have HST:=Lib.hid (show ListI b l lg w (tx (sep ((xs.take 0).map ordP))) w from ⟨l,lg,h,Wr.refl _ _, .inl ⟨rfl,(List.append_nil _).symm⟩⟩)
  clear h hl hcb hn hlen
  go_enter Tryz.func134,Tryz.ntmps134
  go_wp2
  go_loopw [10] (fun i wr=>∃j:Nat,j≤n∧i= .int .i64 (j:Int)∧Hid (ListI b l lg w (tx (sep ((xs.take j).map ordP))) wr)) (fun i _=>n+1 - (intOf i).toNat)
  case atStart=>exact ⟨0,Nat.zero_le _,rfl,HST⟩
  case round=>
    obtain ⟨j,hj,rfl,HE⟩:=hrel
    by_cases hlt:j<n
    · obtain ⟨l1,lg1,hw,hr,ht⟩:=HE.out
      obtain ⟨x,hx⟩:=some_at HN.out.symm hlt
      have hxm:=List.mem_of_getElem? hx
      have hlb:=hw.lt
      have tl:decide ((j:Int)<(n:Int))=true:=decide_eq_true (by omega)
      have hT:=tsep_le (l:=xs) (P:=ordP) (j:=j+1)
      have hLE:=HLEN.out
      have hl1:=ht.len
      by_cases hj0:j=0
      · subst hj0
        have hTZ:=tsep_zero (P:=ordP) hx
        rw [hTZ] at hT
        have HSTEP:=Lib.hid (show ∀W2 l2 lg2,Ww b l2 lg2 W2→Wr b wr W2→Wt lg1 l1 (tx (ordP x)) lg2 l2→ListI b l lg w (tx (sep ((xs.take (0+1)).map ordP))) W2 from fun W2 l2 lg2 g1 g2 g3=>⟨l2,lg2,g1,hr.trans g2,by
          have:=ht.trans g3
          rw [show tx (sep ((xs.take (0+1)).map ordP))=tx (ordP x) from hTZ]
          exact this⟩)
        have hlen1:l1.length+(tx (ordP x)).length≤1000000000:=by
          have:(tx (sep ((xs.take 0).map ordP))).length=0:=rfl
          omega
        obtain ⟨b1,z1,kx,ox,vkx,vnx,vsx,nsx,Ax,nx,cx,rfl,hb1,at1,in1⟩:=or_at2 (HL.out.below hr.1).2.2 hx
        obtain ⟨xe,xb⟩:=x
        have HIN:=Lib.hid (show DtIn wr (fun c=>c<b) (orDt ⟨xe,xb⟩) [.int .i64 kx, .int .i64 ox, .int .i64 vkx, .int .i64 vnx, .string vsx, .string nsx, .slice Ax nx cx, .bool xb] from or_in.2 ⟨[.int .i64 kx, .int .i64 ox, .int .i64 vkx, .int .i64 vnx, .string vsx, .string nsx, .slice Ax nx cx],rfl,in1⟩)
        have c0:wr.cell? ⟨b1,z1,none⟩=some (.int .i64 kx):=by have c:=at1 0 _ (show _=some (.int .i64 kx) from rfl);simpa using c
        have c1:wr.cell? ⟨b1,z1+1,none⟩=some (.int .i64 ox):=by have c:=at1 1 _ (show _=some (.int .i64 ox) from rfl);simpa using c
        have c2:wr.cell? ⟨b1,z1+2,none⟩=some (.int .i64 vkx):=by have c:=at1 2 _ (show _=some (.int .i64 vkx) from rfl);simpa using c
        have c3:wr.cell? ⟨b1,z1+3,none⟩=some (.int .i64 vnx):=by have c:=at1 3 _ (show _=some (.int .i64 vnx) from rfl);simpa using c
        have c4:wr.cell? ⟨b1,z1+4,none⟩=some (.string vsx):=by have c:=at1 4 _ (show _=some (.string vsx) from rfl);simpa using c
        have c5:wr.cell? ⟨b1,z1+5,none⟩=some (.string nsx):=by have c:=at1 5 _ (show _=some (.string nsx) from rfl);simpa using c
        have c6:wr.cell? ⟨b1,z1+6,none⟩=some (.slice Ax nx cx):=by have c:=at1 6 _ (show _=some (.slice Ax nx cx) from rfl);simpa using c
        have c7:wr.cell? ⟨b1,z1+7,none⟩=some (.bool xb):=by have c:=at1 7 _ (show _=some (.bool xb) from rfl);simpa using c
        obtain ⟨W1,hW1⟩:∃W1,wr.alloc (.cells #[.int .i64 kx, .int .i64 ox, .int .i64 vkx, .int .i64 vnx, .string vsx, .string nsx, .slice Ax nx cx, .bool xb] 60)=W1:=⟨_,rfl⟩
        have hbw:Below wr.heap.size wr W1:=by rw [←hW1];exact al (Below.refl _ _) _
        have xw:Cel W1 wr.heap.size 60 #[.int .i64 kx, .int .i64 ox, .int .i64 vkx, .int .i64 vnx, .string vsx, .string nsx, .slice Ax nx cx, .bool xb]:=by rw [←hW1];exact Cel.new _ _ _ rfl
        have v0:W1.cell? ⟨wr.heap.size,0,none⟩=some (.int .i64 kx):=xw.at_ 0
        have v1:W1.cell? ⟨wr.heap.size,1,none⟩=some (.int .i64 ox):=xw.at_ 1
        have v2:W1.cell? ⟨wr.heap.size,2,none⟩=some (.int .i64 vkx):=xw.at_ 2
        have v3:W1.cell? ⟨wr.heap.size,3,none⟩=some (.int .i64 vnx):=xw.at_ 3
        have v4:W1.cell? ⟨wr.heap.size,4,none⟩=some (.string vsx):=xw.at_ 4
        have v5:W1.cell? ⟨wr.heap.size,5,none⟩=some (.string nsx):=xw.at_ 5
        have v6:W1.cell? ⟨wr.heap.size,6,none⟩=some (.slice Ax nx cx):=xw.at_ 6
        have v7:W1.cell? ⟨wr.heap.size,7,none⟩=some (.bool xb):=xw.at_ 7
        have hw1:Ww b l1 lg1 W1:=hw.below hbw
        have hr1:Wr b wr W1:=Wr.of hbw (Nat.le_of_lt hlb)
        have HCC:=Lib.hid (show Calls Tryz.prog 135 #[.pointer (some ⟨b,0,none⟩), .agg #[.int .i64 kx, .int .i64 ox, .int .i64 vkx, .int .i64 vnx, .string vsx, .string nsx, .slice Ax nx cx, .bool xb]] W1 (WDid b l1 lg1 (tx (ordP ⟨xe,xb⟩)) W1) from HCB.out ⟨xe,xb⟩ hxm W1 l1 lg1 [.int .i64 kx, .int .i64 ox, .int .i64 vkx, .int .i64 vnx, .string vsx, .string nsx, .slice Ax nx cx, .bool xb] hw1 (hr.trans hr1) (HIN.out.below hr1.1) hlen1)
        have HR1:=Lib.hid hr1
        clear hx hxm hw hr ht hlb hT hLE hl1 hTZ hlen1 hb1 hbw hw1 hr1 at1 in1 xw HE
        go_wp2_with (go_at_call 135;(with_reducible refine HCC.out.mono ?_);rintro e1 w2 ⟨rfl,l2,lg2,g1,g2,g3⟩;have HR:=Lib.hid (HSTEP.out w2 l2 lg2 g1 (HR1.out.trans g2) g3);clear g1 g2 g3)
        go_roundw
        case rel=>exact ⟨0+1,by omega,by first|rfl|go_num,HR⟩
        case measure=>(simp [intOf];try omega)
      · have hjp:0<j:=by omega
        have hTZ:=tsep_on (P:=ordP) hx hjp
        rw [hTZ,List.length_append,List.length_append] at hT
        have h2:([44,32]:List UInt8).length=2:=rfl
        have t0:decide ((0:Int)<(j:Int))=true:=decide_eq_true (by omega)
        have t00:decide (0<j)=true:=decide_eq_true hjp
        have HSTEP:=Lib.hid (show ∀W2 l2 lg2,Ww b l2 lg2 W2→Wr b wr W2→Wt lg1 l1 ([44,32]++tx (ordP x)) lg2 l2→ListI b l lg w (tx (sep ((xs.take (j+1)).map ordP))) W2 from fun W2 l2 lg2 g1 g2 g3=>⟨l2,lg2,g1,hr.trans g2,by rw [hTZ];exact ht.trans g3⟩)
        have hlen1:l1.length+(2+(tx (ordP x)).length)≤1000000000:=by omega
        obtain ⟨b1,z1,kx,ox,vkx,vnx,vsx,nsx,Ax,nx,cx,rfl,hb1,at1,in1⟩:=or_at2 (HL.out.below hr.1).2.2 hx
        obtain ⟨xe,xb⟩:=x
        have HIN:=Lib.hid (show DtIn wr (fun c=>c<b) (orDt ⟨xe,xb⟩) [.int .i64 kx, .int .i64 ox, .int .i64 vkx, .int .i64 vnx, .string vsx, .string nsx, .slice Ax nx cx, .bool xb] from or_in.2 ⟨[.int .i64 kx, .int .i64 ox, .int .i64 vkx, .int .i64 vnx, .string vsx, .string nsx, .slice Ax nx cx],rfl,in1⟩)
        have c0:wr.cell? ⟨b1,z1+j*8,none⟩=some (.int .i64 kx):=at1 0 _ rfl
        have c1:wr.cell? ⟨b1,z1+j*8+1,none⟩=some (.int .i64 ox):=at1 1 _ rfl
        have c2:wr.cell? ⟨b1,z1+j*8+2,none⟩=some (.int .i64 vkx):=at1 2 _ rfl
        have c3:wr.cell? ⟨b1,z1+j*8+3,none⟩=some (.int .i64 vnx):=at1 3 _ rfl
        have c4:wr.cell? ⟨b1,z1+j*8+4,none⟩=some (.string vsx):=at1 4 _ rfl
        have c5:wr.cell? ⟨b1,z1+j*8+5,none⟩=some (.string nsx):=at1 5 _ rfl
        have c6:wr.cell? ⟨b1,z1+j*8+6,none⟩=some (.slice Ax nx cx):=at1 6 _ rfl
        have c7:wr.cell? ⟨b1,z1+j*8+7,none⟩=some (.bool xb):=at1 7 _ rfl
        obtain ⟨W1,hW1⟩:∃W1,wr.alloc (.cells #[.int .i64 kx, .int .i64 ox, .int .i64 vkx, .int .i64 vnx, .string vsx, .string nsx, .slice Ax nx cx, .bool xb] 60)=W1:=⟨_,rfl⟩
        have hbw:Below wr.heap.size wr W1:=by rw [←hW1];exact al (Below.refl _ _) _
        have xw:Cel W1 wr.heap.size 60 #[.int .i64 kx, .int .i64 ox, .int .i64 vkx, .int .i64 vnx, .string vsx, .string nsx, .slice Ax nx cx, .bool xb]:=by rw [←hW1];exact Cel.new _ _ _ rfl
        have v0:W1.cell? ⟨wr.heap.size,0,none⟩=some (.int .i64 kx):=xw.at_ 0
        have v1:W1.cell? ⟨wr.heap.size,1,none⟩=some (.int .i64 ox):=xw.at_ 1
        have v2:W1.cell? ⟨wr.heap.size,2,none⟩=some (.int .i64 vkx):=xw.at_ 2
        have v3:W1.cell? ⟨wr.heap.size,3,none⟩=some (.int .i64 vnx):=xw.at_ 3
        have v4:W1.cell? ⟨wr.heap.size,4,none⟩=some (.string vsx):=xw.at_ 4
        have v5:W1.cell? ⟨wr.heap.size,5,none⟩=some (.string nsx):=xw.at_ 5
        have v6:W1.cell? ⟨wr.heap.size,6,none⟩=some (.slice Ax nx cx):=xw.at_ 6
        have v7:W1.cell? ⟨wr.heap.size,7,none⟩=some (.bool xb):=xw.at_ 7
        have hw1:Ww b l1 lg1 W1:=hw.below hbw
        have hr1:Wr b wr W1:=Wr.of hbw (Nat.le_of_lt hlb)
        have HSAY:=Lib.hid (show Calls Tryz.prog 73 #[.pointer (some ⟨b,0,none⟩), .slice (some ⟨W1.heap.size,0,none⟩) 1 1] (W1.alloc (.cells #[.string ⟨#[44,32]⟩] tS)) (WDid b l1 lg1 [44,32] W1) from saying [[44,32]] hw1 (by simp) (by simp;omega))
        have HNEXT:=Lib.hid (show ∀w1 l2 lg2,Ww b l2 lg2 w1→Wr b W1 w1→Wt lg1 l1 [44,32] lg2 l2→Cel w1 wr.heap.size 60 #[.int .i64 kx, .int .i64 ox, .int .i64 vkx, .int .i64 vnx, .string vsx, .string nsx, .slice Ax nx cx, .bool xb]∧Calls Tryz.prog 135 #[.pointer (some ⟨b,0,none⟩), .agg #[.int .i64 kx, .int .i64 ox, .int .i64 vkx, .int .i64 vnx, .string vsx, .string nsx, .slice Ax nx cx, .bool xb]] w1 (WDid b l2 lg2 (tx (ordP ⟨xe,xb⟩)) w1)∧Wr b wr w1 from fun w1 l2 lg2 g1 g2 g3=>by
          have hr2:=hr1.trans g2
          have hl2:=g3.len
          rw [h2] at hl2
          exact ⟨g2.cel (by omega) (by decide) xw,HCB.out ⟨xe,xb⟩ hxm w1 l2 lg2 [.int .i64 kx, .int .i64 ox, .int .i64 vkx, .int .i64 vnx, .string vsx, .string nsx, .slice Ax nx cx, .bool xb] g1 (hr.trans hr2) (HIN.out.below hr2.1) (by omega),hr2⟩)
        clear hx hxm hw hr ht hlb hT hLE hl1 hTZ hlen1 hb1 hbw hw1 hr1 at1 in1 xw HE h2
        go_wp2_with (first|(go_at_call 73;(with_reducible refine HSAY.out.mono ?_);rintro e1 w1 ⟨rfl,l2,lg2,g1,g2,g3⟩;obtain ⟨y1,y2,y3⟩:=HNEXT.out w1 l2 lg2 g1 g2 g3;have hx1:=Lib.hid y1;have HCC:=Lib.hid y2;have HR2:=Lib.hid y3;have HT2:=Lib.hid g3;have u0:w1.cell? ⟨wr.heap.size,0,none⟩=some (.int .i64 kx):=hx1.out.at_ 0;have u1:w1.cell? ⟨wr.heap.size,1,none⟩=some (.int .i64 ox):=hx1.out.at_ 1;have u2:w1.cell? ⟨wr.heap.size,2,none⟩=some (.int .i64 vkx):=hx1.out.at_ 2;have u3:w1.cell? ⟨wr.heap.size,3,none⟩=some (.int .i64 vnx):=hx1.out.at_ 3;have u4:w1.cell? ⟨wr.heap.size,4,none⟩=some (.string vsx):=hx1.out.at_ 4;have u5:w1.cell? ⟨wr.heap.size,5,none⟩=some (.string nsx):=hx1.out.at_ 5;have u6:w1.cell? ⟨wr.heap.size,6,none⟩=some (.slice Ax nx cx):=hx1.out.at_ 6;have u7:w1.cell? ⟨wr.heap.size,7,none⟩=some (.bool xb):=hx1.out.at_ 7;clear g1 g2 g3 y1 y2 y3)|(go_at_call 135;(with_reducible refine HCC.out.mono ?_);rintro e1 w2 ⟨rfl,l3,lg3,g1,g2,g3⟩;have HR:=Lib.hid (HSTEP.out w2 l3 lg3 g1 (HR2.out.trans g2) (HT2.out.trans g3));clear g1 g2 g3))
        go_roundw
        case rel=>exact ⟨j+1,by omega,by go_num,HR⟩
        case measure=>simp [intOf];omega
    · have tl:decide ((j:Int)<(n:Int))=false:=decide_eq_false (by omega)
      obtain rfl:j=n:=by omega
      have HD:=Lib.hid (HFIN.out wr HE.out)
      clear HFIN HE
      go_wp2
      go_end0
      exact HD.out
end
end Go.Proofs.YtiaomhdmllhmmaaGreatDoor.Sm
