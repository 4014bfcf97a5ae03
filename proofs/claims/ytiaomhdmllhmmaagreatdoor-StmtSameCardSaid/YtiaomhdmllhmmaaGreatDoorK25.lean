/- The items of a list are written: columns, rows, expressions. -/
import Derived.Test.YtiaomhdmllhmmaaGreatDoorK24
namespace Go.Proofs.YtiaomhdmllhmmaaGreatDoor.Sm
open Go.RowKit Mem Ep Right Lx Go.ChangeShapes Go.WideShapes
set_option linter.unusedVariables false
def rowP (x:List Ex):List Pc:=brk (exsP x)
def ListI (b:Nat) (l:List UInt8) (lg:Bool) (w:World) (T:List UInt8) (wr:World):Prop:=∃l' lg',Ww b l' lg' wr∧Wr b w wr∧Wt lg l T lg' l'
section
variable {w w' :World} {b:Nat} {l:List UInt8} {lg:Bool}
set_option maxRecDepth 100000 in
set_option maxHeartbeats 2000000 in
theorem list_co {xs:List (Co)} {A:Option Addr} {n c:Nat} (h:Ww b l lg w) (hl:LsIn w b A n 3 (xs.map coDt)) (hlen:l.length+(tx (sep (xs.map coP))).length≤1000000000) (hcb:∀x∈xs,∀(W:World) (l1:List UInt8) (lg1:Bool) (cs:List Value),Ww b l1 lg1 W→Wr b w W→DtIn W (fun c=>c<b) (coDt x) cs→l1.length+(tx (coP x)).length≤1000000000→Calls Tryz.prog 74 #[.pointer (some ⟨b,0,none⟩), .agg cs.toArray] W (WDid b l1 lg1 (tx (coP x)) W)):
    Calls Tryz.prog 128 #[.pointer (some ⟨b,0,none⟩), .slice A n c, .func (.func 74) #[.pointer (some ⟨b,0,none⟩)] #[]] w (WDid b l lg (tx (sep (xs.map coP))) w):=by
  have hn:n=xs.length:=by rw [hl.1,List.length_map]
  have hmx:n≤2 ^ 63 - 1:=by have:=hl.2.1;unfold maxLen at this;omega
  have HFIN:=Lib.hid (show ∀wr,ListI b l lg w (tx (sep ((xs.take n).map coP))) wr→WDid b l lg (tx (sep (xs.map coP))) w (.returned (.tuple #[])) wr from fun wr hI=>by
    rw [hn,List.take_length] at hI
    obtain ⟨l1,lg1,g1,g2,g3⟩:=hI
    exact ⟨rfl,l1,lg1,g1,g2,g3⟩)
  have HL:=Lib.hid hl
  have HCB:=Lib.hid hcb
  have HN:=Lib.hid hn
  have HLEN:=Lib.hid hlen
  have HST:=Lib.hid (show ListI b l lg w (tx (sep ((xs.take 0).map coP))) w from ⟨l,lg,h,Wr.refl _ _, .inl ⟨rfl,(List.append_nil _).symm⟩⟩)
  clear h hl hcb hn hlen
  go_enter Tryz.func128,Tryz.ntmps128
  go_wp2
  go_loopw [10] (fun i wr=>∃j:Nat,j≤n∧i= .int .i64 (j:Int)∧Hid (ListI b l lg w (tx (sep ((xs.take j).map coP))) wr)) (fun i _=>n+1 - (intOf i).toNat)
  case atStart=>exact ⟨0,Nat.zero_le _,rfl,HST⟩
  case round=>
    obtain ⟨j,hj,rfl,HE⟩:=hrel
    by_cases hlt:j<n
    · obtain ⟨l1,lg1,hw,hr,ht⟩:=HE.out
      obtain ⟨x,hx⟩:=some_at HN.out.symm hlt
      have hxm:=List.mem_of_getElem? hx
      have hlb:=hw.lt
      have tl:decide ((j:Int)<(n:Int))=true:=decide_eq_true (by omega)
      have hT:=tsep_le (l:=xs) (P:=coP) (j:=j+1)
      have hLE:=HLEN.out
      have hl1:=ht.len
      by_cases hj0:j=0
      · subst hj0
        have hTZ:=tsep_zero (P:=coP) hx
        rw [hTZ] at hT
        have HSTEP:=Lib.hid (show ∀W2 l2 lg2,Ww b l2 lg2 W2→Wr b wr W2→Wt lg1 l1 (tx (coP x)) lg2 l2→ListI b l lg w (tx (sep ((xs.take (0+1)).map coP))) W2 from fun W2 l2 lg2 g1 g2 g3=>⟨l2,lg2,g1,hr.trans g2,by
          have:=ht.trans g3
          rw [show tx (sep ((xs.take (0+1)).map coP))=tx (coP x) from hTZ]
          exact this⟩)
        have hlen1:l1.length+(tx (coP x)).length≤1000000000:=by
          have:(tx (sep ((xs.take 0).map coP))).length=0:=rfl
          omega
        obtain ⟨b1,z1,rfl,hb1,p0,p1,p2⟩:=co_at (HL.out.below hr.1).2.2 hx
        have HIN:=Lib.hid (show DtIn wr (fun c=>c<b) (coDt x) [.string (txt x.nm), .int .i64 x.ty, .bool x.nn] from co_in.2 rfl)
        obtain ⟨xn,xt,xb⟩:=x
        have c0:wr.cell? ⟨b1,z1,none⟩=some (.string (txt xn)):=by have c:=p0;simpa using c
        have c1:wr.cell? ⟨b1,z1+1,none⟩=some (.int .i64 xt):=by have c:=p1;simpa using c
        have c2:wr.cell? ⟨b1,z1+2,none⟩=some (.bool xb):=by have c:=p2;simpa using c
        obtain ⟨W1,hW1⟩:∃W1,wr.alloc (.cells #[.string (txt xn), .int .i64 xt, .bool xb] 54)=W1:=⟨_,rfl⟩
        have hbw:Below wr.heap.size wr W1:=by rw [←hW1];exact al (Below.refl _ _) _
        have xw:Cel W1 wr.heap.size 54 #[.string (txt xn), .int .i64 xt, .bool xb]:=by rw [←hW1];exact Cel.new _ _ _ rfl
        have v0:W1.cell? ⟨wr.heap.size,0,none⟩=some (.string (txt xn)):=xw.at_ 0
        have v1:W1.cell? ⟨wr.heap.size,1,none⟩=some (.int .i64 xt):=xw.at_ 1
        have v2:W1.cell? ⟨wr.heap.size,2,none⟩=some (.bool xb):=xw.at_ 2
        have hw1:Ww b l1 lg1 W1:=hw.below hbw
        have hr1:Wr b wr W1:=Wr.of hbw (Nat.le_of_lt hlb)
        have HCC:=Lib.hid (show Calls Tryz.prog 74 #[.pointer (some ⟨b,0,none⟩), .agg #[.string (txt xn), .int .i64 xt, .bool xb]] W1 (WDid b l1 lg1 (tx (coP ⟨xn,xt,xb⟩)) W1) from HCB.out ⟨xn,xt,xb⟩ hxm W1 l1 lg1 [.string (txt xn), .int .i64 xt, .bool xb] hw1 (hr.trans hr1) (HIN.out.below hr1.1) hlen1)
        have HR1:=Lib.hid hr1
        clear hx hxm hw hr ht hlb hT hLE hl1 hTZ hlen1 hb1 hbw hw1 hr1 p0 p1 p2 xw HE
        go_wp2_with (go_at_call 74;(with_reducible refine HCC.out.mono ?_);rintro e1 w2 ⟨rfl,l2,lg2,g1,g2,g3⟩;have HR:=Lib.hid (HSTEP.out w2 l2 lg2 g1 (HR1.out.trans g2) g3);clear g1 g2 g3)
        go_roundw
        case rel=>exact ⟨0+1,by omega,by first|rfl|go_num,HR⟩
        case measure=>(simp [intOf];try omega)
      · have hjp:0<j:=by omega
        have hTZ:=tsep_on (P:=coP) hx hjp
        rw [hTZ,List.length_append,List.length_append] at hT
        have h2:([44,32]:List UInt8).length=2:=rfl
        have t0:decide ((0:Int)<(j:Int))=true:=decide_eq_true (by omega)
        have t00:decide (0<j)=true:=decide_eq_true hjp
        have HSTEP:=Lib.hid (show ∀W2 l2 lg2,Ww b l2 lg2 W2→Wr b wr W2→Wt lg1 l1 ([44,32]++tx (coP x)) lg2 l2→ListI b l lg w (tx (sep ((xs.take (j+1)).map coP))) W2 from fun W2 l2 lg2 g1 g2 g3=>⟨l2,lg2,g1,hr.trans g2,by rw [hTZ];exact ht.trans g3⟩)
        have hlen1:l1.length+(2+(tx (coP x)).length)≤1000000000:=by omega
        obtain ⟨b1,z1,rfl,hb1,p0,p1,p2⟩:=co_at (HL.out.below hr.1).2.2 hx
        have HIN:=Lib.hid (show DtIn wr (fun c=>c<b) (coDt x) [.string (txt x.nm), .int .i64 x.ty, .bool x.nn] from co_in.2 rfl)
        obtain ⟨xn,xt,xb⟩:=x
        have c0:wr.cell? ⟨b1,z1+j*3,none⟩=some (.string (txt xn)):=p0
        have c1:wr.cell? ⟨b1,z1+j*3+1,none⟩=some (.int .i64 xt):=p1
        have c2:wr.cell? ⟨b1,z1+j*3+2,none⟩=some (.bool xb):=p2
        obtain ⟨W1,hW1⟩:∃W1,wr.alloc (.cells #[.string (txt xn), .int .i64 xt, .bool xb] 54)=W1:=⟨_,rfl⟩
        have hbw:Below wr.heap.size wr W1:=by rw [←hW1];exact al (Below.refl _ _) _
        have xw:Cel W1 wr.heap.size 54 #[.string (txt xn), .int .i64 xt, .bool xb]:=by rw [←hW1];exact Cel.new _ _ _ rfl
        have v0:W1.cell? ⟨wr.heap.size,0,none⟩=some (.string (txt xn)):=xw.at_ 0
        have v1:W1.cell? ⟨wr.heap.size,1,none⟩=some (.int .i64 xt):=xw.at_ 1
        have v2:W1.cell? ⟨wr.heap.size,2,none⟩=some (.bool xb):=xw.at_ 2
        have hw1:Ww b l1 lg1 W1:=hw.below hbw
        have hr1:Wr b wr W1:=Wr.of hbw (Nat.le_of_lt hlb)
        have HSAY:=Lib.hid (show Calls Tryz.prog 73 #[.pointer (some ⟨b,0,none⟩), .slice (some ⟨W1.heap.size,0,none⟩) 1 1] (W1.alloc (.cells #[.string ⟨#[44,32]⟩] tS)) (WDid b l1 lg1 [44,32] W1) from saying [[44,32]] hw1 (by simp) (by simp;omega))
        have HNEXT:=Lib.hid (show ∀w1 l2 lg2,Ww b l2 lg2 w1→Wr b W1 w1→Wt lg1 l1 [44,32] lg2 l2→Cel w1 wr.heap.size 54 #[.string (txt xn), .int .i64 xt, .bool xb]∧Calls Tryz.prog 74 #[.pointer (some ⟨b,0,none⟩), .agg #[.string (txt xn), .int .i64 xt, .bool xb]] w1 (WDid b l2 lg2 (tx (coP ⟨xn,xt,xb⟩)) w1)∧Wr b wr w1 from fun w1 l2 lg2 g1 g2 g3=>by
          have hr2:=hr1.trans g2
          have hl2:=g3.len
          rw [h2] at hl2
          exact ⟨g2.cel (by omega) (by decide) xw,HCB.out ⟨xn,xt,xb⟩ hxm w1 l2 lg2 [.string (txt xn), .int .i64 xt, .bool xb] g1 (hr.trans hr2) (HIN.out.below hr2.1) (by omega),hr2⟩)
        clear hx hxm hw hr ht hlb hT hLE hl1 hTZ hlen1 hb1 hbw hw1 hr1 p0 p1 p2 xw HE h2
        go_wp2_with (first|(go_at_call 73;(with_reducible refine HSAY.out.mono ?_);rintro e1 w1 ⟨rfl,l2,lg2,g1,g2,g3⟩;obtain ⟨y1,y2,y3⟩:=HNEXT.out w1 l2 lg2 g1 g2 g3;have hx1:=Lib.hid y1;have HCC:=Lib.hid y2;have HR2:=Lib.hid y3;have HT2:=Lib.hid g3;have u0:w1.cell? ⟨wr.heap.size,0,none⟩=some (.string (txt xn)):=hx1.out.at_ 0;have u1:w1.cell? ⟨wr.heap.size,1,none⟩=some (.int .i64 xt):=hx1.out.at_ 1;have u2:w1.cell? ⟨wr.heap.size,2,none⟩=some (.bool xb):=hx1.out.at_ 2;clear g1 g2 g3 y1 y2 y3)|(go_at_call 74;(with_reducible refine HCC.out.mono ?_);rintro e1 w2 ⟨rfl,l3,lg3,g1,g2,g3⟩;have HR:=Lib.hid (HSTEP.out w2 l3 lg3 g1 (HR2.out.trans g2) (HT2.out.trans g3));clear g1 g2 g3))
        go_roundw
        case rel=>exact ⟨j+1,by omega,by go_num,HR⟩
        case measure=>simp [intOf];omega
    · have tl:decide ((j:Int)<(n:Int))=false:=decide_eq_false (by omega)
      obtain rfl:j=n:=by omega
      have HD:=Lib.hid (HFIN.out wr HE.out)
      clear HFIN HE
      go_wp2
      go_end0
      exact HD.out
set_option maxRecDepth 100000 in
set_option maxHeartbeats 2000000 in
theorem list_rw {xs:List (List Ex)} {A:Option Addr} {n c:Nat} (h:Ww b l lg w) (hl:LsIn w b A n 1 (xs.map exsDt)) (hlen:l.length+(tx (sep (xs.map rowP))).length≤1000000000) (hcb:∀x∈xs,∀(W:World) (l1:List UInt8) (lg1:Bool) (cs:List Value),Ww b l1 lg1 W→Wr b w W→DtIn W (fun c=>c<b) (exsDt x) cs→l1.length+(tx (rowP x)).length≤1000000000→Calls Tryz.prog 82 #[.pointer (some ⟨b,0,none⟩),wr1 cs] W (WDid b l1 lg1 (tx (rowP x)) W)):
    Calls Tryz.prog 132 #[.pointer (some ⟨b,0,none⟩), .slice A n c, .func (.func 82) #[.pointer (some ⟨b,0,none⟩)] #[]] w (WDid b l lg (tx (sep (xs.map rowP))) w):=by
  have hn:n=xs.length:=by rw [hl.1,List.length_map]
  have hmx:n≤2 ^ 63 - 1:=by have:=hl.2.1;unfold maxLen at this;omega
  have HFIN:=Lib.hid (show ∀wr,ListI b l lg w (tx (sep ((xs.take n).map rowP))) wr→WDid b l lg (tx (sep (xs.map rowP))) w (.returned (.tuple #[])) wr from fun wr hI=>by
    rw [hn,List.take_length] at hI
    obtain ⟨l1,lg1,g1,g2,g3⟩:=hI
    exact ⟨rfl,l1,lg1,g1,g2,g3⟩)
  have HL:=Lib.hid hl
  have HCB:=Lib.hid hcb
  have HN:=Lib.hid hn
  have HLEN:=Lib.hid hlen
  have HST:=Lib.hid (show ListI b l lg w (tx (sep ((xs.take 0).map rowP))) w from ⟨l,lg,h,Wr.refl _ _, .inl ⟨rfl,(List.append_nil _).symm⟩⟩)
  clear h hl hcb hn hlen
  go_enter Tryz.func132,Tryz.ntmps132
  go_wp2
  go_loopw [10] (fun i wr=>∃j:Nat,j≤n∧i= .int .i64 (j:Int)∧Hid (ListI b l lg w (tx (sep ((xs.take j).map rowP))) wr)) (fun i _=>n+1 - (intOf i).toNat)
  case atStart=>exact ⟨0,Nat.zero_le _,rfl,HST⟩
  case round=>
    obtain ⟨j,hj,rfl,HE⟩:=hrel
    by_cases hlt:j<n
    · obtain ⟨l1,lg1,hw,hr,ht⟩:=HE.out
      obtain ⟨x,hx⟩:=some_at HN.out.symm hlt
      have hxm:=List.mem_of_getElem? hx
      have hlb:=hw.lt
      have tl:decide ((j:Int)<(n:Int))=true:=decide_eq_true (by omega)
      have hT:=tsep_le (l:=xs) (P:=rowP) (j:=j+1)
      have hLE:=HLEN.out
      have hl1:=ht.len
      by_cases hj0:j=0
      · subst hj0
        have hTZ:=tsep_zero (P:=rowP) hx
        rw [hTZ] at hT
        have HSTEP:=Lib.hid (show ∀W2 l2 lg2,Ww b l2 lg2 W2→Wr b wr W2→Wt lg1 l1 (tx (rowP x)) lg2 l2→ListI b l lg w (tx (sep ((xs.take (0+1)).map rowP))) W2 from fun W2 l2 lg2 g1 g2 g3=>⟨l2,lg2,g1,hr.trans g2,by
          have:=ht.trans g3
          rw [show tx (sep ((xs.take (0+1)).map rowP))=tx (rowP x) from hTZ]
          exact this⟩)
        have hlen1:l1.length+(tx (rowP x)).length≤1000000000:=by
          have:(tx (sep ((xs.take 0).map rowP))).length=0:=rfl
          omega
        obtain ⟨b1,z1,Ax,nx,cx,rfl,hb1,p0,in1⟩:=rw_at (HL.out.below hr.1).2.2 hx
        have HIN:=Lib.hid in1
        have c0:wr.cell? ⟨b1,z1,none⟩=some (.slice Ax nx cx):=by have c:=p0;simpa using c
        have hbw:=Below.refl wr.heap.size wr
        have hw1:Ww b l1 lg1 wr:=hw.below hbw
        have hr1:Wr b wr wr:=Wr.of hbw (Nat.le_of_lt hlb)
        have HCC:=Lib.hid (show Calls Tryz.prog 82 #[.pointer (some ⟨b,0,none⟩), .slice Ax nx cx] wr (WDid b l1 lg1 (tx (rowP x)) wr) from HCB.out x hxm wr l1 lg1 [.slice Ax nx cx] hw1 (hr.trans hr1) (HIN.out.below hr1.1) hlen1)
        have HR1:=Lib.hid hr1
        clear hx hxm hw hr ht hlb hT hLE hl1 hTZ hlen1 hb1 hbw hw1 hr1 p0 in1 HE
        go_wp2_with (go_at_call 82;(with_reducible refine HCC.out.mono ?_);rintro e1 w2 ⟨rfl,l2,lg2,g1,g2,g3⟩;have HR:=Lib.hid (HSTEP.out w2 l2 lg2 g1 (HR1.out.trans g2) g3);clear g1 g2 g3)
        go_roundw
        case rel=>exact ⟨0+1,by omega,by first|rfl|go_num,HR⟩
        case measure=>(simp [intOf];try omega)
      · have hjp:0<j:=by omega
        have hTZ:=tsep_on (P:=rowP) hx hjp
        rw [hTZ,List.length_append,List.length_append] at hT
        have h2:([44,32]:List UInt8).length=2:=rfl
        have t0:decide ((0:Int)<(j:Int))=true:=decide_eq_true (by omega)
        have t00:decide (0<j)=true:=decide_eq_true hjp
        have HSTEP:=Lib.hid (show ∀W2 l2 lg2,Ww b l2 lg2 W2→Wr b wr W2→Wt lg1 l1 ([44,32]++tx (rowP x)) lg2 l2→ListI b l lg w (tx (sep ((xs.take (j+1)).map rowP))) W2 from fun W2 l2 lg2 g1 g2 g3=>⟨l2,lg2,g1,hr.trans g2,by rw [hTZ];exact ht.trans g3⟩)
        have hlen1:l1.length+(2+(tx (rowP x)).length)≤1000000000:=by omega
        obtain ⟨b1,z1,Ax,nx,cx,rfl,hb1,p0,in1⟩:=rw_at (HL.out.below hr.1).2.2 hx
        have HIN:=Lib.hid in1
        have c0:wr.cell? ⟨b1,z1+j,none⟩=some (.slice Ax nx cx):=p0
        have hbw:=Below.refl wr.heap.size wr
        have hw1:Ww b l1 lg1 wr:=hw.below hbw
        have hr1:Wr b wr wr:=Wr.of hbw (Nat.le_of_lt hlb)
        have HSAY:=Lib.hid (show Calls Tryz.prog 73 #[.pointer (some ⟨b,0,none⟩), .slice (some ⟨wr.heap.size,0,none⟩) 1 1] (wr.alloc (.cells #[.string ⟨#[44,32]⟩] tS)) (WDid b l1 lg1 [44,32] wr) from saying [[44,32]] hw1 (by simp) (by simp;omega))
        have HNEXT:=Lib.hid (show ∀w1 l2 lg2,Ww b l2 lg2 w1→Wr b wr w1→Wt lg1 l1 [44,32] lg2 l2→True∧Calls Tryz.prog 82 #[.pointer (some ⟨b,0,none⟩), .slice Ax nx cx] w1 (WDid b l2 lg2 (tx (rowP x)) w1)∧Wr b wr w1 from fun w1 l2 lg2 g1 g2 g3=>by
          have hr2:=hr1.trans g2
          have hl2:=g3.len
          rw [h2] at hl2
          exact ⟨trivial,HCB.out x hxm w1 l2 lg2 [.slice Ax nx cx] g1 (hr.trans hr2) (HIN.out.below hr2.1) (by omega),hr2⟩)
        clear hx hxm hw hr ht hlb hT hLE hl1 hTZ hlen1 hb1 hbw hw1 hr1 p0 in1 HE h2
        go_wp2_with (first|(go_at_call 73;(with_reducible refine HSAY.out.mono ?_);rintro e1 w1 ⟨rfl,l2,lg2,g1,g2,g3⟩;obtain ⟨y1,y2,y3⟩:=HNEXT.out w1 l2 lg2 g1 g2 g3;have hx1:=Lib.hid y1;have HCC:=Lib.hid y2;have HR2:=Lib.hid y3;have HT2:=Lib.hid g3;clear g1 g2 g3 y1 y2 y3)|(go_at_call 82;(with_reducible refine HCC.out.mono ?_);rintro e1 w2 ⟨rfl,l3,lg3,g1,g2,g3⟩;have HR:=Lib.hid (HSTEP.out w2 l3 lg3 g1 (HR2.out.trans g2) (HT2.out.trans g3));clear g1 g2 g3))
        go_roundw
        case rel=>exact ⟨j+1,by omega,by go_num,HR⟩
        case measure=>simp [intOf];omega
    · have tl:decide ((j:Int)<(n:Int))=false:=decide_eq_false (by omega)
      obtain rfl:j=n:=by omega
      have HD:=Lib.hid (HFIN.out wr HE.out)
      clear HFIN HE
      go_wp2
      go_end0
      exact HD.out
set_option maxRecDepth 100000 in
set_option maxHeartbeats 2000000 in
theorem list_ex {xs:List (Ex)} {A:Option Addr} {n c:Nat} (h:Ww b l lg w) (hl:LsIn w b A n 7 (xs.map exDt)) (hlen:l.length+(tx (sep (xs.map pcs))).length≤1000000000) (hcb:∀x∈xs,∀(W:World) (l1:List UInt8) (lg1:Bool) (cs:List Value),Ww b l1 lg1 W→Wr b w W→DtIn W (fun c=>c<b) (exDt x) cs→l1.length+(tx (pcs x)).length≤1000000000→Calls Tryz.prog 130 #[.pointer (some ⟨b,0,none⟩), .agg cs.toArray] W (WDid b l1 lg1 (tx (pcs x)) W)):
    Calls Tryz.prog 133 #[.pointer (some ⟨b,0,none⟩), .slice A n c, .func (.func 130) #[.pointer (some ⟨b,0,none⟩)] #[]] w (WDid b l lg (tx (sep (xs.map pcs))) w):=by
  have hn:n=xs.length:=by rw [hl.1,List.length_map]
  have hmx:n≤2 ^ 63 - 1:=by have:=hl.2.1;unfold maxLen at this;omega
  have HFIN:=Lib.hid (show ∀wr,ListI b l lg w (tx (sep ((xs.take n).map pcs))) wr→WDid b l lg (tx (sep (xs.map pcs))) w (.returned (.tuple #[])) wr from fun wr hI=>by
    rw [hn,List.take_length] at hI
    obtain ⟨l1,lg1,g1,g2,g3⟩:=hI
    exact ⟨rfl,l1,lg1,g1,g2,g3⟩)
  have HL:=Lib.hid hl
  have HCB:=Lib.hid hcb
  have HN:=Lib.hid hn
  have HLEN:=Lib.hid hlen
  have HST:=Lib.hid (show ListI b l lg w (tx (sep ((xs.take 0).map pcs))) w from ⟨l,lg,h,Wr.refl _ _, .inl ⟨rfl,(List.append_nil _).symm⟩⟩)
  clear h hl hcb hn hlen
  go_enter Tryz.func133,Tryz.ntmps133
  go_wp2
  go_loopw [10] (fun i wr=>∃j:Nat,j≤n∧i= .int .i64 (j:Int)∧Hid (ListI b l lg w (tx (sep ((xs.take j).map pcs))) wr)) (fun i _=>n+1 - (intOf i).toNat)
  case atStart=>exact ⟨0,Nat.zero_le _,rfl,HST⟩
  case round=>
    obtain ⟨j,hj,rfl,HE⟩:=hrel
    by_cases hlt:j<n
    · obtain ⟨l1,lg1,hw,hr,ht⟩:=HE.out
      obtain ⟨x,hx⟩:=some_at HN.out.symm hlt
      have hxm:=List.mem_of_getElem? hx
      have hlb:=hw.lt
      have tl:decide ((j:Int)<(n:Int))=true:=decide_eq_true (by omega)
      have hT:=tsep_le (l:=xs) (P:=pcs) (j:=j+1)
      have hLE:=HLEN.out
      have hl1:=ht.len
      by_cases hj0:j=0
      · subst hj0
        have hTZ:=tsep_zero (P:=pcs) hx
        rw [hTZ] at hT
        have HSTEP:=Lib.hid (show ∀W2 l2 lg2,Ww b l2 lg2 W2→Wr b wr W2→Wt lg1 l1 (tx (pcs x)) lg2 l2→ListI b l lg w (tx (sep ((xs.take (0+1)).map pcs))) W2 from fun W2 l2 lg2 g1 g2 g3=>⟨l2,lg2,g1,hr.trans g2,by
          have:=ht.trans g3
          rw [show tx (sep ((xs.take (0+1)).map pcs))=tx (pcs x) from hTZ]
          exact this⟩)
        have hlen1:l1.length+(tx (pcs x)).length≤1000000000:=by
          have:(tx (sep ((xs.take 0).map pcs))).length=0:=rfl
          omega
        obtain ⟨b1,z1,kx,ox,vkx,vnx,vsx,nsx,Ax,nx,cx,rfl,hb1,at1,in1⟩:=ex_at2 (HL.out.below hr.1).2.2 hx
        have HIN:=Lib.hid in1
        have c0:wr.cell? ⟨b1,z1,none⟩=some (.int .i64 kx):=by have c:=at1 0 _ (show _=some (.int .i64 kx) from rfl);simpa using c
        have c1:wr.cell? ⟨b1,z1+1,none⟩=some (.int .i64 ox):=by have c:=at1 1 _ (show _=some (.int .i64 ox) from rfl);simpa using c
        have c2:wr.cell? ⟨b1,z1+2,none⟩=some (.int .i64 vkx):=by have c:=at1 2 _ (show _=some (.int .i64 vkx) from rfl);simpa using c
        have c3:wr.cell? ⟨b1,z1+3,none⟩=some (.int .i64 vnx):=by have c:=at1 3 _ (show _=some (.int .i64 vnx) from rfl);simpa using c
        have c4:wr.cell? ⟨b1,z1+4,none⟩=some (.string vsx):=by have c:=at1 4 _ (show _=some (.string vsx) from rfl);simpa using c
        have c5:wr.cell? ⟨b1,z1+5,none⟩=some (.string nsx):=by have c:=at1 5 _ (show _=some (.string nsx) from rfl);simpa using c
        have c6:wr.cell? ⟨b1,z1+6,none⟩=some (.slice Ax nx cx):=by have c:=at1 6 _ (show _=some (.slice Ax nx cx) from rfl);simpa using c
        obtain ⟨W1,hW1⟩:∃W1,wr.alloc (.cells #[.int .i64 kx, .int .i64 ox, .int .i64 vkx, .int .i64 vnx, .string vsx, .string nsx, .slice Ax nx cx] 30)=W1:=⟨_,rfl⟩
        have hbw:Below wr.heap.size wr W1:=by rw [←hW1];exact al (Below.refl _ _) _
        have xw:Cel W1 wr.heap.size 30 #[.int .i64 kx, .int .i64 ox, .int .i64 vkx, .int .i64 vnx, .string vsx, .string nsx, .slice Ax nx cx]:=by rw [←hW1];exact Cel.new _ _ _ rfl
        have v0:W1.cell? ⟨wr.heap.size,0,none⟩=some (.int .i64 kx):=xw.at_ 0
        have v1:W1.cell? ⟨wr.heap.size,1,none⟩=some (.int .i64 ox):=xw.at_ 1
        have v2:W1.cell? ⟨wr.heap.size,2,none⟩=some (.int .i64 vkx):=xw.at_ 2
        have v3:W1.cell? ⟨wr.heap.size,3,none⟩=some (.int .i64 vnx):=xw.at_ 3
        have v4:W1.cell? ⟨wr.heap.size,4,none⟩=some (.string vsx):=xw.at_ 4
        have v5:W1.cell? ⟨wr.heap.size,5,none⟩=some (.string nsx):=xw.at_ 5
        have v6:W1.cell? ⟨wr.heap.size,6,none⟩=some (.slice Ax nx cx):=xw.at_ 6
        have hw1:Ww b l1 lg1 W1:=hw.below hbw
        have hr1:Wr b wr W1:=Wr.of hbw (Nat.le_of_lt hlb)
        have HCC:=Lib.hid (show Calls Tryz.prog 130 #[.pointer (some ⟨b,0,none⟩), .agg #[.int .i64 kx, .int .i64 ox, .int .i64 vkx, .int .i64 vnx, .string vsx, .string nsx, .slice Ax nx cx]] W1 (WDid b l1 lg1 (tx (pcs x)) W1) from HCB.out x hxm W1 l1 lg1 [.int .i64 kx, .int .i64 ox, .int .i64 vkx, .int .i64 vnx, .string vsx, .string nsx, .slice Ax nx cx] hw1 (hr.trans hr1) (HIN.out.below hr1.1) hlen1)
        have HR1:=Lib.hid hr1
        clear hx hxm hw hr ht hlb hT hLE hl1 hTZ hlen1 hb1 hbw hw1 hr1 at1 in1 xw HE
        go_wp2_with (go_at_call 130;(with_reducible refine HCC.out.mono ?_);rintro e1 w2 ⟨rfl,l2,lg2,g1,g2,g3⟩;have HR:=Lib.hid (HSTEP.out w2 l2 lg2 g1 (HR1.out.trans g2) g3);clear g1 g2 g3)
        go_roundw
        case rel=>exact ⟨0+1,by omega,by first|rfl|go_num,HR⟩
        case measure=>(simp [intOf];try omega)
      · have hjp:0<j:=by omega
        have hTZ:=tsep_on (P:=pcs) hx hjp
        rw [hTZ,List.length_append,List.length_append] at hT
        have h2:([44,32]:List UInt8).length=2:=rfl
        have t0:decide ((0:Int)<(j:Int))=true:=decide_eq_true (by omega)
        have t00:decide (0<j)=true:=decide_eq_true hjp
        have HSTEP:=Lib.hid (show ∀W2 l2 lg2,Ww b l2 lg2 W2→Wr b wr W2→Wt lg1 l1 ([44,32]++tx (pcs x)) lg2 l2→ListI b l lg w (tx (sep ((xs.take (j+1)).map pcs))) W2 from fun W2 l2 lg2 g1 g2 g3=>⟨l2,lg2,g1,hr.trans g2,by rw [hTZ];exact ht.trans g3⟩)
        have hlen1:l1.length+(2+(tx (pcs x)).length)≤1000000000:=by omega
        obtain ⟨b1,z1,kx,ox,vkx,vnx,vsx,nsx,Ax,nx,cx,rfl,hb1,at1,in1⟩:=ex_at2 (HL.out.below hr.1).2.2 hx
        have HIN:=Lib.hid in1
        have c0:wr.cell? ⟨b1,z1+j*7,none⟩=some (.int .i64 kx):=at1 0 _ rfl
        have c1:wr.cell? ⟨b1,z1+j*7+1,none⟩=some (.int .i64 ox):=at1 1 _ rfl
        have c2:wr.cell? ⟨b1,z1+j*7+2,none⟩=some (.int .i64 vkx):=at1 2 _ rfl
        have c3:wr.cell? ⟨b1,z1+j*7+3,none⟩=some (.int .i64 vnx):=at1 3 _ rfl
        have c4:wr.cell? ⟨b1,z1+j*7+4,none⟩=some (.string vsx):=at1 4 _ rfl
        have c5:wr.cell? ⟨b1,z1+j*7+5,none⟩=some (.string nsx):=at1 5 _ rfl
        have c6:wr.cell? ⟨b1,z1+j*7+6,none⟩=some (.slice Ax nx cx):=at1 6 _ rfl
        obtain ⟨W1,hW1⟩:∃W1,wr.alloc (.cells #[.int .i64 kx, .int .i64 ox, .int .i64 vkx, .int .i64 vnx, .string vsx, .string nsx, .slice Ax nx cx] 30)=W1:=⟨_,rfl⟩
        have hbw:Below wr.heap.size wr W1:=by rw [←hW1];exact al (Below.refl _ _) _
        have xw:Cel W1 wr.heap.size 30 #[.int .i64 kx, .int .i64 ox, .int .i64 vkx, .int .i64 vnx, .string vsx, .string nsx, .slice Ax nx cx]:=by rw [←hW1];exact Cel.new _ _ _ rfl
        have v0:W1.cell? ⟨wr.heap.size,0,none⟩=some (.int .i64 kx):=xw.at_ 0
        have v1:W1.cell? ⟨wr.heap.size,1,none⟩=some (.int .i64 ox):=xw.at_ 1
        have v2:W1.cell? ⟨wr.heap.size,2,none⟩=some (.int .i64 vkx):=xw.at_ 2
        have v3:W1.cell? ⟨wr.heap.size,3,none⟩=some (.int .i64 vnx):=xw.at_ 3
        have v4:W1.cell? ⟨wr.heap.size,4,none⟩=some (.string vsx):=xw.at_ 4
        have v5:W1.cell? ⟨wr.heap.size,5,none⟩=some (.string nsx):=xw.at_ 5
        have v6:W1.cell? ⟨wr.heap.size,6,none⟩=some (.slice Ax nx cx):=xw.at_ 6
        have hw1:Ww b l1 lg1 W1:=hw.below hbw
        have hr1:Wr b wr W1:=Wr.of hbw (Nat.le_of_lt hlb)
        have HSAY:=Lib.hid (show Calls Tryz.prog 73 #[.pointer (some ⟨b,0,none⟩), .slice (some ⟨W1.heap.size,0,none⟩) 1 1] (W1.alloc (.cells #[.string ⟨#[44,32]⟩] tS)) (WDid b l1 lg1 [44,32] W1) from saying [[44,32]] hw1 (by simp) (by simp;omega))
        have HNEXT:=Lib.hid (show ∀w1 l2 lg2,Ww b l2 lg2 w1→Wr b W1 w1→Wt lg1 l1 [44,32] lg2 l2→Cel w1 wr.heap.size 30 #[.int .i64 kx, .int .i64 ox, .int .i64 vkx, .int .i64 vnx, .string vsx, .string nsx, .slice Ax nx cx]∧Calls Tryz.prog 130 #[.pointer (some ⟨b,0,none⟩), .agg #[.int .i64 kx, .int .i64 ox, .int .i64 vkx, .int .i64 vnx, .string vsx, .string nsx, .slice Ax nx cx]] w1 (WDid b l2 lg2 (tx (pcs x)) w1)∧Wr b wr w1 from fun w1 l2 lg2 g1 g2 g3=>by
          have hr2:=hr1.trans g2
          have hl2:=g3.len
          rw [h2] at hl2
          exact ⟨g2.cel (by omega) (by decide) xw,HCB.out x hxm w1 l2 lg2 [.int .i64 kx, .int .i64 ox, .int .i64 vkx, .int .i64 vnx, .string vsx, .string nsx, .slice Ax nx cx] g1 (hr.trans hr2) (HIN.out.below hr2.1) (by omega),hr2⟩)
        clear hx hxm hw hr ht hlb hT hLE hl1 hTZ hlen1 hb1 hbw hw1 hr1 at1 in1 xw HE h2
        go_wp2_with (first|(go_at_call 73;(with_reducible refine HSAY.out.mono ?_);rintro e1 w1 ⟨rfl,l2,lg2,g1,g2,g3⟩;obtain ⟨y1,y2,y3⟩:=HNEXT.out w1 l2 lg2 g1 g2 g3;have hx1:=Lib.hid y1;have HCC:=Lib.hid y2;have HR2:=Lib.hid y3;have HT2:=Lib.hid g3;have u0:w1.cell? ⟨wr.heap.size,0,none⟩=some (.int .i64 kx):=hx1.out.at_ 0;have u1:w1.cell? ⟨wr.heap.size,1,none⟩=some (.int .i64 ox):=hx1.out.at_ 1;have u2:w1.cell? ⟨wr.heap.size,2,none⟩=some (.int .i64 vkx):=hx1.out.at_ 2;have u3:w1.cell? ⟨wr.heap.size,3,none⟩=some (.int .i64 vnx):=hx1.out.at_ 3;have u4:w1.cell? ⟨wr.heap.size,4,none⟩=some (.string vsx):=hx1.out.at_ 4;have u5:w1.cell? ⟨wr.heap.size,5,none⟩=some (.string nsx):=hx1.out.at_ 5;have u6:w1.cell? ⟨wr.heap.size,6,none⟩=some (.slice Ax nx cx):=hx1.out.at_ 6;clear g1 g2 g3 y1 y2 y3)|(go_at_call 130;(with_reducible refine HCC.out.mono ?_);rintro e1 w2 ⟨rfl,l3,lg3,g1,g2,g3⟩;have HR:=Lib.hid (HSTEP.out w2 l3 lg3 g1 (HR2.out.trans g2) (HT2.out.trans g3));clear g1 g2 g3))
        go_roundw
        case rel=>exact ⟨j+1,by omega,by go_num,HR⟩
        case measure=>simp [intOf];omega
    · have tl:decide ((j:Int)<(n:Int))=false:=decide_eq_false (by omega)
      obtain rfl:j=n:=by omega
      have HD:=Lib.hid (HFIN.out wr HE.out)
      clear HFIN HE
      go_wp2
      go_end0
      exact HD.out
end
end Go.Proofs.YtiaomhdmllhmmaaGreatDoor.Sm
