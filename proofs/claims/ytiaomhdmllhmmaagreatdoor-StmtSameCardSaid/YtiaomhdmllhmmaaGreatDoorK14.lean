/- Two lists of constraints, rows, sets, orders are one: slices.EqualFunc, whatever it calls. -/
import Derived.Test.YtiaomhdmllhmmaaGreatDoorK13
namespace Go.Proofs.YtiaomhdmllhmmaaGreatDoor.Sm
open Go.RowKit Mem Ep Right Go.ChangeShapes Go.WideShapes
set_option linter.unusedVariables false
def wr1:List Value→Value
 | [v]=>v
 |cs=> .agg cs.toArray
def SameW {α:Type} (f:FuncId) (d:α→Dt) (x:α):Prop:=∀(y:α) (cs ds:List Value) (w:World),DtIn w (fun b=>b<w.heap.size) (d x) cs→DtIn w (fun b=>b<w.heap.size) (d y) ds→
 Calls Tryz.prog f #[wr1 cs,wr1 ds] w fun e w' =>e= .returned (.bool (eqB x y))∧Below w.heap.size w w'
section
variable {w:World} {S:Nat→Prop}
theorem row_form {k:Nat} {xs:List Dt} {v:Value} (h:IsRow w S k xs v):∃A n c,v= .slice A n c:=by
 obtain ⟨A,c,rfl,_⟩:=h
 exact ⟨A,_,c,rfl⟩
theorem ex_form {x:Ex} {cs:List Value} (h:ExIn w S x cs):∃(k o vk vn:Int) (vs ns:ByteArray) (A:Option Addr) (n c:Nat),cs= [.int .i64 k, .int .i64 o, .int .i64 vk, .int .i64 vn, .string vs, .string ns, .slice A n c]:=by
 obtain ⟨k,o,vk,vn,vs,nm,kids⟩:=x
 obtain ⟨A,n,c,rfl, -⟩:=ex_open h
 exact ⟨_,_,_,_,_,_,_,_,_,rfl⟩
theorem cn_form {x:Cn} {cs:List Value} (h:DtIn w S (cnDt x) cs):∃(nm:ByteArray) (kd:Int) (P:Option Addr) (pn pc:Nat) (k o vk vn:Int) (vs ns:ByteArray) (A:Option Addr) (n c:Nat) (tb:ByteArray) (Q:Option Addr) (qn qc:Nat),cs= [.string nm, .int .i64 kd, .slice P pn pc, .int .i64 k, .int .i64 o, .int .i64 vk, .int .i64 vn, .string vs, .string ns, .slice A n c, .string tb, .slice Q qn qc]:=by
 obtain ⟨u1,e,u2,rfl,h1,h2,h3⟩:=cn_in.1 h
 obtain ⟨A,n,c,rfl⟩:=row_form h1
 obtain ⟨A',n',c',rfl⟩:=row_form h3
 obtain ⟨k,o,vk,vn,vs,nm,B,m,d,rfl⟩:=ex_form h2
 exact ⟨_,_,_,_,_,_,_,_,_,_,_,_,_,_,_,_,_,_,rfl⟩
theorem se_form {x:Bs × Ex} {cs:List Value} (h:DtIn w S (seDt x) cs):∃(nm:ByteArray) (k o vk vn:Int) (vs ns:ByteArray) (A:Option Addr) (n c:Nat),cs= [.string nm, .int .i64 k, .int .i64 o, .int .i64 vk, .int .i64 vn, .string vs, .string ns, .slice A n c]:=by
 obtain ⟨e,rfl,h2⟩:=se_in.1 h
 obtain ⟨k,o,vk,vn,vs,nm,B,m,d,rfl⟩:=ex_form h2
 exact ⟨_,_,_,_,_,_,_,_,_,_,rfl⟩
theorem or_form {x:Ex × Bool} {cs:List Value} (h:DtIn w S (orDt x) cs):∃(k o vk vn:Int) (vs ns:ByteArray) (A:Option Addr) (n c:Nat) (b:Bool),cs= [.int .i64 k, .int .i64 o, .int .i64 vk, .int .i64 vn, .string vs, .string ns, .slice A n c, .bool b]:=by
 obtain ⟨e,rfl,h2⟩:=or_in.1 h
 obtain ⟨k,o,vk,vn,vs,nm,B,m,d,rfl⟩:=ex_form h2
 exact ⟨_,_,_,_,_,_,_,_,_,_,rfl⟩
theorem rw_form {x:List Ex} {cs:List Value} (h:DtIn w S (exsDt x) cs):∃(A:Option Addr) (n c:Nat),cs= [.slice A n c]:=by
 unfold exsDt at h
 obtain ⟨v,rfl,h2⟩:=row_is.1 h
 obtain ⟨A,n,c,rfl⟩:=row_form h2
 exact ⟨_,_,_,rfl⟩
theorem st_form {x:St} {cs:List Value} (h:DtIn w S (stDt x) cs):∃(sk:Int) (tt tn tr:ByteArray) (P1:Option Addr) (p1 q1:Nat) (P2:Option Addr) (p2 q2:Nat) (P3:Option Addr) (p3 q3:Nat) (P4:Option Addr) (p4 q4:Nat) (k o vk vn:Int) (vs ns:ByteArray) (A:Option Addr) (n c:Nat) (P5:Option Addr) (p5 q5:Nat) (P6:Option Addr) (p6 q6:Nat) (li pr:Int) (op:Bool) (P7:Option Addr) (p7 q7:Nat),cs= [.int .i64 sk, .string tt, .string tn, .string tr, .slice P1 p1 q1, .slice P2 p2 q2, .slice P3 p3 q3, .slice P4 p4 q4, .int .i64 k, .int .i64 o, .int .i64 vk, .int .i64 vn, .string vs, .string ns, .slice A n c, .slice P5 p5 q5, .slice P6 p6 q6, .int .i64 li, .int .i64 pr, .bool op, .slice P7 p7 q7]:=by
 obtain ⟨k,t,n,r,cols,cons,names,rows,wh,sets,order,limit,priv,opt,kids⟩:=x
 obtain ⟨u4,u5,u6,u7,e,u9,u10,u14,rfl,h4,h5,h6,h7,h8,h9,h10,h14⟩:=st_in.1 h
 obtain ⟨_,_,_,rfl⟩:=row_form h4
 obtain ⟨_,_,_,rfl⟩:=row_form h5
 obtain ⟨_,_,_,rfl⟩:=row_form h6
 obtain ⟨_,_,_,rfl⟩:=row_form h7
 obtain ⟨_,_,_,rfl⟩:=row_form h9
 obtain ⟨_,_,_,rfl⟩:=row_form h10
 obtain ⟨_,_,_,rfl⟩:=row_form h14
 obtain ⟨k,o,vk,vn,vs,nm,B,m,d,rfl⟩:=ex_form h8
 exact ⟨_,_,_,_,_,_,_,_,_,_,_,_,_,_,_,_,_,_,_,_,_,_,_,_,_,_,_,_,_,_,_,_,_,_,_,_,_,rfl⟩
theorem cn_at {A' :Option Addr} {l:List (Cn)} {j:Nat} {x:Cn} (h:RowIn w S A' 12 (l.map cnDt) 0) (hx:l[j]?=some x):∃(b' o' :Nat) (nm:ByteArray) (kd:Int) (P:Option Addr) (pn pc:Nat) (k o vk vn:Int) (vs ns:ByteArray) (A:Option Addr) (n c:Nat) (tb:ByteArray) (Q:Option Addr) (qn qc:Nat),A' =some ⟨b',o',none⟩∧S b' ∧(w.cell? ⟨b',o' +j*12,none⟩=some (.string nm)∧w.cell? ⟨b',o' +j*12+1,none⟩=some (.int .i64 kd)∧w.cell? ⟨b',o' +j*12+2,none⟩=some (.slice P pn pc)∧w.cell? ⟨b',o' +j*12+3,none⟩=some (.int .i64 k)∧w.cell? ⟨b',o' +j*12+4,none⟩=some (.int .i64 o)∧w.cell? ⟨b',o' +j*12+5,none⟩=some (.int .i64 vk)∧w.cell? ⟨b',o' +j*12+6,none⟩=some (.int .i64 vn)∧w.cell? ⟨b',o' +j*12+7,none⟩=some (.string vs)∧w.cell? ⟨b',o' +j*12+8,none⟩=some (.string ns)∧w.cell? ⟨b',o' +j*12+9,none⟩=some (.slice A n c)∧w.cell? ⟨b',o' +j*12+10,none⟩=some (.string tb)∧w.cell? ⟨b',o' +j*12+11,none⟩=some (.slice Q qn qc))∧DtIn w S (cnDt x) [.string nm, .int .i64 kd, .slice P pn pc, .int .i64 k, .int .i64 o, .int .i64 vk, .int .i64 vn, .string vs, .string ns, .slice A n c, .string tb, .slice Q qn qc]:=by
 obtain ⟨b',o',cs,h1,h2,h3,h4,h5⟩:=RowIn.get h (show (l.map cnDt)[j]?=some (cnDt x) by rw [List.getElem?_map,hx];rfl)
 obtain ⟨nm,kd,P,pn,pc,k,o,vk,vn,vs,ns,A,n,c,tb,Q,qn,qc,rfl⟩:=cn_form h5
 have e:∀i,o' +(0+j)*12+i=o' +j*12+i:=fun i=>by omega
 have g:∀(i:Nat) (u:Value), [.string nm, .int .i64 kd, .slice P pn pc, .int .i64 k, .int .i64 o, .int .i64 vk, .int .i64 vn, .string vs, .string ns, .slice A n c, .string tb, .slice Q qn qc][i]?=some u→w.cell? ⟨b',o' +j*12+i,none⟩=some u:=fun i u hu=>by have:=h4 i u hu;rwa [e] at this
 exact ⟨b',o',nm,kd,P,pn,pc,k,o,vk,vn,vs,ns,A,n,c,tb,Q,qn,qc,h1,h2,⟨g 0 _ rfl,g 1 _ rfl,g 2 _ rfl,g 3 _ rfl,g 4 _ rfl,g 5 _ rfl,g 6 _ rfl,g 7 _ rfl,g 8 _ rfl,g 9 _ rfl,g 10 _ rfl,g 11 _ rfl⟩,h5⟩
theorem rw_at {A' :Option Addr} {l:List (List Ex)} {j:Nat} {x:List Ex} (h:RowIn w S A' 1 (l.map exsDt) 0) (hx:l[j]?=some x):∃(b' o' :Nat) (A:Option Addr) (n c:Nat),A' =some ⟨b',o',none⟩∧S b' ∧(w.cell? ⟨b',o' +j,none⟩=some (.slice A n c))∧DtIn w S (exsDt x) [.slice A n c]:=by
 obtain ⟨b',o',cs,h1,h2,h3,h4,h5⟩:=RowIn.get h (show (l.map exsDt)[j]?=some (exsDt x) by rw [List.getElem?_map,hx];rfl)
 obtain ⟨A,n,c,rfl⟩:=rw_form h5
 have e:∀i,o' +(0+j)*1+i=o' +j+i:=fun i=>by omega
 have g:∀(i:Nat) (u:Value), [.slice A n c][i]?=some u→w.cell? ⟨b',o' +j+i,none⟩=some u:=fun i u hu=>by have:=h4 i u hu;rwa [e] at this
 exact ⟨b',o',A,n,c,h1,h2,g 0 _ rfl,h5⟩
theorem se_at {A' :Option Addr} {l:List (Bs × Ex)} {j:Nat} {x:Bs × Ex} (h:RowIn w S A' 8 (l.map seDt) 0) (hx:l[j]?=some x):∃(b' o' :Nat) (nm:ByteArray) (k o vk vn:Int) (vs ns:ByteArray) (A:Option Addr) (n c:Nat),A' =some ⟨b',o',none⟩∧S b' ∧(w.cell? ⟨b',o' +j*8,none⟩=some (.string nm)∧w.cell? ⟨b',o' +j*8+1,none⟩=some (.int .i64 k)∧w.cell? ⟨b',o' +j*8+2,none⟩=some (.int .i64 o)∧w.cell? ⟨b',o' +j*8+3,none⟩=some (.int .i64 vk)∧w.cell? ⟨b',o' +j*8+4,none⟩=some (.int .i64 vn)∧w.cell? ⟨b',o' +j*8+5,none⟩=some (.string vs)∧w.cell? ⟨b',o' +j*8+6,none⟩=some (.string ns)∧w.cell? ⟨b',o' +j*8+7,none⟩=some (.slice A n c))∧DtIn w S (seDt x) [.string nm, .int .i64 k, .int .i64 o, .int .i64 vk, .int .i64 vn, .string vs, .string ns, .slice A n c]:=by
 obtain ⟨b',o',cs,h1,h2,h3,h4,h5⟩:=RowIn.get h (show (l.map seDt)[j]?=some (seDt x) by rw [List.getElem?_map,hx];rfl)
 obtain ⟨nm,k,o,vk,vn,vs,ns,A,n,c,rfl⟩:=se_form h5
 have e:∀i,o' +(0+j)*8+i=o' +j*8+i:=fun i=>by omega
 have g:∀(i:Nat) (u:Value), [.string nm, .int .i64 k, .int .i64 o, .int .i64 vk, .int .i64 vn, .string vs, .string ns, .slice A n c][i]?=some u→w.cell? ⟨b',o' +j*8+i,none⟩=some u:=fun i u hu=>by have:=h4 i u hu;rwa [e] at this
 exact ⟨b',o',nm,k,o,vk,vn,vs,ns,A,n,c,h1,h2,⟨g 0 _ rfl,g 1 _ rfl,g 2 _ rfl,g 3 _ rfl,g 4 _ rfl,g 5 _ rfl,g 6 _ rfl,g 7 _ rfl⟩,h5⟩
theorem or_at {A' :Option Addr} {l:List (Ex × Bool)} {j:Nat} {x:Ex × Bool} (h:RowIn w S A' 8 (l.map orDt) 0) (hx:l[j]?=some x):∃(b' o' :Nat) (k o vk vn:Int) (vs ns:ByteArray) (A:Option Addr) (n c:Nat) (b:Bool),A' =some ⟨b',o',none⟩∧S b' ∧(w.cell? ⟨b',o' +j*8,none⟩=some (.int .i64 k)∧w.cell? ⟨b',o' +j*8+1,none⟩=some (.int .i64 o)∧w.cell? ⟨b',o' +j*8+2,none⟩=some (.int .i64 vk)∧w.cell? ⟨b',o' +j*8+3,none⟩=some (.int .i64 vn)∧w.cell? ⟨b',o' +j*8+4,none⟩=some (.string vs)∧w.cell? ⟨b',o' +j*8+5,none⟩=some (.string ns)∧w.cell? ⟨b',o' +j*8+6,none⟩=some (.slice A n c)∧w.cell? ⟨b',o' +j*8+7,none⟩=some (.bool b))∧DtIn w S (orDt x) [.int .i64 k, .int .i64 o, .int .i64 vk, .int .i64 vn, .string vs, .string ns, .slice A n c, .bool b]:=by
 obtain ⟨b',o',cs,h1,h2,h3,h4,h5⟩:=RowIn.get h (show (l.map orDt)[j]?=some (orDt x) by rw [List.getElem?_map,hx];rfl)
 obtain ⟨k,o,vk,vn,vs,ns,A,n,c,b,rfl⟩:=or_form h5
 have e:∀i,o' +(0+j)*8+i=o' +j*8+i:=fun i=>by omega
 have g:∀(i:Nat) (u:Value), [.int .i64 k, .int .i64 o, .int .i64 vk, .int .i64 vn, .string vs, .string ns, .slice A n c, .bool b][i]?=some u→w.cell? ⟨b',o' +j*8+i,none⟩=some u:=fun i u hu=>by have:=h4 i u hu;rwa [e] at this
 exact ⟨b',o',k,o,vk,vn,vs,ns,A,n,c,b,h1,h2,⟨g 0 _ rfl,g 1 _ rfl,g 2 _ rfl,g 3 _ rfl,g 4 _ rfl,g 5 _ rfl,g 6 _ rfl,g 7 _ rfl⟩,h5⟩
end
set_option maxHeartbeats 4000000 in
theorem eqCons_any (l:List (Cn)) (ih:∀x∈l,SameW 63 cnDt x) (m:List (Cn)) (A C:Option Addr) (ca cc:Nat) (w:World) (hmx:l.length≤maxLen) (h1:RowIn w (fun b=>b<w.heap.size) A 12 (l.map cnDt) 0) (h2:RowIn w (fun b=>b<w.heap.size) C 12 (m.map cnDt) 0):
    Calls Tryz.prog 62 #[.slice A l.length ca, .slice C m.length cc, .func (.func 63) #[] #[]] w fun e w' =>e= .returned (.bool (eqB l m))∧Below w.heap.size w w' :=by
  unfold maxLen at hmx
  obtain ⟨n,hn⟩:∃n,l.length=n:=⟨_,rfl⟩
  obtain ⟨n',hn'⟩:∃n,m.length=n:=⟨_,rfl⟩
  rw [hn] at hmx
  rw [hn,hn']
  by_cases hnn:n=n'
  case neg=>
    have t:((n:Int) !=(n' :Int))=true:=bne_yes (by omega)
    have HL:=Lib.hid (eqB_no (a:=l) (b:=m) (fun e=>hnn (by rw [←hn,e,hn'])))
    clear ih h1 h2 hn hn' hnn
    go_enter Tryz.func62,Tryz.ntmps62
    go_wp2
    go_ret
    exact ⟨rb HL.out.symm,Below.refl _ _⟩
  subst hnn
  have t:((n:Int) !=(n:Int))=false:=by simp
  have HK:=Lib.hid h1
  have HM:=Lib.hid h2
  have HN:=Lib.hid hn
  have HN2:=Lib.hid hn'
  have HI:=Lib.hid ih
  clear ih h1 h2 hn hn'
  go_enter Tryz.func62,Tryz.ntmps62
  go_wp2
  go_loopw [17] (fun i wr=>∃j:Nat,j≤n∧i= .int .i64 (j:Int)∧Hid (l.take j=m.take j)∧Hid (Below w.heap.size w wr)) (fun i _=>n+1 - (intOf i).toNat)
  case atStart=>exact ⟨0,Nat.zero_le _,rfl,Lib.hid (by rw [List.take_zero,List.take_zero]),Lib.hid (Below.refl _ _)⟩
  case round=>
    obtain ⟨j,hj,rfl,HL,HB⟩:=hrel
    by_cases hlt:j<n
    · obtain ⟨x,hx⟩:=some_at HN.out hlt
      obtain ⟨y,hy⟩:=some_at HN2.out hlt
      have hxm:=HI.out x (List.mem_of_getElem? hx)
      obtain ⟨bX,zX,nmu,kdu,Pu,pnu,pcu,ku,ou,vku,vnu,vsu,nsu,Au,nu,cu,tbu,Qu,qnu,qcu,rfl,hbX,⟨c0,c1,c2,c3,c4,c5,c6,c7,c8,c9,c10,c11⟩,hinx⟩:=cn_at HK.out hx
      obtain ⟨bY,zY,nmv,kdv,Pv,pnv,pcv,kv,ov,vkv,vnv,vsv,nsv,Av,nv,cv,tbv,Qv,qnv,qcv,rfl,hbY,⟨d0,d1,d2,d3,d4,d5,d6,d7,d8,d9,d10,d11⟩,hiny⟩:=cn_at HM.out hy
      obtain ⟨q,hq⟩:∃q,eqB x y=q:=⟨_,rfl⟩
      have HI2:=Lib.hid (show ∀W,Below wr.heap.size wr W→Calls Tryz.prog 63 #[.agg #[.string nmu, .int .i64 kdu, .slice Pu pnu pcu, .int .i64 ku, .int .i64 ou, .int .i64 vku, .int .i64 vnu, .string vsu, .string nsu, .slice Au nu cu, .string tbu, .slice Qu qnu qcu], .agg #[.string nmv, .int .i64 kdv, .slice Pv pnv pcv, .int .i64 kv, .int .i64 ov, .int .i64 vkv, .int .i64 vnv, .string vsv, .string nsv, .slice Av nv cv, .string tbv, .slice Qv qnv qcv]] W fun e w' =>e= .returned (.bool q)∧Below W.heap.size W w' from fun W hW=>by
        rw [←hq]
        exact hxm y [.string nmu, .int .i64 kdu, .slice Pu pnu pcu, .int .i64 ku, .int .i64 ou, .int .i64 vku, .int .i64 vnu, .string vsu, .string nsu, .slice Au nu cu, .string tbu, .slice Qu qnu qcu] [.string nmv, .int .i64 kdv, .slice Pv pnv pcv, .int .i64 kv, .int .i64 ov, .int .i64 vkv, .int .i64 vnv, .string vsv, .string nsv, .slice Av nv cv, .string tbv, .slice Qv qnv qcv] W (DtIn.on hinx (Mem.on HB.out hW)) (DtIn.on hiny (Mem.on HB.out hW)))
      have HTK:=Lib.hid (show q=true→l.take (j+1)=m.take (j+1) from fun e=>by
        have hxy:x=y:=eqB_iff.1 (hq.trans e)
        exact take_on hx (hxy▸hy) HL.out)
      have HFF:=Lib.hid (show q=false→eqB l m=false from fun e=>eqB_no (ne_at hx hy (fun g=>by rw [eqB_yes g] at hq;rw [e] at hq;cases hq)))
      obtain ⟨W1,hW1⟩:∃W1,wr.alloc (.cells #[.string nmu, .int .i64 kdu, .slice Pu pnu pcu, .int .i64 ku, .int .i64 ou, .int .i64 vku, .int .i64 vnu, .string vsu, .string nsu, .slice Au nu cu, .string tbu, .slice Qu qnu qcu] 56)=W1:=⟨_,rfl⟩
      obtain ⟨W2,hW2⟩:∃W2,W1.alloc (.cells #[.string nmv, .int .i64 kdv, .slice Pv pnv pcv, .int .i64 kv, .int .i64 ov, .int .i64 vkv, .int .i64 vnv, .string vsv, .string nsv, .slice Av nv cv, .string tbv, .slice Qv qnv qcv] 56)=W2:=⟨_,rfl⟩
      have hb1w:Below wr.heap.size wr W1:=by rw [←hW1];exact al (Below.refl _ _) _
      have hb2w:Below wr.heap.size wr W2:=by rw [←hW2];exact al hb1w _
      have hsz:W1.heap.size=wr.heap.size+1:=by rw [←hW1];simp
      have HW2:=Lib.hid (Mem.on HB.out hb2w)
      have HY2:=Lib.hid hb2w
      have c0:=(HB.out.cell (p:=⟨bX,zX+j*12,none⟩) hbX).trans c0
      have c1:=(HB.out.cell (p:=⟨bX,zX+j*12+1,none⟩) hbX).trans c1
      have c2:=(HB.out.cell (p:=⟨bX,zX+j*12+2,none⟩) hbX).trans c2
      have c3:=(HB.out.cell (p:=⟨bX,zX+j*12+3,none⟩) hbX).trans c3
      have c4:=(HB.out.cell (p:=⟨bX,zX+j*12+4,none⟩) hbX).trans c4
      have c5:=(HB.out.cell (p:=⟨bX,zX+j*12+5,none⟩) hbX).trans c5
      have c6:=(HB.out.cell (p:=⟨bX,zX+j*12+6,none⟩) hbX).trans c6
      have c7:=(HB.out.cell (p:=⟨bX,zX+j*12+7,none⟩) hbX).trans c7
      have c8:=(HB.out.cell (p:=⟨bX,zX+j*12+8,none⟩) hbX).trans c8
      have c9:=(HB.out.cell (p:=⟨bX,zX+j*12+9,none⟩) hbX).trans c9
      have c10:=(HB.out.cell (p:=⟨bX,zX+j*12+10,none⟩) hbX).trans c10
      have c11:=(HB.out.cell (p:=⟨bX,zX+j*12+11,none⟩) hbX).trans c11
      have d0:=((Mem.on HB.out hb1w).cell (p:=⟨bY,zY+j*12,none⟩) hbY).trans d0
      have d1:=((Mem.on HB.out hb1w).cell (p:=⟨bY,zY+j*12+1,none⟩) hbY).trans d1
      have d2:=((Mem.on HB.out hb1w).cell (p:=⟨bY,zY+j*12+2,none⟩) hbY).trans d2
      have d3:=((Mem.on HB.out hb1w).cell (p:=⟨bY,zY+j*12+3,none⟩) hbY).trans d3
      have d4:=((Mem.on HB.out hb1w).cell (p:=⟨bY,zY+j*12+4,none⟩) hbY).trans d4
      have d5:=((Mem.on HB.out hb1w).cell (p:=⟨bY,zY+j*12+5,none⟩) hbY).trans d5
      have d6:=((Mem.on HB.out hb1w).cell (p:=⟨bY,zY+j*12+6,none⟩) hbY).trans d6
      have d7:=((Mem.on HB.out hb1w).cell (p:=⟨bY,zY+j*12+7,none⟩) hbY).trans d7
      have d8:=((Mem.on HB.out hb1w).cell (p:=⟨bY,zY+j*12+8,none⟩) hbY).trans d8
      have d9:=((Mem.on HB.out hb1w).cell (p:=⟨bY,zY+j*12+9,none⟩) hbY).trans d9
      have d10:=((Mem.on HB.out hb1w).cell (p:=⟨bY,zY+j*12+10,none⟩) hbY).trans d10
      have d11:=((Mem.on HB.out hb1w).cell (p:=⟨bY,zY+j*12+11,none⟩) hbY).trans d11
      have x1:Cel W2 wr.heap.size 56 #[.string nmu, .int .i64 kdu, .slice Pu pnu pcu, .int .i64 ku, .int .i64 ou, .int .i64 vku, .int .i64 vnu, .string vsu, .string nsu, .slice Au nu cu, .string tbu, .slice Qu qnu qcu]:=by rw [←hW2,←hW1];exact (Cel.new wr _ _ rfl).alloc _
      have x2:Cel W2 W1.heap.size 56 #[.string nmv, .int .i64 kdv, .slice Pv pnv pcv, .int .i64 kv, .int .i64 ov, .int .i64 vkv, .int .i64 vnv, .string vsv, .string nsv, .slice Av nv cv, .string tbv, .slice Qv qnv qcv]:=by rw [←hW2];exact Cel.new W1 _ _ rfl
      have y0:=x1.at_ 0
      have z0:=x2.at_ 0
      have y1:=x1.at_ 1
      have z1:=x2.at_ 1
      have y2:=x1.at_ 2
      have z2:=x2.at_ 2
      have y3:=x1.at_ 3
      have z3:=x2.at_ 3
      have y4:=x1.at_ 4
      have z4:=x2.at_ 4
      have y5:=x1.at_ 5
      have z5:=x2.at_ 5
      have y6:=x1.at_ 6
      have z6:=x2.at_ 6
      have y7:=x1.at_ 7
      have z7:=x2.at_ 7
      have y8:=x1.at_ 8
      have z8:=x2.at_ 8
      have y9:=x1.at_ 9
      have z9:=x2.at_ 9
      have y10:=x1.at_ 10
      have z10:=x2.at_ 10
      have y11:=x1.at_ 11
      have z11:=x2.at_ 11
      have tl:decide ((j:Int)<(n:Int))=true:=decide_eq_true (by omega)
      clear hinx hiny hx hy hxm hq x1 x2 hb1w hb2w hsz hbX hbY
      cases q with
      | true=>
        go_wp2_with (go_at_call 63;(with_reducible refine (HI2.out _ HY2.out).mono ?_);rintro e' w2 ⟨rfl,hb2⟩;have HB2:=Lib.hid (Mem.on HW2.out hb2);clear hb2)
        go_roundw
        case rel=>exact ⟨j+1,by omega,by go_num,Lib.hid (HTK.out (by first|rfl|trivial)),HB2⟩
        case measure=>simp [intOf];omega
      | false=>
        go_wp2_with (go_at_call 63;(with_reducible refine (HI2.out _ HY2.out).mono ?_);rintro e' w2 ⟨rfl,hb2⟩;have HB2:=Lib.hid (Mem.on HW2.out hb2);clear hb2)
        go_ret
        exact ⟨rb (HFF.out (by first|rfl|trivial)).symm,HB2.out⟩
    · have tl:decide ((j:Int)<(n:Int))=false:=decide_eq_false (by omega)
      obtain rfl:j=n:=by omega
      have HF:=Lib.hid (eqB_yes (take_all_eq HN.out HN2.out HL.out))
      go_wp2
      go_ret
      exact ⟨rb HF.out.symm,HB.out⟩
set_option maxHeartbeats 4000000 in
theorem eqRows_any (l:List (List Ex)) (ih:∀x∈l,SameW 66 exsDt x) (m:List (List Ex)) (A C:Option Addr) (ca cc:Nat) (w:World) (hmx:l.length≤maxLen) (h1:RowIn w (fun b=>b<w.heap.size) A 1 (l.map exsDt) 0) (h2:RowIn w (fun b=>b<w.heap.size) C 1 (m.map exsDt) 0):
    Calls Tryz.prog 65 #[.slice A l.length ca, .slice C m.length cc, .func (.func 66) #[] #[]] w fun e w' =>e= .returned (.bool (eqB l m))∧Below w.heap.size w w' :=by
  unfold maxLen at hmx
  obtain ⟨n,hn⟩:∃n,l.length=n:=⟨_,rfl⟩
  obtain ⟨n',hn'⟩:∃n,m.length=n:=⟨_,rfl⟩
  rw [hn] at hmx
  rw [hn,hn']
  by_cases hnn:n=n'
  case neg=>
    have t:((n:Int) !=(n' :Int))=true:=bne_yes (by omega)
    have HL:=Lib.hid (eqB_no (a:=l) (b:=m) (fun e=>hnn (by rw [←hn,e,hn'])))
    clear ih h1 h2 hn hn' hnn
    go_enter Tryz.func65,Tryz.ntmps65
    go_wp2
    go_ret
    exact ⟨rb HL.out.symm,Below.refl _ _⟩
  subst hnn
  have t:((n:Int) !=(n:Int))=false:=by simp
  have HK:=Lib.hid h1
  have HM:=Lib.hid h2
  have HN:=Lib.hid hn
  have HN2:=Lib.hid hn'
  have HI:=Lib.hid ih
  clear ih h1 h2 hn hn'
  go_enter Tryz.func65,Tryz.ntmps65
  go_wp2
  go_loopw [17] (fun i wr=>∃j:Nat,j≤n∧i= .int .i64 (j:Int)∧Hid (l.take j=m.take j)∧Hid (Below w.heap.size w wr)) (fun i _=>n+1 - (intOf i).toNat)
  case atStart=>exact ⟨0,Nat.zero_le _,rfl,Lib.hid (by rw [List.take_zero,List.take_zero]),Lib.hid (Below.refl _ _)⟩
  case round=>
    obtain ⟨j,hj,rfl,HL,HB⟩:=hrel
    by_cases hlt:j<n
    · obtain ⟨x,hx⟩:=some_at HN.out hlt
      obtain ⟨y,hy⟩:=some_at HN2.out hlt
      have hxm:=HI.out x (List.mem_of_getElem? hx)
      obtain ⟨bX,zX,Au,nu,cu,rfl,hbX,c0,hinx⟩:=rw_at HK.out hx
      obtain ⟨bY,zY,Av,nv,cv,rfl,hbY,d0,hiny⟩:=rw_at HM.out hy
      obtain ⟨q,hq⟩:∃q,eqB x y=q:=⟨_,rfl⟩
      have HI2:=Lib.hid (show ∀W,Below wr.heap.size wr W→Calls Tryz.prog 66 #[.slice Au nu cu, .slice Av nv cv] W fun e w' =>e= .returned (.bool q)∧Below W.heap.size W w' from fun W hW=>by
        rw [←hq]
        exact hxm y [.slice Au nu cu] [.slice Av nv cv] W (DtIn.on hinx (Mem.on HB.out hW)) (DtIn.on hiny (Mem.on HB.out hW)))
      have HTK:=Lib.hid (show q=true→l.take (j+1)=m.take (j+1) from fun e=>by
        have hxy:x=y:=eqB_iff.1 (hq.trans e)
        exact take_on hx (hxy▸hy) HL.out)
      have HFF:=Lib.hid (show q=false→eqB l m=false from fun e=>eqB_no (ne_at hx hy (fun g=>by rw [eqB_yes g] at hq;rw [e] at hq;cases hq)))
      have hb1w:=Below.refl wr.heap.size wr
      have HW2:=HB
      have HY2:=Lib.hid hb1w
      have c0:=(HB.out.cell (p:=⟨bX,zX+j,none⟩) hbX).trans c0
      have d0:=((Mem.on HB.out hb1w).cell (p:=⟨bY,zY+j,none⟩) hbY).trans d0
      have tl:decide ((j:Int)<(n:Int))=true:=decide_eq_true (by omega)
      clear hinx hiny hx hy hxm hq hb1w hbX hbY
      cases q with
      | true=>
        go_wp2_with (go_at_call 66;(with_reducible refine (HI2.out _ HY2.out).mono ?_);rintro e' w2 ⟨rfl,hb2⟩;have HB2:=Lib.hid (Mem.on HW2.out hb2);clear hb2)
        go_roundw
        case rel=>exact ⟨j+1,by omega,by go_num,Lib.hid (HTK.out (by first|rfl|trivial)),HB2⟩
        case measure=>simp [intOf];omega
      | false=>
        go_wp2_with (go_at_call 66;(with_reducible refine (HI2.out _ HY2.out).mono ?_);rintro e' w2 ⟨rfl,hb2⟩;have HB2:=Lib.hid (Mem.on HW2.out hb2);clear hb2)
        go_ret
        exact ⟨rb (HFF.out (by first|rfl|trivial)).symm,HB2.out⟩
    · have tl:decide ((j:Int)<(n:Int))=false:=decide_eq_false (by omega)
      obtain rfl:j=n:=by omega
      have HF:=Lib.hid (eqB_yes (take_all_eq HN.out HN2.out HL.out))
      go_wp2
      go_ret
      exact ⟨rb HF.out.symm,HB.out⟩
set_option maxHeartbeats 4000000 in
theorem eqSets_any (l:List (Bs × Ex)) (ih:∀x∈l,SameW 68 seDt x) (m:List (Bs × Ex)) (A C:Option Addr) (ca cc:Nat) (w:World) (hmx:l.length≤maxLen) (h1:RowIn w (fun b=>b<w.heap.size) A 8 (l.map seDt) 0) (h2:RowIn w (fun b=>b<w.heap.size) C 8 (m.map seDt) 0):
    Calls Tryz.prog 67 #[.slice A l.length ca, .slice C m.length cc, .func (.func 68) #[] #[]] w fun e w' =>e= .returned (.bool (eqB l m))∧Below w.heap.size w w' :=by
  unfold maxLen at hmx
  obtain ⟨n,hn⟩:∃n,l.length=n:=⟨_,rfl⟩
  obtain ⟨n',hn'⟩:∃n,m.length=n:=⟨_,rfl⟩
  rw [hn] at hmx
  rw [hn,hn']
  by_cases hnn:n=n'
  case neg=>
    have t:((n:Int) !=(n' :Int))=true:=bne_yes (by omega)
    have HL:=Lib.hid (eqB_no (a:=l) (b:=m) (fun e=>hnn (by rw [←hn,e,hn'])))
    clear ih h1 h2 hn hn' hnn
    go_enter Tryz.func67,Tryz.ntmps67
    go_wp2
    go_ret
    exact ⟨rb HL.out.symm,Below.refl _ _⟩
  subst hnn
  have t:((n:Int) !=(n:Int))=false:=by simp
  have HK:=Lib.hid h1
  have HM:=Lib.hid h2
  have HN:=Lib.hid hn
  have HN2:=Lib.hid hn'
  have HI:=Lib.hid ih
  clear ih h1 h2 hn hn'
  go_enter Tryz.func67,Tryz.ntmps67
  go_wp2
  go_loopw [17] (fun i wr=>∃j:Nat,j≤n∧i= .int .i64 (j:Int)∧Hid (l.take j=m.take j)∧Hid (Below w.heap.size w wr)) (fun i _=>n+1 - (intOf i).toNat)
  case atStart=>exact ⟨0,Nat.zero_le _,rfl,Lib.hid (by rw [List.take_zero,List.take_zero]),Lib.hid (Below.refl _ _)⟩
  case round=>
    obtain ⟨j,hj,rfl,HL,HB⟩:=hrel
    by_cases hlt:j<n
    · obtain ⟨x,hx⟩:=some_at HN.out hlt
      obtain ⟨y,hy⟩:=some_at HN2.out hlt
      have hxm:=HI.out x (List.mem_of_getElem? hx)
      obtain ⟨bX,zX,nmu,ku,ou,vku,vnu,vsu,nsu,Au,nu,cu,rfl,hbX,⟨c0,c1,c2,c3,c4,c5,c6,c7⟩,hinx⟩:=se_at HK.out hx
      obtain ⟨bY,zY,nmv,kv,ov,vkv,vnv,vsv,nsv,Av,nv,cv,rfl,hbY,⟨d0,d1,d2,d3,d4,d5,d6,d7⟩,hiny⟩:=se_at HM.out hy
      obtain ⟨q,hq⟩:∃q,eqB x y=q:=⟨_,rfl⟩
      have HI2:=Lib.hid (show ∀W,Below wr.heap.size wr W→Calls Tryz.prog 68 #[.agg #[.string nmu, .int .i64 ku, .int .i64 ou, .int .i64 vku, .int .i64 vnu, .string vsu, .string nsu, .slice Au nu cu], .agg #[.string nmv, .int .i64 kv, .int .i64 ov, .int .i64 vkv, .int .i64 vnv, .string vsv, .string nsv, .slice Av nv cv]] W fun e w' =>e= .returned (.bool q)∧Below W.heap.size W w' from fun W hW=>by
        rw [←hq]
        exact hxm y [.string nmu, .int .i64 ku, .int .i64 ou, .int .i64 vku, .int .i64 vnu, .string vsu, .string nsu, .slice Au nu cu] [.string nmv, .int .i64 kv, .int .i64 ov, .int .i64 vkv, .int .i64 vnv, .string vsv, .string nsv, .slice Av nv cv] W (DtIn.on hinx (Mem.on HB.out hW)) (DtIn.on hiny (Mem.on HB.out hW)))
      have HTK:=Lib.hid (show q=true→l.take (j+1)=m.take (j+1) from fun e=>by
        have hxy:x=y:=eqB_iff.1 (hq.trans e)
        exact take_on hx (hxy▸hy) HL.out)
      have HFF:=Lib.hid (show q=false→eqB l m=false from fun e=>eqB_no (ne_at hx hy (fun g=>by rw [eqB_yes g] at hq;rw [e] at hq;cases hq)))
      obtain ⟨W1,hW1⟩:∃W1,wr.alloc (.cells #[.string nmu, .int .i64 ku, .int .i64 ou, .int .i64 vku, .int .i64 vnu, .string vsu, .string nsu, .slice Au nu cu] 58)=W1:=⟨_,rfl⟩
      obtain ⟨W2,hW2⟩:∃W2,W1.alloc (.cells #[.string nmv, .int .i64 kv, .int .i64 ov, .int .i64 vkv, .int .i64 vnv, .string vsv, .string nsv, .slice Av nv cv] 58)=W2:=⟨_,rfl⟩
      have hb1w:Below wr.heap.size wr W1:=by rw [←hW1];exact al (Below.refl _ _) _
      have hb2w:Below wr.heap.size wr W2:=by rw [←hW2];exact al hb1w _
      have hsz:W1.heap.size=wr.heap.size+1:=by rw [←hW1];simp
      have HW2:=Lib.hid (Mem.on HB.out hb2w)
      have HY2:=Lib.hid hb2w
      have c0:=(HB.out.cell (p:=⟨bX,zX+j*8,none⟩) hbX).trans c0
      have c1:=(HB.out.cell (p:=⟨bX,zX+j*8+1,none⟩) hbX).trans c1
      have c2:=(HB.out.cell (p:=⟨bX,zX+j*8+2,none⟩) hbX).trans c2
      have c3:=(HB.out.cell (p:=⟨bX,zX+j*8+3,none⟩) hbX).trans c3
      have c4:=(HB.out.cell (p:=⟨bX,zX+j*8+4,none⟩) hbX).trans c4
      have c5:=(HB.out.cell (p:=⟨bX,zX+j*8+5,none⟩) hbX).trans c5
      have c6:=(HB.out.cell (p:=⟨bX,zX+j*8+6,none⟩) hbX).trans c6
      have c7:=(HB.out.cell (p:=⟨bX,zX+j*8+7,none⟩) hbX).trans c7
      have d0:=((Mem.on HB.out hb1w).cell (p:=⟨bY,zY+j*8,none⟩) hbY).trans d0
      have d1:=((Mem.on HB.out hb1w).cell (p:=⟨bY,zY+j*8+1,none⟩) hbY).trans d1
      have d2:=((Mem.on HB.out hb1w).cell (p:=⟨bY,zY+j*8+2,none⟩) hbY).trans d2
      have d3:=((Mem.on HB.out hb1w).cell (p:=⟨bY,zY+j*8+3,none⟩) hbY).trans d3
      have d4:=((Mem.on HB.out hb1w).cell (p:=⟨bY,zY+j*8+4,none⟩) hbY).trans d4
      have d5:=((Mem.on HB.out hb1w).cell (p:=⟨bY,zY+j*8+5,none⟩) hbY).trans d5
      have d6:=((Mem.on HB.out hb1w).cell (p:=⟨bY,zY+j*8+6,none⟩) hbY).trans d6
      have d7:=((Mem.on HB.out hb1w).cell (p:=⟨bY,zY+j*8+7,none⟩) hbY).trans d7
      have x1:Cel W2 wr.heap.size 58 #[.string nmu, .int .i64 ku, .int .i64 ou, .int .i64 vku, .int .i64 vnu, .string vsu, .string nsu, .slice Au nu cu]:=by rw [←hW2,←hW1];exact (Cel.new wr _ _ rfl).alloc _
      have x2:Cel W2 W1.heap.size 58 #[.string nmv, .int .i64 kv, .int .i64 ov, .int .i64 vkv, .int .i64 vnv, .string vsv, .string nsv, .slice Av nv cv]:=by rw [←hW2];exact Cel.new W1 _ _ rfl
      have y0:=x1.at_ 0
      have z0:=x2.at_ 0
      have y1:=x1.at_ 1
      have z1:=x2.at_ 1
      have y2:=x1.at_ 2
      have z2:=x2.at_ 2
      have y3:=x1.at_ 3
      have z3:=x2.at_ 3
      have y4:=x1.at_ 4
      have z4:=x2.at_ 4
      have y5:=x1.at_ 5
      have z5:=x2.at_ 5
      have y6:=x1.at_ 6
      have z6:=x2.at_ 6
      have y7:=x1.at_ 7
      have z7:=x2.at_ 7
      have tl:decide ((j:Int)<(n:Int))=true:=decide_eq_true (by omega)
      clear hinx hiny hx hy hxm hq x1 x2 hb1w hb2w hsz hbX hbY
      cases q with
      | true=>
        go_wp2_with (go_at_call 68;(with_reducible refine (HI2.out _ HY2.out).mono ?_);rintro e' w2 ⟨rfl,hb2⟩;have HB2:=Lib.hid (Mem.on HW2.out hb2);clear hb2)
        go_roundw
        case rel=>exact ⟨j+1,by omega,by go_num,Lib.hid (HTK.out (by first|rfl|trivial)),HB2⟩
        case measure=>simp [intOf];omega
      | false=>
        go_wp2_with (go_at_call 68;(with_reducible refine (HI2.out _ HY2.out).mono ?_);rintro e' w2 ⟨rfl,hb2⟩;have HB2:=Lib.hid (Mem.on HW2.out hb2);clear hb2)
        go_ret
        exact ⟨rb (HFF.out (by first|rfl|trivial)).symm,HB2.out⟩
    · have tl:decide ((j:Int)<(n:Int))=false:=decide_eq_false (by omega)
      obtain rfl:j=n:=by omega
      have HF:=Lib.hid (eqB_yes (take_all_eq HN.out HN2.out HL.out))
      go_wp2
      go_ret
      exact ⟨rb HF.out.symm,HB.out⟩
set_option maxHeartbeats 4000000 in
theorem eqOrds_any (l:List (Ex × Bool)) (ih:∀x∈l,SameW 70 orDt x) (m:List (Ex × Bool)) (A C:Option Addr) (ca cc:Nat) (w:World) (hmx:l.length≤maxLen) (h1:RowIn w (fun b=>b<w.heap.size) A 8 (l.map orDt) 0) (h2:RowIn w (fun b=>b<w.heap.size) C 8 (m.map orDt) 0):
    Calls Tryz.prog 69 #[.slice A l.length ca, .slice C m.length cc, .func (.func 70) #[] #[]] w fun e w' =>e= .returned (.bool (eqB l m))∧Below w.heap.size w w' :=by
  unfold maxLen at hmx
  obtain ⟨n,hn⟩:∃n,l.length=n:=⟨_,rfl⟩
  obtain ⟨n',hn'⟩:∃n,m.length=n:=⟨_,rfl⟩
  rw [hn] at hmx
  rw [hn,hn']
  by_cases hnn:n=n'
  case neg=>
    have t:((n:Int) !=(n' :Int))=true:=bne_yes (by omega)
    have HL:=Lib.hid (eqB_no (a:=l) (b:=m) (fun e=>hnn (by rw [←hn,e,hn'])))
    clear ih h1 h2 hn hn' hnn
    go_enter Tryz.func69,Tryz.ntmps69
    go_wp2
    go_ret
    exact ⟨rb HL.out.symm,Below.refl _ _⟩
  subst hnn
  have t:((n:Int) !=(n:Int))=false:=by simp
  have HK:=Lib.hid h1
  have HM:=Lib.hid h2
  have HN:=Lib.hid hn
  have HN2:=Lib.hid hn'
  have HI:=Lib.hid ih
  clear ih h1 h2 hn hn'
  go_enter Tryz.func69,Tryz.ntmps69
  go_wp2
  go_loopw [17] (fun i wr=>∃j:Nat,j≤n∧i= .int .i64 (j:Int)∧Hid (l.take j=m.take j)∧Hid (Below w.heap.size w wr)) (fun i _=>n+1 - (intOf i).toNat)
  case atStart=>exact ⟨0,Nat.zero_le _,rfl,Lib.hid (by rw [List.take_zero,List.take_zero]),Lib.hid (Below.refl _ _)⟩
  case round=>
    obtain ⟨j,hj,rfl,HL,HB⟩:=hrel
    by_cases hlt:j<n
    · obtain ⟨x,hx⟩:=some_at HN.out hlt
      obtain ⟨y,hy⟩:=some_at HN2.out hlt
      have hxm:=HI.out x (List.mem_of_getElem? hx)
      obtain ⟨bX,zX,ku,ou,vku,vnu,vsu,nsu,Au,nu,cu,bu,rfl,hbX,⟨c0,c1,c2,c3,c4,c5,c6,c7⟩,hinx⟩:=or_at HK.out hx
      obtain ⟨bY,zY,kv,ov,vkv,vnv,vsv,nsv,Av,nv,cv,bv,rfl,hbY,⟨d0,d1,d2,d3,d4,d5,d6,d7⟩,hiny⟩:=or_at HM.out hy
      obtain ⟨q,hq⟩:∃q,eqB x y=q:=⟨_,rfl⟩
      have HI2:=Lib.hid (show ∀W,Below wr.heap.size wr W→Calls Tryz.prog 70 #[.agg #[.int .i64 ku, .int .i64 ou, .int .i64 vku, .int .i64 vnu, .string vsu, .string nsu, .slice Au nu cu, .bool bu], .agg #[.int .i64 kv, .int .i64 ov, .int .i64 vkv, .int .i64 vnv, .string vsv, .string nsv, .slice Av nv cv, .bool bv]] W fun e w' =>e= .returned (.bool q)∧Below W.heap.size W w' from fun W hW=>by
        rw [←hq]
        exact hxm y [.int .i64 ku, .int .i64 ou, .int .i64 vku, .int .i64 vnu, .string vsu, .string nsu, .slice Au nu cu, .bool bu] [.int .i64 kv, .int .i64 ov, .int .i64 vkv, .int .i64 vnv, .string vsv, .string nsv, .slice Av nv cv, .bool bv] W (DtIn.on hinx (Mem.on HB.out hW)) (DtIn.on hiny (Mem.on HB.out hW)))
      have HTK:=Lib.hid (show q=true→l.take (j+1)=m.take (j+1) from fun e=>by
        have hxy:x=y:=eqB_iff.1 (hq.trans e)
        exact take_on hx (hxy▸hy) HL.out)
      have HFF:=Lib.hid (show q=false→eqB l m=false from fun e=>eqB_no (ne_at hx hy (fun g=>by rw [eqB_yes g] at hq;rw [e] at hq;cases hq)))
      obtain ⟨W1,hW1⟩:∃W1,wr.alloc (.cells #[.int .i64 ku, .int .i64 ou, .int .i64 vku, .int .i64 vnu, .string vsu, .string nsu, .slice Au nu cu, .bool bu] 60)=W1:=⟨_,rfl⟩
      obtain ⟨W2,hW2⟩:∃W2,W1.alloc (.cells #[.int .i64 kv, .int .i64 ov, .int .i64 vkv, .int .i64 vnv, .string vsv, .string nsv, .slice Av nv cv, .bool bv] 60)=W2:=⟨_,rfl⟩
      have hb1w:Below wr.heap.size wr W1:=by rw [←hW1];exact al (Below.refl _ _) _
      have hb2w:Below wr.heap.size wr W2:=by rw [←hW2];exact al hb1w _
      have hsz:W1.heap.size=wr.heap.size+1:=by rw [←hW1];simp
      have HW2:=Lib.hid (Mem.on HB.out hb2w)
      have HY2:=Lib.hid hb2w
      have c0:=(HB.out.cell (p:=⟨bX,zX+j*8,none⟩) hbX).trans c0
      have c1:=(HB.out.cell (p:=⟨bX,zX+j*8+1,none⟩) hbX).trans c1
      have c2:=(HB.out.cell (p:=⟨bX,zX+j*8+2,none⟩) hbX).trans c2
      have c3:=(HB.out.cell (p:=⟨bX,zX+j*8+3,none⟩) hbX).trans c3
      have c4:=(HB.out.cell (p:=⟨bX,zX+j*8+4,none⟩) hbX).trans c4
      have c5:=(HB.out.cell (p:=⟨bX,zX+j*8+5,none⟩) hbX).trans c5
      have c6:=(HB.out.cell (p:=⟨bX,zX+j*8+6,none⟩) hbX).trans c6
      have c7:=(HB.out.cell (p:=⟨bX,zX+j*8+7,none⟩) hbX).trans c7
      have d0:=((Mem.on HB.out hb1w).cell (p:=⟨bY,zY+j*8,none⟩) hbY).trans d0
      have d1:=((Mem.on HB.out hb1w).cell (p:=⟨bY,zY+j*8+1,none⟩) hbY).trans d1
      have d2:=((Mem.on HB.out hb1w).cell (p:=⟨bY,zY+j*8+2,none⟩) hbY).trans d2
      have d3:=((Mem.on HB.out hb1w).cell (p:=⟨bY,zY+j*8+3,none⟩) hbY).trans d3
      have d4:=((Mem.on HB.out hb1w).cell (p:=⟨bY,zY+j*8+4,none⟩) hbY).trans d4
      have d5:=((Mem.on HB.out hb1w).cell (p:=⟨bY,zY+j*8+5,none⟩) hbY).trans d5
      have d6:=((Mem.on HB.out hb1w).cell (p:=⟨bY,zY+j*8+6,none⟩) hbY).trans d6
      have d7:=((Mem.on HB.out hb1w).cell (p:=⟨bY,zY+j*8+7,none⟩) hbY).trans d7
      have x1:Cel W2 wr.heap.size 60 #[.int .i64 ku, .int .i64 ou, .int .i64 vku, .int .i64 vnu, .string vsu, .string nsu, .slice Au nu cu, .bool bu]:=by rw [←hW2,←hW1];exact (Cel.new wr _ _ rfl).alloc _
      have x2:Cel W2 W1.heap.size 60 #[.int .i64 kv, .int .i64 ov, .int .i64 vkv, .int .i64 vnv, .string vsv, .string nsv, .slice Av nv cv, .bool bv]:=by rw [←hW2];exact Cel.new W1 _ _ rfl
      have y0:=x1.at_ 0
      have z0:=x2.at_ 0
      have y1:=x1.at_ 1
      have z1:=x2.at_ 1
      have y2:=x1.at_ 2
      have z2:=x2.at_ 2
      have y3:=x1.at_ 3
      have z3:=x2.at_ 3
      have y4:=x1.at_ 4
      have z4:=x2.at_ 4
      have y5:=x1.at_ 5
      have z5:=x2.at_ 5
      have y6:=x1.at_ 6
      have z6:=x2.at_ 6
      have y7:=x1.at_ 7
      have z7:=x2.at_ 7
      have tl:decide ((j:Int)<(n:Int))=true:=decide_eq_true (by omega)
      clear hinx hiny hx hy hxm hq x1 x2 hb1w hb2w hsz hbX hbY
      cases q with
      | true=>
        go_wp2_with (go_at_call 70;(with_reducible refine (HI2.out _ HY2.out).mono ?_);rintro e' w2 ⟨rfl,hb2⟩;have HB2:=Lib.hid (Mem.on HW2.out hb2);clear hb2)
        go_roundw
        case rel=>exact ⟨j+1,by omega,by go_num,Lib.hid (HTK.out (by first|rfl|trivial)),HB2⟩
        case measure=>simp [intOf];omega
      | false=>
        go_wp2_with (go_at_call 70;(with_reducible refine (HI2.out _ HY2.out).mono ?_);rintro e' w2 ⟨rfl,hb2⟩;have HB2:=Lib.hid (Mem.on HW2.out hb2);clear hb2)
        go_ret
        exact ⟨rb (HFF.out (by first|rfl|trivial)).symm,HB2.out⟩
    · have tl:decide ((j:Int)<(n:Int))=false:=decide_eq_false (by omega)
      obtain rfl:j=n:=by omega
      have HF:=Lib.hid (eqB_yes (take_all_eq HN.out HN2.out HL.out))
      go_wp2
      go_ret
      exact ⟨rb HF.out.symm,HB.out⟩
end Go.Proofs.YtiaomhdmllhmmaaGreatDoor.Sm
