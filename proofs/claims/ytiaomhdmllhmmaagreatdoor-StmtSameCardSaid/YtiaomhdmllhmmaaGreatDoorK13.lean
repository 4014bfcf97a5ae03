/- Two things are one: a word for it; lists of texts and of columns, in the program's and in  -/
import Derived.Test.YtiaomhdmllhmmaaGreatDoorK10
import Derived.Test.YtiaomhdmllhmmaaGreatDoorK12
namespace Go.Proofs.YtiaomhdmllhmmaaGreatDoor.Sm
open Go.RowKit Mem Ep Right Go.ChangeShapes Go.WideShapes
set_option linter.unusedVariables false
noncomputable def eqB {α:Type} (a b:α):Bool:= @decide (a=b) (Classical.propDecidable _)
section
variable {α β:Type} {a b:α}
theorem eqB_iff:eqB a b=true↔a=b:=by unfold eqB;exact @decide_eq_true_iff _ (Classical.propDecidable _)
theorem eqB_yes (h:a=b):eqB a b=true:=eqB_iff.2 h
theorem eqB_no (h:a≠b):eqB a b=false:=by
 cases e:eqB a b with
 |false=>rfl
 |true=>exact absurd (eqB_iff.1 e) h
theorem eqB_of {p:Bool} (h:p=true↔a=b):p=eqB a b:=by
 cases p with
 |true=>exact (eqB_yes (h.1 rfl)).symm
 |false=>exact (eqB_no fun e=>by have:=h.2 e;cases this).symm
theorem take_all_eq {l m:List α} {n:Nat} (hl:l.length=n) (hm:m.length=n) (h:l.take n=m.take n):l=m:=by
 rwa [←hl,List.take_length,hl,←hm,List.take_length] at h
theorem take_on {l m:List α} {j:Nat} {x:α} (hx:l[j]?=some x) (hy:m[j]?=some x) (h:l.take j=m.take j):l.take (j+1)=m.take (j+1):=by
 rw [List.take_add_one,List.take_add_one,hx,hy,h]
theorem ne_at {l m:List α} {j:Nat} {x y:α} (hx:l[j]?=some x) (hy:m[j]?=some y) (h:x≠y):l≠m:=fun e=>h (by rw [e,hy] at hx;exact (Option.some.inj hx).symm)
theorem some_at {l:List α} {j n:Nat} (hl:l.length=n) (h:j<n):∃x,l[j]?=some x:=⟨l[j]'(by omega),List.getElem?_eq_getElem (by omega)⟩
end
def SameD {α:Type} (f:FuncId) (d:α→Dt) (x:α):Prop:=∀(y:α) (cs ds:List Value) (w:World),DtIn w (fun b=>b<w.heap.size) (d x) cs→DtIn w (fun b=>b<w.heap.size) (d y) ds→
 Calls Tryz.prog f #[.agg cs.toArray, .agg ds.toArray] w fun e w' =>e= .returned (.bool (eqB x y))∧Below w.heap.size w w'
theorem same_ex (x:Ex):SameD 40 exDt x:=fun y cs ds w h1 h2=>by
 have:=same_any x y cs ds w h1 h2
 rwa [eqB_of (sameB_iff (a:=x) (b:=y))] at this
theorem same_ex10 (x:Ex):SameD 24 exDt x:=fun y cs ds w h1 h2=>by
 have:=refSame_any x y cs ds w h1 h2
 rwa [eqB_of (sameB_iff (a:=x) (b:=y))] at this
theorem s_at {w:World} {S:Nat→Prop} {A:Option Addr} {l:List Bs} {j:Nat} {x:Bs} (h:RowIn w S A 1 (l.map sDt) 0) (hx:l[j]?=some x):∃b o,A=some ⟨b,o,none⟩∧S b∧w.cell? ⟨b,o+j,none⟩=some (.string (txt x)):=by
 obtain ⟨b,o,cs,h1,h2,h3,h4,h5⟩:=RowIn.get h (show (l.map sDt)[j]?=some (sDt x) by rw [List.getElem?_map,hx];rfl)
 rw [s_in] at h5
 subst h5
 have:=h4 0 _ rfl
 rw [show o+(0+j)*1+0=o+j by omega] at this
 exact ⟨b,o,h1,h2,this⟩
theorem co_at {w:World} {S:Nat→Prop} {A:Option Addr} {l:List Co} {j:Nat} {x:Co} (h:RowIn w S A 3 (l.map coDt) 0) (hx:l[j]?=some x):
   ∃b o,A=some ⟨b,o,none⟩∧S b∧w.cell? ⟨b,o+j*3,none⟩=some (.string (txt x.nm))∧w.cell? ⟨b,o+j*3+1,none⟩=some (.int .i64 x.ty)∧w.cell? ⟨b,o+j*3+2,none⟩=some (.bool x.nn):=by
 obtain ⟨b,o,cs,h1,h2,h3,h4,h5⟩:=RowIn.get h (show (l.map coDt)[j]?=some (coDt x) by rw [List.getElem?_map,hx];rfl)
 rw [co_in] at h5
 subst h5
 have e:∀i,o+(0+j)*3+i=o+j*3+i:=fun i=>by omega
 exact ⟨b,o,h1,h2,by have:=h4 0 _ rfl;rwa [e] at this,by have:=h4 1 _ rfl;rwa [e] at this,by have:=h4 2 _ rfl;rwa [e] at this⟩
set_option maxHeartbeats 2000000 in
theorem equalS_any (l m:List Bs) (A C:Option Addr) (ca cc:Nat) (w:World) (hmx:l.length≤maxLen) (h1:RowIn w (fun b=>b<w.heap.size) A 1 (l.map sDt) 0) (h2:RowIn w (fun b=>b<w.heap.size) C 1 (m.map sDt) 0):
    Calls Tryz.prog 64 #[.slice A l.length ca, .slice C m.length cc] w fun e w' =>e= .returned (.bool (eqB l m))∧Below w.heap.size w w' :=by
  unfold maxLen at hmx
  obtain ⟨n,hn⟩:∃n,l.length=n:=⟨_,rfl⟩
  obtain ⟨n',hn'⟩:∃n,m.length=n:=⟨_,rfl⟩
  rw [hn] at hmx
  rw [hn,hn']
  by_cases hnn:n=n'
  case neg=>
    have t:((n:Int) !=(n' :Int))=true:=bne_yes (by omega)
    have HL:=Lib.hid (eqB_no (a:=l) (b:=m) (fun e=>hnn (by rw [←hn,e,hn'])))
    clear h1 h2 hn hn' hnn
    go_enter Tryz.func64,Tryz.ntmps64
    go_wp2
    go_ret
    exact ⟨rb HL.out.symm,Below.refl _ _⟩
  subst hnn
  have t:((n:Int) !=(n:Int))=false:=by simp
  have HK:=Lib.hid h1
  have HM:=Lib.hid h2
  have HN:=Lib.hid hn
  have HN2:=Lib.hid hn'
  clear h1 h2 hn hn'
  go_enter Tryz.func64,Tryz.ntmps64
  go_wp2
  go_loopw [13] (fun i wr=>∃j:Nat,j≤n∧i= .int .i64 (j:Int)∧Hid (l.take j=m.take j)∧Hid (Below w.heap.size w wr)) (fun i _=>n+1 - (intOf i).toNat)
  case atStart=>exact ⟨0,Nat.zero_le _,rfl,Lib.hid (by rw [List.take_zero,List.take_zero]),Lib.hid (Below.refl _ _)⟩
  case round=>
    obtain ⟨j,hj,rfl,HL,HB⟩:=hrel
    by_cases hlt:j<n
    · obtain ⟨x,hx⟩:=some_at HN.out hlt
      obtain ⟨y,hy⟩:=some_at HN2.out hlt
      obtain ⟨b1,z1,rfl,hb1,c0⟩:=s_at HK.out hx
      obtain ⟨b2,z2,rfl,hb2,d0⟩:=s_at HM.out hy
      have c0:=(HB.out.cell (p:=⟨b1,z1+j,none⟩) hb1).trans c0
      have d0:=(HB.out.cell (p:=⟨b2,z2+j,none⟩) hb2).trans d0
      have tl:decide ((j:Int)<(n:Int))=true:=decide_eq_true (by omega)
      by_cases hxy:x=y
      · subst hxy
        have HT:=Lib.hid (take_on hx hy HL.out)
        clear hx hy hb1 hb2
        go_wp2
        go_region
        go_wp2
        go_roundw
        case rel=>exact ⟨j+1,by omega,by go_num,HT,Lib.hid HB.out.drew⟩
        case measure=>simp [intOf];omega
      · have HF:=Lib.hid (eqB_no (ne_at hx hy hxy))
        obtain ⟨t3,t4,t5⟩:=txt_ne hxy
        clear hx hy hb1 hb2 hxy
        go_wp2
        go_region
        go_wp2
        go_ret
        exact ⟨rb HF.out.symm,HB.out.drew⟩
    · have tl:decide ((j:Int)<(n:Int))=false:=decide_eq_false (by omega)
      obtain rfl:j=n:=by omega
      have HF:=Lib.hid (eqB_yes (take_all_eq HN.out HN2.out HL.out))
      go_wp2
      go_ret
      exact ⟨rb HF.out.symm,HB.out⟩
set_option maxHeartbeats 2000000 in
theorem sameTexts_any (l m:List Bs) (A C:Option Addr) (ca cc:Nat) (w:World) (hmx:l.length≤maxLen) (h1:RowIn w (fun b=>b<w.heap.size) A 1 (l.map sDt) 0) (h2:RowIn w (fun b=>b<w.heap.size) C 1 (m.map sDt) 0):
    Calls Tryz.prog 23 #[.slice A l.length ca, .slice C m.length cc] w fun e w' =>e= .returned (.bool (eqB l m))∧Below w.heap.size w w' :=by
  unfold maxLen at hmx
  obtain ⟨n,hn⟩:∃n,l.length=n:=⟨_,rfl⟩
  obtain ⟨n',hn'⟩:∃n,m.length=n:=⟨_,rfl⟩
  rw [hn] at hmx
  rw [hn,hn']
  by_cases hnn:n=n'
  case neg=>
    have t:((n:Int) !=(n' :Int))=true:=bne_yes (by omega)
    have HL:=Lib.hid (eqB_no (a:=l) (b:=m) (fun e=>hnn (by rw [←hn,e,hn'])))
    clear h1 h2 hn hn' hnn
    go_enter Tryz.func23,Tryz.ntmps23
    go_wp2
    go_ret
    exact ⟨rb HL.out.symm,Below.refl _ _⟩
  subst hnn
  have t:((n:Int) !=(n:Int))=false:=by simp
  have HK:=Lib.hid h1
  have HM:=Lib.hid h2
  have HN:=Lib.hid hn
  have HN2:=Lib.hid hn'
  clear h1 h2 hn hn'
  go_enter Tryz.func23,Tryz.ntmps23
  go_wp2
  go_loopw [5] (fun i wr=>∃j:Nat,j≤n∧i= .int .i64 (j:Int)∧Hid (l.take j=m.take j)∧Hid (Below w.heap.size w wr)) (fun i _=>n+1 - (intOf i).toNat)
  case atStart=>exact ⟨0,Nat.zero_le _,rfl,Lib.hid (by rw [List.take_zero,List.take_zero]),Lib.hid (Below.refl _ _)⟩
  case round=>
    obtain ⟨j,hj,rfl,HL,HB⟩:=hrel
    by_cases hlt:j<n
    · obtain ⟨x,hx⟩:=some_at HN.out hlt
      obtain ⟨y,hy⟩:=some_at HN2.out hlt
      obtain ⟨b1,z1,rfl,hb1,c0⟩:=s_at HK.out hx
      obtain ⟨b2,z2,rfl,hb2,d0⟩:=s_at HM.out hy
      have c0:=(HB.out.cell (p:=⟨b1,z1+j,none⟩) hb1).trans c0
      have d0:=(HB.out.cell (p:=⟨b2,z2+j,none⟩) hb2).trans d0
      have tl:decide ((j:Int)<(n:Int))=true:=decide_eq_true (by omega)
      by_cases hxy:x=y
      · subst hxy
        have HT:=Lib.hid (take_on hx hy HL.out)
        clear hx hy hb1 hb2
        go_wp2
        go_region
        go_wp2
        go_roundw
        case rel=>exact ⟨j+1,by omega,by go_num,HT,Lib.hid HB.out.drew⟩
        case measure=>simp [intOf];omega
      · have HF:=Lib.hid (eqB_no (ne_at hx hy hxy))
        obtain ⟨t3,t4,t5⟩:=txt_ne hxy
        clear hx hy hb1 hb2 hxy
        go_wp2
        go_region
        go_wp2
        go_ret
        exact ⟨rb HF.out.symm,HB.out.drew⟩
    · have tl:decide ((j:Int)<(n:Int))=false:=decide_eq_false (by omega)
      obtain rfl:j=n:=by omega
      have HF:=Lib.hid (eqB_yes (take_all_eq HN.out HN2.out HL.out))
      go_wp2
      go_ret
      exact ⟨rb HF.out.symm,HB.out⟩
set_option maxHeartbeats 2000000 in
theorem equalC_any (l m:List Co) (A C:Option Addr) (ca cc:Nat) (w:World) (hmx:l.length≤maxLen) (h1:RowIn w (fun b=>b<w.heap.size) A 3 (l.map coDt) 0) (h2:RowIn w (fun b=>b<w.heap.size) C 3 (m.map coDt) 0):
    Calls Tryz.prog 61 #[.slice A l.length ca, .slice C m.length cc] w fun e w' =>e= .returned (.bool (eqB l m))∧Below w.heap.size w w' :=by
  unfold maxLen at hmx
  obtain ⟨n,hn⟩:∃n,l.length=n:=⟨_,rfl⟩
  obtain ⟨n',hn'⟩:∃n,m.length=n:=⟨_,rfl⟩
  rw [hn] at hmx
  rw [hn,hn']
  by_cases hnn:n=n'
  case neg=>
    have t:((n:Int) !=(n' :Int))=true:=bne_yes (by omega)
    have HL:=Lib.hid (eqB_no (a:=l) (b:=m) (fun e=>hnn (by rw [←hn,e,hn'])))
    clear h1 h2 hn hn' hnn
    go_enter Tryz.func61,Tryz.ntmps61
    go_wp2
    go_ret
    exact ⟨rb HL.out.symm,Below.refl _ _⟩
  subst hnn
  have t:((n:Int) !=(n:Int))=false:=by simp
  have HK:=Lib.hid h1
  have HM:=Lib.hid h2
  have HN:=Lib.hid hn
  have HN2:=Lib.hid hn'
  clear h1 h2 hn hn'
  go_enter Tryz.func61,Tryz.ntmps61
  go_wp2
  go_loopw [13] (fun i wr=>∃j:Nat,j≤n∧i= .int .i64 (j:Int)∧Hid (l.take j=m.take j)∧Hid (Below w.heap.size w wr)) (fun i _=>n+1 - (intOf i).toNat)
  case atStart=>exact ⟨0,Nat.zero_le _,rfl,Lib.hid (by rw [List.take_zero,List.take_zero]),Lib.hid (Below.refl _ _)⟩
  case round=>
    obtain ⟨j,hj,rfl,HL,HB⟩:=hrel
    by_cases hlt:j<n
    · obtain ⟨x,hx⟩:=some_at HN.out hlt
      obtain ⟨y,hy⟩:=some_at HN2.out hlt
      obtain ⟨b1,z1,rfl,hb1,c0,c1,c2⟩:=co_at HK.out hx
      obtain ⟨b2,z2,rfl,hb2,d0,d1,d2⟩:=co_at HM.out hy
      have c0:=(HB.out.cell (p:=⟨b1,z1+j*3,none⟩) hb1).trans c0
      have c1:=(HB.out.cell (p:=⟨b1,z1+j*3+1,none⟩) hb1).trans c1
      have c2:=(HB.out.cell (p:=⟨b1,z1+j*3+2,none⟩) hb1).trans c2
      have d0:=(HB.out.cell (p:=⟨b2,z2+j*3,none⟩) hb2).trans d0
      have d1:=(HB.out.cell (p:=⟨b2,z2+j*3+1,none⟩) hb2).trans d1
      have d2:=(HB.out.cell (p:=⟨b2,z2+j*3+2,none⟩) hb2).trans d2
      have tl:decide ((j:Int)<(n:Int))=true:=decide_eq_true (by omega)
      obtain ⟨xn,xt,xb⟩:=x
      obtain ⟨yn,yt,yb⟩:=y
      by_cases hd:xn=yn
      case neg=>
        have HF:=Lib.hid (eqB_no (ne_at hx hy (fun e=>hd (by injection e))))
        obtain ⟨t3,t4,t5⟩:=txt_ne hd
        clear hx hy hb1 hb2 hd
        go_wp2
        go_region
        go_wp2
        go_ret
        exact ⟨rb HF.out.symm,HB.out.drew⟩
      subst hd
      by_cases hd:xt=yt
      case neg=>
        have HF:=Lib.hid (eqB_no (ne_at hx hy (fun e=>hd (by injection e))))
        have t3:¬xt=yt:=hd
        clear hx hy hb1 hb2
        go_wp2
        go_region
        go_wp2
        go_ret
        exact ⟨rb HF.out.symm,HB.out.drew⟩
      subst hd
      by_cases hd:xb=yb
      case neg=>
        have HF:=Lib.hid (eqB_no (ne_at hx hy (fun e=>hd (by injection e))))
        have t3:¬xb=yb:=hd
        clear hx hy hb1 hb2
        go_wp2
        go_region
        go_wp2
        go_ret
        exact ⟨rb HF.out.symm,HB.out.drew⟩
      subst hd
      have HT:=Lib.hid (take_on hx hy HL.out)
      clear hx hy hb1 hb2
      go_wp2
      go_region
      go_wp2
      go_roundw
      case rel=>exact ⟨j+1,by omega,by go_num,HT,Lib.hid HB.out.drew⟩
      case measure=>simp [intOf];omega
    · have tl:decide ((j:Int)<(n:Int))=false:=decide_eq_false (by omega)
      obtain rfl:j=n:=by omega
      have HF:=Lib.hid (eqB_yes (take_all_eq HN.out HN2.out HL.out))
      go_wp2
      go_ret
      exact ⟨rb HF.out.symm,HB.out⟩
end Go.Proofs.YtiaomhdmllhmmaaGreatDoor.Sm
