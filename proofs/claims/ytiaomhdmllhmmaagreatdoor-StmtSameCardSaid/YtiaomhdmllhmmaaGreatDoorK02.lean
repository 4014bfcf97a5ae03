/- Data of any shape in memory: numbers, texts, records and lists of these, as deep as may be Expressions in memory: a tree reads as seven cells, the last of which leads to its kids; w Records and lists as data of a shape: numbers, texts, truths, lists of texts; tokens. What Statements, constraints, columns and tables in memory: they read as data of a shape; what  -/
import Derived.Deep.Slices
import Derived.ProofKit
import Derived.OpenShut
import Derived.ShutString
import Derived.ChangeOld
import Derived.Below
import Derived.Lib.SmallJoins
import Derived.Test.YtiaomhdmllhmmaaGreatDoorK01
namespace Go.Proofs.YtiaomhdmllhmmaaGreatDoor.Mem
open Go.RowKit Go.ChangeShapes Go.WideShapes Go.Deep
set_option linter.unusedVariables false
inductive Dt where
 |one (v:Value)
 |rcd (n:Nat) (sp:List (Nat × Nat)) (fs:List Dt)
 |row (k:Nat) (xs:List Dt)
 |other
instance:Inhabited Dt:=⟨.other⟩
theorem Dt.byParts {C:Dt→Prop} (h1:∀v,C (.one v)) (h2:∀(n:Nat) (sp:List (Nat × Nat)) (fs:List Dt),(∀x∈fs,C x)→C (.rcd n sp fs)) (h3:∀(k:Nat) (xs:List Dt),(∀x∈xs,C x)→C (.row k xs)) (h4:C .other):∀d,C d:=by
 intro d
 refine Dt.rec (motive_1:=C) (motive_2:=fun l=>∀x∈l,C x) h1 (fun n sp fs ih=>h2 n sp fs ih) (fun k xs ih=>h3 k xs ih) h4 ?_ ?_ d
 · intro x hx;simp at hx
 · intro a l ha hl x hx
   rcases List.mem_cons.1 hx with rfl|hx
   · exact ha
   · exact hl x hx
def span (cs:List Value) (p:Nat × Nat):List Value:=(cs.drop p.1).take p.2
mutual
def DtIn (w:World) (S:Nat→Prop):Dt→List Value→Prop
 | .one v,cs=>cs= [v]
 | .rcd n sp fs,cs=>cs.length=n∧RecIn w S fs sp cs
 | .row k xs,cs=>∃A c,cs= [.slice A xs.length c]∧xs.length≤c∧c≤maxLen∧(A=none→c=0)∧RowIn w S A k xs 0
 | .other,_=>True
def RecIn (w:World) (S:Nat→Prop):List Dt→List (Nat × Nat)→List Value→Prop
 | [],_,_=>True
 |x::r,sp,cs=>DtIn w S x (span cs (sp.headD (0,0)))∧RecIn w S r sp.tail cs
def RowIn (w:World) (S:Nat→Prop) (A:Option Addr) (k:Nat):List Dt→Nat→Prop
 | [],_=>True
 |x::r,j=>(∃b o cs,A=some ⟨b,o,none⟩∧S b∧cs.length=k∧(∀i u,cs[i]?=some u→w.cell? ⟨b,o+j*k+i,none⟩=some u)∧DtIn w S x cs)∧RowIn w S A k r (j+1)
end
section
variable {w w' :World} {S S' :Nat→Prop}
theorem in_one {v:Value} {cs:List Value}:DtIn w S (.one v) cs↔cs= [v]:=by rw [DtIn]
theorem in_rec {n:Nat} {sp:List (Nat × Nat)} {fs:List Dt} {cs:List Value}:DtIn w S (.rcd n sp fs) cs↔cs.length=n∧RecIn w S fs sp cs:=by rw [DtIn]
theorem in_row {k:Nat} {xs:List Dt} {cs:List Value}:DtIn w S (.row k xs) cs↔∃A c,cs= [.slice A xs.length c]∧xs.length≤c∧c≤maxLen∧(A=none→c=0)∧RowIn w S A k xs 0:=by rw [DtIn]
theorem rec_nil {sp:List (Nat × Nat)} {cs:List Value}:RecIn w S [] sp cs:=by rw [RecIn];trivial
theorem rec_cons {x:Dt} {r:List Dt} {p:Nat × Nat} {sp:List (Nat × Nat)} {cs:List Value}:RecIn w S (x::r) (p::sp) cs↔DtIn w S x (span cs p)∧RecIn w S r sp cs:=by rw [RecIn];rfl
theorem row_nil {A:Option Addr} {k j:Nat}:RowIn w S A k [] j:=by rw [RowIn];trivial
theorem row_cons {A:Option Addr} {k j:Nat} {x:Dt} {r:List Dt}:
   RowIn w S A k (x::r) j↔(∃b o cs,A=some ⟨b,o,none⟩∧S b∧cs.length=k∧(∀i u,cs[i]?=some u→w.cell? ⟨b,o+j*k+i,none⟩=some u)∧DtIn w S x cs)∧RowIn w S A k r (j+1):=by rw [RowIn]
theorem RowIn.get {A:Option Addr} {k:Nat}:∀{l:List Dt} {j0 j:Nat} {x:Dt},RowIn w S A k l j0→l[j]?=some x→
   ∃b o cs,A=some ⟨b,o,none⟩∧S b∧cs.length=k∧(∀i u,cs[i]?=some u→w.cell? ⟨b,o+(j0+j)*k+i,none⟩=some u)∧DtIn w S x cs
 | [],_,_,_,_,h=>by simp at h
 | y::l,j0,0,x,h,hx=>by
   simp at hx;subst hx
   exact (row_cons.1 h).1
 | y::l,j0,j+1,x,h,hx=>by
   rw [List.getElem?_cons_succ] at hx
   have:=RowIn.get (row_cons.1 h).2 hx
   rw [show j0+1+j=j0+(j+1) by omega] at this
   exact this
theorem RowIn.of {A:Option Addr} {k:Nat}:∀{l:List Dt} {j0:Nat},(∀(j:Nat) (x:Dt),l[j]?=some x→∃b o cs,A=some ⟨b,o,none⟩∧S b∧cs.length=k∧(∀i u,cs[i]?=some u→w.cell? ⟨b,o+(j0+j)*k+i,none⟩=some u)∧DtIn w S x cs)→RowIn w S A k l j0
 | [],_,_=>row_nil
 | y::l,j0,h=>by
   rw [row_cons]
   refine ⟨by simpa using h 0 y rfl,RowIn.of fun j x hx=>?_⟩
   have:=h (j+1) x (by simpa using hx)
   rw [show j0+(j+1)=j0+1+j by omega] at this
   exact this
theorem RecIn.get:∀{l:List Dt} {sp:List (Nat × Nat)} {cs:List Value} {j:Nat} {x:Dt},RecIn w S l sp cs→l[j]?=some x→DtIn w S x (span cs (sp.getD j (0,0)))
 | [],_,_,_,_,_,h=>by simp at h
 |y::l, [],cs,0,x,h,hx=>by simp at hx;subst hx;rw [RecIn] at h;exact h.1
 |y::l,p::sp,cs,0,x,h,hx=>by simp at hx;subst hx;exact (rec_cons.1 h).1
 | y::l, [],cs,j+1,x,h,hx=>by
   rw [List.getElem?_cons_succ] at hx
   rw [RecIn] at h
   exact RecIn.get (sp:= []) (j:=j) h.2 hx
 | y::l,p::sp,cs,j+1,x,h,hx=>by
   rw [List.getElem?_cons_succ] at hx
   exact RecIn.get (sp:=sp) (j:=j) (rec_cons.1 h).2 hx
theorem RecIn.of:∀{l:List Dt} {sp:List (Nat × Nat)} {cs:List Value},(∀(j:Nat) (x:Dt),l[j]?=some x→DtIn w S x (span cs (sp.getD j (0,0))))→RecIn w S l sp cs
 | [],_,_,_=>rec_nil
 | y::l, [],cs,h=>by
   rw [RecIn]
   refine ⟨h 0 y rfl,RecIn.of fun j x hx=>?_⟩
   exact h (j+1) x (by simpa using hx)
 | y::l,p::sp,cs,h=>by
   rw [rec_cons]
   refine ⟨h 0 y rfl,RecIn.of fun j x hx=>?_⟩
   exact h (j+1) x (by simpa using hx)
theorem DtIn.to (hS:∀b,S b→S' b) (hk:∀p:Addr,S p.block→w'.cell? p=w.cell? p):∀(d:Dt) (cs:List Value),DtIn w S d cs→DtIn w' S' d cs:=by
 refine Dt.byParts (fun v cs h=>in_one.2 (in_one.1 h)) (fun n sp fs ih cs h=>?_) (fun k xs ih cs h=>?_) (fun cs h=>by rw [DtIn];trivial)
 · obtain ⟨h1,h2⟩:=in_rec.1 h
   exact in_rec.2 ⟨h1,RecIn.of fun j x hx=>ih x (List.mem_of_getElem? hx) _ (h2.get hx)⟩
 · obtain ⟨A,c,h1,h2,h3,h4,h5⟩:=in_row.1 h
   refine in_row.2 ⟨A,c,h1,h2,h3,h4,RowIn.of fun j x hx=>?_⟩
   obtain ⟨b,o,cs',e,hb,hl,hc,hx'⟩:=h5.get hx
   exact ⟨b,o,cs',e,hS b hb,hl,fun i u hu=>(hk _ hb).trans (hc i u hu),ih x (List.mem_of_getElem? hx) cs' hx'⟩
theorem RowIn.to (hS:∀b,S b→S' b) (hk:∀p:Addr,S p.block→w'.cell? p=w.cell? p) {A:Option Addr} {k j0:Nat} {l:List Dt} (h:RowIn w S A k l j0):RowIn w' S' A k l j0:=
 RowIn.of fun j x hx=>by
   obtain ⟨b,o,cs',e,hb,hl,hc,hx'⟩:=h.get hx
   exact ⟨b,o,cs',e,hS b hb,hl,fun i u hu=>(hk _ hb).trans (hc i u hu),DtIn.to hS hk x cs' hx'⟩
theorem DtIn.below {B:Nat} {d:Dt} {cs:List Value} (h:DtIn w (fun b=>b<B) d cs) (hb:Below B w w'):DtIn w' (fun b=>b<B) d cs:=DtIn.to (fun _ h=>h) (fun p hp=>hb.cell hp) d cs h
theorem DtIn.on {d:Dt} {cs:List Value} (h:DtIn w (fun b=>b<w.heap.size) d cs) (hb:Below w.heap.size w w'):DtIn w' (fun b=>b<w'.heap.size) d cs:=DtIn.to (fun b h=>Nat.lt_of_lt_of_le h hb.size) (fun p hp=>hb.cell hp) d cs h
end
inductive Shp (P:Program):TypeId→Dt→Prop
 |bool {t:TypeId} {b:Bool}:P.underlying t=some .bool→Shp P t (.one (.bool b))
 |int {t:TypeId} {k:IntKind} {n:Int}:P.underlying t=some (.int k)→(Lit.int k n).wf=true→Shp P t (.one (.int k n))
 |str {t:TypeId} {s:ByteArray}:P.underlying t=some .string→s.size≤maxLen→Shp P t (.one (.string s))
 |row {t e:TypeId} {xs:List Dt}:P.underlying t=some (.slice e)→0<P.cellsOf e→xs.length≤maxLen→(∀x∈xs,Shp P e x)→Shp P t (.row (P.cellsOf e) xs)
 |rcd {t:TypeId} {fs:Array Field} {ds:List Dt}:P.underlying t=some (.struct fs)→ds.length=fs.size→(∀(i:Nat) (f:Field) (x:Dt),fs[i]?=some f→ds[i]?=some x→Shp P f.type x)→Shp P t (.rcd (P.cellsOf t) (fs.toList.map fun f=>(f.offset,P.cellsOf f.type)) ds)
 |other {t:TypeId}:P.underlying t≠some .bool→(∀k,P.underlying t≠some (.int k))→P.underlying t≠some .string→(∀e,P.underlying t=some (.slice e)→P.cellsOf e=0)→(∀fs,P.underlying t≠some (.struct fs))→Shp P t .other
section
variable {P:Program} {t:TypeId} {d:Dt}
theorem Shp.bool_inv (h:Shp P t d) (ht:P.underlying t=some .bool):∃b,d= .one (.bool b):=by
 cases h with
 |bool _=>exact ⟨_,rfl⟩
 |int h _=>rw [ht] at h;cases h
 |str h _=>rw [ht] at h;cases h
 |row h _ _ _=>rw [ht] at h;cases h
 |rcd h _ _=>rw [ht] at h;cases h
 |other h _ _ _ _=>exact absurd ht h
theorem Shp.int_inv {k:IntKind} (h:Shp P t d) (ht:P.underlying t=some (.int k)):∃n,d= .one (.int k n)∧(Lit.int k n).wf=true:=by
 cases h with
 |bool h=>rw [ht] at h;cases h
 | int h hw=>
   rw [ht] at h
   injection h with h
   injection h with h
   subst h
   exact ⟨_,rfl,hw⟩
 |str h _=>rw [ht] at h;cases h
 |row h _ _ _=>rw [ht] at h;cases h
 |rcd h _ _=>rw [ht] at h;cases h
 |other _ h _ _ _=>exact absurd ht (h k)
theorem Shp.str_inv (h:Shp P t d) (ht:P.underlying t=some .string):∃s,d= .one (.string s)∧s.size≤maxLen:=by
 cases h with
 |bool h=>rw [ht] at h;cases h
 |int h _=>rw [ht] at h;cases h
 |str h hs=>exact ⟨_,rfl,hs⟩
 |row h _ _ _=>rw [ht] at h;cases h
 |rcd h _ _=>rw [ht] at h;cases h
 |other _ _ h _ _=>exact absurd ht h
theorem Shp.row_inv {e:TypeId} (h:Shp P t d) (ht:P.underlying t=some (.slice e)) (hc:P.cellsOf e≠0):∃xs,d= .row (P.cellsOf e) xs∧xs.length≤maxLen∧∀x∈xs,Shp P e x:=by
 cases h with
 |bool h=>rw [ht] at h;cases h
 |int h _=>rw [ht] at h;cases h
 |str h _=>rw [ht] at h;cases h
 | row h _ h2 h3=>
   rw [ht] at h
   injection h with h
   injection h with h
   subst h
   exact ⟨_,rfl,h2,h3⟩
 |rcd h _ _=>rw [ht] at h;cases h
 |other _ _ _ h _=>exact absurd (h e ht) hc
theorem Shp.rec_inv {fs:Array Field} (h:Shp P t d) (ht:P.underlying t=some (.struct fs)):∃ds,d= .rcd (P.cellsOf t) (fs.toList.map fun f=>(f.offset,P.cellsOf f.type)) ds∧ds.length=fs.size∧∀(i:Nat) (f:Field) (x:Dt),fs[i]?=some f→ds[i]?=some x→Shp P f.type x:=by
 cases h with
 |bool h=>rw [ht] at h;cases h
 |int h _=>rw [ht] at h;cases h
 |str h _=>rw [ht] at h;cases h
 |row h _ _ _=>rw [ht] at h;cases h
 | rcd h h2 h3=>
   rw [ht] at h
   injection h with h
   injection h with h
   subst h
   exact ⟨_,rfl,h2,h3⟩
 |other _ _ _ _ h=>exact absurd ht (h fs)
end
section
variable {H:Type} {enc:TypeId × Value→H} {P:Program} {W:World} {sp:Nat→Bool} {held:Bool}
set_option maxHeartbeats 400000 in
theorem open_dt:∀(fuel:Nat) (t:TypeId) (cs:List Value) (x:DataW H × List MemPlace),DataW.trod enc P W 0 sp held fuel t cs=some x→∃d,DtIn W (fun b=>b<W.heap.size) d cs∧Shp P t d:=by
  intro fuel
  induction fuel using Nat.strongRecOn with
  | _ fuel ih =>
    intro t cs x h
    have oth:(∀k,P.underlying t≠some (.int k))→P.underlying t≠some .bool→P.underlying t≠some .string→(∀e,P.underlying t=some (.slice e)→P.cellsOf e=0)→(∀fs,P.underlying t≠some (.struct fs))→∃d,DtIn W (fun b=>b<W.heap.size) d cs∧Shp P t d:=
      fun h1 h2 h3 h4 h5=>⟨.other,by rw [DtIn];trivial, .other h2 h1 h3 h4 h5⟩
    cases hu:P.underlying t with
    |none=>exact oth (fun k=>by rw [hu];exact fun e=>by cases e) (by rw [hu];exact fun e=>by cases e) (by rw [hu];exact fun e=>by cases e) (fun e he=>by rw [hu] at he;cases he) (fun fs=>by rw [hu];exact fun e=>by cases e)
    | some u=>
      cases u with
      | bool=>
        obtain ⟨b,rfl,_⟩:=DataW.trod_bool hu h
        exact ⟨.one (.bool b),in_one.2 rfl, .bool hu⟩
      | int k=>
        obtain ⟨n,rfl,_,hw⟩:=DataW.trod_int hu h
        exact ⟨.one (.int k n),in_one.2 rfl, .int hu hw⟩
      | string=>
        obtain ⟨s,rfl,_,hs⟩:=DataW.trod_string hu h
        exact ⟨.one (.string s),in_one.2 rfl, .str hu hs⟩
      | struct fs=>
        obtain ⟨xs,n,hf,_,hlen,hxl,hfd⟩:=DataW.trod_struct hu h
        have each:∀i,i<fs.size→∃d:Dt,∀f,fs[i]?=some f→DtIn W (fun b=>b<W.heap.size) d (span cs (f.offset,P.cellsOf f.type))∧Shp P f.type d:=fun i hi=>by
          have h1:=hfd i fs[i] (Array.getElem?_eq_getElem hi)
          rw [List.getElem?_eq_getElem (by omega)] at h1
          obtain ⟨d,h2,h3⟩:=ih n (by omega) _ _ _ h1
          refine ⟨d,fun f hf' =>?_⟩
          rw [Array.getElem?_eq_getElem hi] at hf'
          injection hf' with hf'
          subst hf'
          exact ⟨h2,h3⟩
        obtain ⟨D,hD⟩:=choose_lt each
        refine ⟨.rcd (P.cellsOf t) (fs.toList.map fun f=>(f.offset,P.cellsOf f.type)) ((List.range fs.size).map D),in_rec.2 ⟨hlen,RecIn.of fun j y hj=>?_⟩, .rcd hu (by simp) fun i f y hf' hy=>?_⟩
        · rw [List.getElem?_map] at hj
          obtain ⟨i,hi',rfl⟩:=Option.map_eq_some_iff.1 hj
          obtain ⟨hjn,hi2⟩:=List.getElem?_eq_some_iff.1 hi'
          simp at hjn hi2
          subst hi2
          have hfj:fs[j]?=some fs[j]:=Array.getElem?_eq_getElem hjn
          have:=(hD j hjn _ hfj).1
          have e:(fs.toList.map fun f=>(f.offset,P.cellsOf f.type)).getD j (0,0)=(fs[j].offset,P.cellsOf fs[j].type):=by
            rw [List.getD_eq_getElem?_getD,List.getElem?_map,Array.getElem?_toList,hfj]
            rfl
          rw [e]
          exact this
        · rw [List.getElem?_map] at hy
          obtain ⟨i',hi',rfl⟩:=Option.map_eq_some_iff.1 hy
          obtain ⟨hjn,hi2⟩:=List.getElem?_eq_some_iff.1 hi'
          simp at hjn hi2
          subst hi2
          exact (hD i hjn f hf').2
      | slice e=>
        by_cases hz:P.cellsOf e=0
        · exact oth (fun k=>by rw [hu];exact fun e=>by cases e) (by rw [hu];exact fun e=>by cases e) (by rw [hu];exact fun e=>by cases e) (fun e' he=>by rw [hu] at he;injection he with he;injection he with he;exact he▸hz) (fun fs=>by rw [hu];exact fun e=>by cases e)
        rcases DataW.trod_slice hu h with ⟨rfl,_⟩|⟨a,len,cap,elems,rest,q,hq,rfl,_,_,hl,hm,hel,hx,_,_⟩
        · exact ⟨.row (P.cellsOf e) [],in_row.2 ⟨none,0,rfl,Nat.le_refl _,Nat.zero_le _,fun _=>rfl,row_nil⟩, .row hu (by omega) (by simp) (by simp)⟩
        · have each:∀i,i<len→∃d:Dt,(∃cs',W.cells? 0 (a.add (i*P.cellsOf e)) (P.cellsOf e)=some cs' ∧DtIn W (fun b=>b<W.heap.size) d cs')∧Shp P e d:=fun i hi=>by
            have h1:=hx i hi
            rw [List.getElem?_eq_getElem (by omega)] at h1
            obtain ⟨cs',h2,h3⟩:=Option.bind_eq_some_iff.1 h1
            obtain ⟨d,h4,h5⟩:=ih q (by omega) _ cs' _ h3
            exact ⟨d,⟨cs',h2,h4⟩,h5⟩
          obtain ⟨E,hE⟩:=choose_lt each
          have hlen2:((List.range len).map E).length=len:=by simp
          refine ⟨.row (P.cellsOf e) ((List.range len).map E),in_row.2 ⟨some a,cap,by rw [hlen2],by omega,hm,(fun e=>by cases e),RowIn.of fun j y hj=>?_⟩, .row hu (by omega) (by omega) fun y hy=>?_⟩
          · rw [List.getElem?_map] at hj
            obtain ⟨i,hi',rfl⟩:=Option.map_eq_some_iff.1 hj
            obtain ⟨hjn,hi2⟩:=List.getElem?_eq_some_iff.1 hi'
            simp at hjn hi2
            subst hi2
            obtain ⟨⟨cs',h1,h2⟩,_⟩:=hE j hjn
            obtain ⟨_,hl7,hcell⟩:=World.cells?_some h1
            obtain ⟨b,o',s⟩:=a
            obtain ⟨v,hv⟩:∃v,cs'[0]?=some v:=⟨cs'[0]'(by omega),List.getElem?_eq_getElem _⟩
            obtain ⟨⟨cz,hz1,_⟩,_⟩:=hE 0 (by omega)
            obtain ⟨_,hz7,hzc⟩:=World.cells?_some hz1
            have hz0:=(hzc 0 (by omega)).trans (List.getElem?_eq_getElem (show 0<cz.length by omega))
            have hs:s=none:=by simpa [Addr.add] using World.cell?_spot hz0
            subst hs
            have hc:∀i u,cs'[i]?=some u→W.cell? ⟨b,o' +(0+j)*P.cellsOf e+i,none⟩=some u:=fun i u hu=>by
              have hi7:i<P.cellsOf e:=by have:=(List.getElem?_eq_some_iff.1 hu).1;omega
              have:=(hcell i hi7).trans hu
              rw [add_add,add_plain] at this
              rw [Nat.zero_add,Nat.add_assoc];exact this
            exact ⟨b,o',cs',rfl,cell_lt (hc 0 v hv),hl7,hc,h2⟩
          · obtain ⟨i,hi',rfl⟩:=List.mem_map.1 hy
            exact (hE i (List.mem_range.1 hi')).2
      |_=>exact oth (fun k=>by rw [hu];exact fun e=>by cases e) (by rw [hu];exact fun e=>by cases e) (by rw [hu];exact fun e=>by cases e) (fun e he=>by rw [hu] at he;cases he) (fun fs=>by rw [hu];exact fun e=>by cases e)
end
end Go.Proofs.YtiaomhdmllhmmaaGreatDoor.Mem
namespace Go.Proofs.YtiaomhdmllhmmaaGreatDoor.Ep
open Go.RowKit Mem Go.ChangeShapes Go.WideShapes
set_option linter.unusedVariables false
def txt (l:List UInt8):ByteArray:=⟨l.toArray⟩
def exCells (k o vk vn:Int) (vs nm:List UInt8) (A:Option Addr) (n c:Nat):List Value:=
 [.int .i64 k, .int .i64 o, .int .i64 vk, .int .i64 vn, .string (txt vs), .string (txt nm), .slice A n c]
def vDt (k n:Int) (s:List UInt8):Dt:= .rcd 3 [(0,1),(1,1),(2,1)] [.one (.int .i64 k), .one (.int .i64 n), .one (.string (txt s))]
mutual
def exDt:Ex→Dt
 | .mk k o vk vn vs nm kids=> .rcd 7 [(0,1),(1,1),(2,3),(5,1),(6,1)] [.one (.int .i64 k), .one (.int .i64 o),vDt vk vn vs, .one (.string (txt nm)), .row 7 (exDtL kids)]
def exDtL:List Ex→List Dt
 | []=> []
 |x::l=>exDt x::exDtL l
end
theorem exDtL_map:∀l:List Ex,exDtL l=l.map exDt
 | []=>by rw [exDtL];rfl
 |x::l=>by rw [exDtL,exDtL_map l];rfl
theorem exDt_mk (k o vk vn:Int) (vs nm:List UInt8) (kids:List Ex):exDt (.mk k o vk vn vs nm kids)= .rcd 7 [(0,1),(1,1),(2,3),(5,1),(6,1)] [.one (.int .i64 k), .one (.int .i64 o),vDt vk vn vs, .one (.string (txt nm)), .row 7 (kids.map exDt)]:=by
 rw [exDt,exDtL_map]
def ExIn (w:World) (S:Nat→Prop) (e:Ex) (cs:List Value):Prop:=DtIn w S (exDt e) cs
def KidsIn (w:World) (S:Nat→Prop) (A:Option Addr) (j:Nat) (l:List Ex):Prop:=RowIn w S A 7 (l.map exDt) j
abbrev ExAt (w:World) (B:Nat):Ex→List Value→Prop:=ExIn w (fun b=>b<B)
section
variable {w w' :World} {S S' :Nat→Prop}
theorem vDt_in {k n:Int} {s:List UInt8} {cs:List Value}:DtIn w S (vDt k n s) cs↔cs= [.int .i64 k, .int .i64 n, .string (txt s)]:=by
 unfold vDt
 rw [in_rec,rec_cons,rec_cons,rec_cons,in_one,in_one,in_one]
 constructor
 · rintro ⟨hl,h0,h1,h2,_⟩
   match cs,hl with
   | [a,b,c],_=>
     simp [span] at h0 h1 h2
     rw [h0,h1,h2]
 · rintro rfl
   exact ⟨rfl,rfl,rfl,rfl,rec_nil⟩
theorem exIn_mk (w:World) (S:Nat→Prop) (k o vk vn:Int) (vs nm:List UInt8) (kids:List Ex) (cs:List Value):
   ExIn w S (.mk k o vk vn vs nm kids) cs↔∃A c,cs=exCells k o vk vn vs nm A kids.length c∧kids.length≤c∧c≤maxLen∧(A=none→c=0)∧KidsIn w S A 0 kids:=by
 unfold ExIn
 rw [exDt_mk,in_rec,rec_cons,rec_cons,rec_cons,rec_cons,rec_cons,in_one,in_one,vDt_in,in_one,in_row,List.length_map]
 constructor
 · rintro ⟨hl,h0,h1,h2,h3,⟨A,c,h4,g1,g2,g3,g4⟩,_⟩
   match cs,hl with
   | [a0,a1,a2,a3,a4,a5,a6],_=>
     simp [span] at h0 h1 h2 h3 h4
     obtain ⟨h2,h2',h2''⟩:=h2
     subst h0 h1 h2 h2' h2'' h3 h4
     exact ⟨A,c,rfl,g1,g2,g3,g4⟩
 · rintro ⟨A,c,rfl,g1,g2,g3,g4⟩
   exact ⟨rfl,rfl,rfl,rfl,rfl,⟨A,c,rfl,g1,g2,g3,g4⟩,rec_nil⟩
theorem kidsIn_nil (w:World) (S:Nat→Prop) (A:Option Addr) (j:Nat):KidsIn w S A j []:=row_nil
theorem KidsIn.get {A:Option Addr} {l:List Ex} {j0 j:Nat} {x:Ex} (h:KidsIn w S A j0 l) (hx:l[j]?=some x):
   ∃b o cs,A=some ⟨b,o,none⟩∧S b∧cs.length=7∧(∀i u,cs[i]?=some u→w.cell? ⟨b,o+(j0+j)*7+i,none⟩=some u)∧ExIn w S x cs:=
 RowIn.get h (by rw [List.getElem?_map,hx];rfl)
theorem KidsIn.of {A:Option Addr} {l:List Ex} {j0:Nat} (h:∀(j:Nat) (x:Ex),l[j]?=some x→∃b o cs,A=some ⟨b,o,none⟩∧S b∧cs.length=7∧(∀i u,cs[i]?=some u→w.cell? ⟨b,o+(j0+j)*7+i,none⟩=some u)∧ExIn w S x cs):KidsIn w S A j0 l:=
 RowIn.of fun j d hd=>by
   rw [List.getElem?_map] at hd
   obtain ⟨x,hx,rfl⟩:=Option.map_eq_some_iff.1 hd
   exact h j x hx
theorem ExIn.to (hS:∀b,S b→S' b) (hk:∀p:Addr,S p.block→w'.cell? p=w.cell? p) (e:Ex) (cs:List Value) (h:ExIn w S e cs):ExIn w' S' e cs:=DtIn.to hS hk _ _ h
theorem KidsIn.to (hS:∀b,S b→S' b) (hk:∀p:Addr,S p.block→w'.cell? p=w.cell? p) {A:Option Addr} {j0:Nat} {l:List Ex} (h:KidsIn w S A j0 l):KidsIn w' S' A j0 l:=RowIn.to hS hk h
theorem ExAt.below {B:Nat} {e:Ex} {cs:List Value} (h:ExAt w B e cs) (hb:Below B w w'):ExAt w' B e cs:=DtIn.below h hb
theorem ExAt.on {e:Ex} {cs:List Value} (h:ExAt w w.heap.size e cs) (hb:Below w.heap.size w w'):ExAt w' w'.heap.size e cs:=DtIn.on h hb
theorem ExIn.len {e:Ex} {cs:List Value} (h:ExIn w S e cs):cs.length=7:=by
 obtain ⟨k,o,vk,vn,vs,nm,kids⟩:=e
 rw [exIn_mk] at h
 obtain ⟨A,c,rfl,_⟩:=h
 rfl
end
structure HasEx (P:Program) (tE tV tL:TypeId):Prop where
 ex:∃f0 f1 f2 f3 f4:Field,P.underlying tE=some (.struct #[f0,f1,f2,f3,f4])∧(f0.offset=0∧f1.offset=1∧f2.offset=2∧f3.offset=5∧f4.offset=6)∧f2.type=tV∧f4.type=tL∧
   (P.underlying f0.type=some (.int .i64)∧P.cellsOf f0.type=1)∧(P.underlying f1.type=some (.int .i64)∧P.cellsOf f1.type=1)∧(P.underlying f3.type=some .string∧P.cellsOf f3.type=1)
 val:∃g0 g1 g2:Field,P.underlying tV=some (.struct #[g0,g1,g2])∧(g0.offset=0∧g1.offset=1∧g2.offset=2)∧
   (P.underlying g0.type=some (.int .i64)∧P.cellsOf g0.type=1)∧(P.underlying g1.type=some (.int .i64)∧P.cellsOf g1.type=1)∧(P.underlying g2.type=some .string∧P.cellsOf g2.type=1)
 list:P.underlying tL=some (.slice tE)
 size:P.cellsOf tE=7∧P.cellsOf tV=3∧P.cellsOf tL=1
def i64ok (n:Int):Prop:= -9223372036854775808≤n∧n≤9223372036854775807
mutual
def Fine:Ex→Prop
 | .mk k o vk vn vs nm kids=>(i64ok k∧i64ok o∧i64ok vk∧i64ok vn)∧(vs.length≤maxLen∧nm.length≤maxLen∧kids.length≤maxLen)∧FineL kids
def FineL:List Ex→Prop
 | []=>True
 |x::l=>Fine x∧FineL l
end
theorem fine_mk (k o vk vn:Int) (vs nm:List UInt8) (kids:List Ex):Fine (.mk k o vk vn vs nm kids)↔(i64ok k∧i64ok o∧i64ok vk∧i64ok vn)∧(vs.length≤maxLen∧nm.length≤maxLen∧kids.length≤maxLen)∧∀x∈kids,Fine x:=by
 have hl:∀l,FineL l↔∀x∈l,Fine x:=fun l=>by
   induction l with
   |nil=>rw [FineL];simp
   |cons a l ih=>rw [FineL,ih];simp
 rw [Fine,hl]
theorem list_of {α:Type} {f:α→Dt} {p:α→Prop}:∀{xs:List Dt},(∀x∈xs,∃a,x=f a∧p a)→∃l:List α,xs=l.map f∧∀a∈l,p a
 | [],_=>⟨[],rfl,by simp⟩
 | x::xs,h=>by
   obtain ⟨a,rfl,ha⟩:=h x (by simp)
   obtain ⟨l,rfl,hl⟩:=list_of fun y hy=>h y (List.mem_cons_of_mem _ hy)
   refine ⟨a::l,rfl,fun b hb=>?_⟩
   rcases List.mem_cons.1 hb with rfl|hb
   · exact ha
   · exact hl b hb
section
variable {P:Program} {tE tV tL:TypeId}
theorem txt_of (s:ByteArray) (h:s.size≤maxLen):∃l:List UInt8,s=txt l∧l.length≤maxLen:=⟨s.data.toList,rfl,by rw [Array.length_toList];exact h⟩
theorem shp_val (F:HasEx P tE tV tL) {d:Dt} (h:Shp P tV d):∃k n s,d=vDt k n s∧i64ok k∧i64ok n∧s.length≤maxLen:=by
 obtain ⟨g0,g1,g2,uV,⟨p0,p1,p2⟩,⟨v0,d0⟩,⟨v1,d1⟩,⟨v2,d2⟩⟩:=F.val
 obtain ⟨ds,rfl,hl,hf⟩:=h.rec_inv uV
 match ds,hl with
 | [y0,y1,y2],_=>
   obtain ⟨k,rfl,hk⟩:=(hf 0 g0 y0 rfl rfl).int_inv v0
   obtain ⟨n,rfl,hn⟩:=(hf 1 g1 y1 rfl rfl).int_inv v1
   obtain ⟨s,rfl,hs⟩:=(hf 2 g2 y2 rfl rfl).str_inv v2
   obtain ⟨s,rfl,hs⟩:=txt_of s hs
   refine ⟨k,n,s,?_,bounds_i64 hk,bounds_i64 hn,hs⟩
   unfold vDt
   rw [F.size.2.1]
   simp [p0,p1,p2,d0,d1,d2]
theorem shp_ex (F:HasEx P tE tV tL):∀d,(Shp P tE d→∃e,d=exDt e∧Fine e)∧(Shp P tL d→∃l:List Ex,d= .row 7 (l.map exDt)∧l.length≤maxLen∧∀x∈l,Fine x):=by
 obtain ⟨f0,f1,f2,f3,f4,uE,⟨o0,o1,o2,o3,o4⟩,t2,t4,⟨u0,c0⟩,⟨u1,c1⟩,⟨u3,c3⟩⟩:=F.ex
 obtain ⟨z1,z2,z3⟩:=F.size
 have hc:P.cellsOf tE≠0:=by omega
 refine Dt.byParts (fun v=>⟨fun h=>?_,fun h=>?_⟩) (fun n sp fs ih=>⟨fun h=>?_,fun h=>?_⟩) (fun k xs ih=>⟨fun h=>?_,fun h=>?_⟩) ⟨fun h=>?_,fun h=>?_⟩
 · obtain ⟨ds,e,_⟩:=h.rec_inv uE;cases e
 · obtain ⟨ds,e,_⟩:=h.row_inv F.list hc;cases e
 · obtain ⟨ds,e,hl,hf⟩:=h.rec_inv uE
   injection e with e1 e2 e3
   subst e1 e2 e3
   match fs,hl,ih with
   | [y0,y1,y2,y3,y4],_,ih=>
     obtain ⟨k,rfl,hk⟩:=(hf 0 f0 y0 rfl rfl).int_inv u0
     obtain ⟨o,rfl,ho⟩:=(hf 1 f1 y1 rfl rfl).int_inv u1
     obtain ⟨vk,vn,vs,rfl,hvk,hvn,hvs⟩:=shp_val F (t2▸hf 2 f2 y2 rfl rfl)
     obtain ⟨nm,rfl,hnm⟩:=(hf 3 f3 y3 rfl rfl).str_inv u3
     obtain ⟨nm,rfl,hnm⟩:=txt_of nm hnm
     obtain ⟨kids,rfl,hkl,hkf⟩:=(ih y4 (by simp)).2 (t4▸hf 4 f4 y4 rfl rfl)
     refine ⟨.mk k o vk vn vs nm kids,?_,(fine_mk _ _ _ _ _ _ _).2 ⟨⟨bounds_i64 hk,bounds_i64 ho,hvk,hvn⟩,⟨hvs,hnm,hkl⟩,hkf⟩⟩
     rw [exDt_mk,z1]
     simp [o0,o1,o2,o3,o4,c0,c1,c3,t2,t4,z2,z3]
 · obtain ⟨ds,e,_⟩:=h.row_inv F.list hc;cases e
 · obtain ⟨ds,e,_⟩:=h.rec_inv uE;cases e
 · obtain ⟨ds,e,hl,hf⟩:=h.row_inv F.list hc
   injection e with e1 e2
   subst e1 e2
   obtain ⟨l,rfl,hl2⟩:=list_of (f:=exDt) (p:=Fine) fun x hx=>(ih x hx).1 (hf x hx)
   exact ⟨l,by rw [z1],by simpa using hl,hl2⟩
 · obtain ⟨ds,e,_⟩:=h.rec_inv uE;cases e
 · obtain ⟨ds,e,_⟩:=h.row_inv F.list hc;cases e
section
variable {H:Type} {enc:TypeId × Value→H} {W:World} {sp:Nat→Bool} {held:Bool}
end
end
end Go.Proofs.YtiaomhdmllhmmaaGreatDoor.Ep
namespace Go.Proofs.YtiaomhdmllhmmaaGreatDoor.Ep
open Go.RowKit Mem Go.ChangeShapes Go.WideShapes
set_option linter.unusedVariables false
abbrev Bs:=List UInt8
def IsRec (P:Program) (t:TypeId) (n:Nat) (fl:List (Nat × Nat × TypeId)):Prop:=
 ∃fs:Array Field,P.underlying t=some (.struct fs)∧(fs.toList.map fun f=>(f.offset,P.cellsOf f.type,f.type))=fl∧P.cellsOf t=n
def IsList (P:Program) (t e:TypeId) (n:Nat):Prop:=P.underlying t=some (.slice e)∧P.cellsOf e=n
theorem rec_open {P:Program} {t:TypeId} {n:Nat} {fl:List (Nat × Nat × TypeId)} {d:Dt} (I:IsRec P t n fl) (h:Shp P t d):
   ∃ds,d= .rcd n (fl.map fun x=>(x.1,x.2.1)) ds∧ds.length=fl.length∧∀(i:Nat) (x:Nat × Nat × TypeId) (y:Dt),fl[i]?=some x→ds[i]?=some y→Shp P x.2.2 y:=by
 obtain ⟨fs,hu,hfl,hn⟩:=I
 obtain ⟨ds,rfl,hl,hf⟩:=h.rec_inv hu
 refine ⟨ds,?_,?_,fun i x y hx hy=>?_⟩
 · rw [hn,←hfl,List.map_map];rfl
 · rw [←hfl,List.length_map,Array.length_toList];exact hl
 · rw [←hfl,List.getElem?_map,Array.getElem?_toList] at hx
   obtain ⟨f,hfi,rfl⟩:=Option.map_eq_some_iff.1 hx
   exact hf i f y hfi hy
theorem list_open {P:Program} {t e:TypeId} {n:Nat} {d:Dt} (I:IsList P t e n) (hn:n≠0) (h:Shp P t d):∃xs,d= .row n xs∧xs.length≤maxLen∧∀x∈xs,Shp P e x:=by
 obtain ⟨hu,rfl⟩:=I
 exact h.row_inv hu hn
def bDt (b:Bool):Dt:= .one (.bool b)
def iDt (n:Int):Dt:= .one (.int .i64 n)
def sDt (l:Bs):Dt:= .one (.string (txt l))
def ssDt (l:List Bs):Dt:= .row 1 (l.map sDt)
def fS (l:Bs):Prop:=l.length≤maxLen
def fSs (l:List Bs):Prop:=l.length≤maxLen∧∀x∈l,fS x
structure HasB (P:Program) (tI tS tB lS:TypeId):Prop where
 int:P.underlying tI=some (.int .i64)
 str:P.underlying tS=some .string
 bool:P.underlying tB=some .bool
 strs:IsList P lS tS 1
section
variable {P:Program} {tI tS tB lS:TypeId} {d:Dt}
theorem shp_i (F:HasB P tI tS tB lS) (h:Shp P tI d):∃n,d=iDt n∧i64ok n:=by
 obtain ⟨n,rfl,hn⟩:=h.int_inv F.int
 exact ⟨n,rfl,bounds_i64 hn⟩
theorem shp_s (F:HasB P tI tS tB lS) (h:Shp P tS d):∃l,d=sDt l∧fS l:=by
 obtain ⟨s,rfl,hs⟩:=h.str_inv F.str
 obtain ⟨l,rfl,hl⟩:=txt_of s hs
 exact ⟨l,rfl,hl⟩
theorem shp_b (F:HasB P tI tS tB lS) (h:Shp P tB d):∃b,d=bDt b:=h.bool_inv F.bool
theorem shp_l {t e:TypeId} {n:Nat} {α:Type} {f:α→Dt} {p:α→Prop} (I:IsList P t e n) (hn:n≠0) (each:∀x,Shp P e x→∃a,x=f a∧p a) (h:Shp P t d):∃l:List α,d= .row n (l.map f)∧l.length≤maxLen∧∀x∈l,p x:=by
 obtain ⟨xs,rfl,hl,hx⟩:=list_open I hn h
 obtain ⟨l,rfl,hp⟩:=list_of fun x h=>each x (hx x h)
 exact ⟨l,rfl,by simpa using hl,hp⟩
theorem shp_ss (F:HasB P tI tS tB lS) (h:Shp P lS d):∃l,d=ssDt l∧fSs l:=by
 obtain ⟨l,rfl,h1,h2⟩:=shp_l (f:=sDt) F.strs (by decide) (fun x hx=>shp_s F hx) h
 exact ⟨l,rfl,h1,h2⟩
end
section
variable {P:Program} {tI tS tB lS tT lT:TypeId} {d:Dt}
end
section
variable {w:World} {S:Nat→Prop}
end
section
variable {H:Type} {enc:TypeId × Value→H} {P:Program} {W:World} {sp:Nat→Bool} {held:Bool}
end
end Go.Proofs.YtiaomhdmllhmmaaGreatDoor.Ep
namespace Go.Proofs.YtiaomhdmllhmmaaGreatDoor.Sm
open Go.RowKit Mem Ep Go.ChangeShapes Go.WideShapes
set_option linter.unusedVariables false
def coDt (x:Co):Dt:= .rcd 3 [(0,1),(1,1),(2,1)] [sDt x.nm,iDt x.ty,bDt x.nn]
def cosDt (l:List Co):Dt:= .row 3 (l.map coDt)
def cnDt (x:Cn):Dt:= .rcd 12 [(0,1),(1,1),(2,1),(3,7),(10,1),(11,1)] [sDt x.nm,iDt x.kind,ssDt x.cols,exDt x.chk,sDt x.tbl,ssDt x.refs]
def cnsDt (l:List Cn):Dt:= .row 12 (l.map cnDt)
def exsDt (l:List Ex):Dt:= .row 7 (l.map exDt)
def rwsDt (l:List (List Ex)):Dt:= .row 1 (l.map exsDt)
def seDt (x:Bs × Ex):Dt:= .rcd 8 [(0,1),(1,7)] [sDt x.1,exDt x.2]
def orDt (x:Ex × Bool):Dt:= .rcd 8 [(0,7),(7,1)] [exDt x.1,bDt x.2]
def stSp:List (Nat × Nat):= [(0,1),(1,1),(2,1),(3,1),(4,1),(5,1),(6,1),(7,1),(8,7),(15,1),(16,1),(17,1),(18,1),(19,1),(20,1)]
mutual
def stDt:St→Dt
  | .mk k t n r cols cons names rows wh sets order limit priv opt kids=>
    .rcd 21 stSp [iDt k,sDt t,sDt n,sDt r,cosDt cols,cnsDt cons,ssDt names,rwsDt rows,exDt wh, .row 8 (sets.map seDt), .row 8 (order.map orDt),iDt limit,iDt priv,bDt opt, .row 21 (stDtL kids)]
def stDtL:List St→List Dt
  | []=> []
  |x::l=>stDt x::stDtL l
end
theorem stDtL_map:∀l:List St,stDtL l=l.map stDt
 | []=>by rw [stDtL];rfl
 |x::l=>by rw [stDtL,stDtL_map l];rfl
theorem stDt_mk (k:Int) (t n r:Bs) (cols:List Co) (cons:List Cn) (names:List Bs) (rows:List (List Ex)) (wh:Ex) (sets:List (Bs × Ex)) (order:List (Ex × Bool)) (limit priv:Int) (opt:Bool) (kids:List St):
   stDt (.mk k t n r cols cons names rows wh sets order limit priv opt kids)=
   .rcd 21 stSp [iDt k,sDt t,sDt n,sDt r,cosDt cols,cnsDt cons,ssDt names,rwsDt rows,exDt wh, .row 8 (sets.map seDt), .row 8 (order.map orDt),iDt limit,iDt priv,bDt opt, .row 21 (kids.map stDt)]:=by
 rw [stDt,stDtL_map]
def fCo (x:Co):Prop:=fS x.nm∧i64ok x.ty
def fCn (x:Cn):Prop:=fS x.nm∧i64ok x.kind∧fSs x.cols∧Fine x.chk∧fS x.tbl∧fSs x.refs
def fEs (l:List Ex):Prop:=l.length≤maxLen∧∀x∈l,Fine x
def fSt0 (k:Int) (t n r:Bs) (cols:List Co) (cons:List Cn) (names:List Bs) (rows:List (List Ex)) (wh:Ex) (sets:List (Bs × Ex)) (order:List (Ex × Bool)) (limit priv:Int):Prop:=
 i64ok k∧(fS t∧fS n∧fS r)∧(cols.length≤maxLen∧∀x∈cols,fCo x)∧(cons.length≤maxLen∧∀x∈cons,fCn x)∧fSs names∧(rows.length≤maxLen∧∀x∈rows,fEs x)∧Fine wh∧
 (sets.length≤maxLen∧∀x∈sets,fS x.1∧Fine x.2)∧(order.length≤maxLen∧∀x∈order,Fine x.1)∧i64ok limit∧i64ok priv
mutual
def fSt:St→Prop
 | .mk k t n r cols cons names rows wh sets order limit priv opt kids=>fSt0 k t n r cols cons names rows wh sets order limit priv∧kids.length≤maxLen∧fStL kids
def fStL:List St→Prop
 | []=>True
 |x::l=>fSt x∧fStL l
end
theorem fStL_iff:∀{l:List St},fStL l↔∀x∈l,fSt x
 | []=>by rw [fStL];simp
 |x::l=>by rw [fStL,fStL_iff];simp
theorem fSt_mk (k:Int) (t n r:Bs) (cols:List Co) (cons:List Cn) (names:List Bs) (rows:List (List Ex)) (wh:Ex) (sets:List (Bs × Ex)) (order:List (Ex × Bool)) (limit priv:Int) (opt:Bool) (kids:List St):
   fSt (.mk k t n r cols cons names rows wh sets order limit priv opt kids)↔fSt0 k t n r cols cons names rows wh sets order limit priv∧kids.length≤maxLen∧∀x∈kids,fSt x:=by rw [fSt,fStL_iff]
section
variable {P:Program} {tI tS tB lS:TypeId} {d:Dt}
structure HasC (P:Program) (tI tS tB lS tE tV tL tCo lCo tCn lCn:TypeId):Prop where
 b:HasB P tI tS tB lS
 e:HasEx P tE tV tL
 co:IsRec P tCo 3 [(0,1,tS),(1,1,tI),(2,1,tB)]
 cos:IsList P lCo tCo 3
 cn:IsRec P tCn 12 [(0,1,tS),(1,1,tI),(2,1,lS),(3,7,tE),(10,1,tS),(11,1,lS)]
 cns:IsList P lCn tCn 12
variable {tE tV tL tCo lCo tCn lCn:TypeId}
theorem shp_co (F:HasC P tI tS tB lS tE tV tL tCo lCo tCn lCn) (h:Shp P tCo d):∃x,d=coDt x∧fCo x:=by
 obtain ⟨ds,rfl,hl,hf⟩:=rec_open F.co h
 match ds,hl with
 | [y0,y1,y2],_=>
   obtain ⟨nm,rfl,g0⟩:=shp_s F.b (hf 0 _ y0 rfl rfl)
   obtain ⟨ty,rfl,g1⟩:=shp_i F.b (hf 1 _ y1 rfl rfl)
   obtain ⟨nn,rfl⟩:=shp_b F.b (hf 2 _ y2 rfl rfl)
   exact ⟨⟨nm,ty,nn⟩,rfl,g0,g1⟩
theorem shp_cos (F:HasC P tI tS tB lS tE tV tL tCo lCo tCn lCn) (h:Shp P lCo d):∃l,d=cosDt l∧l.length≤maxLen∧∀x∈l,fCo x:=shp_l F.cos (by decide) (fun x hx=>shp_co F hx) h
theorem shp_cn (F:HasC P tI tS tB lS tE tV tL tCo lCo tCn lCn) (h:Shp P tCn d):∃x,d=cnDt x∧fCn x:=by
 obtain ⟨ds,rfl,hl,hf⟩:=rec_open F.cn h
 match ds,hl with
 | [y0,y1,y2,y3,y4,y5],_=>
   obtain ⟨nm,rfl,g0⟩:=shp_s F.b (hf 0 _ y0 rfl rfl)
   obtain ⟨kd,rfl,g1⟩:=shp_i F.b (hf 1 _ y1 rfl rfl)
   obtain ⟨cols,rfl,g2⟩:=shp_ss F.b (hf 2 _ y2 rfl rfl)
   obtain ⟨chk,rfl,g3⟩:=(shp_ex F.e y3).1 (hf 3 _ y3 rfl rfl)
   obtain ⟨tb,rfl,g4⟩:=shp_s F.b (hf 4 _ y4 rfl rfl)
   obtain ⟨refs,rfl,g5⟩:=shp_ss F.b (hf 5 _ y5 rfl rfl)
   exact ⟨⟨nm,kd,cols,chk,tb,refs⟩,rfl,g0,g1,g2,g3,g4,g5⟩
theorem shp_cns (F:HasC P tI tS tB lS tE tV tL tCo lCo tCn lCn) (h:Shp P lCn d):∃l,d=cnsDt l∧l.length≤maxLen∧∀x∈l,fCn x:=shp_l F.cns (by decide) (fun x hx=>shp_cn F hx) h
variable {tIx lIx tT:TypeId}
structure HasSt (P:Program) (tI tS tB lS tE tV tL tCo lCo tCn lCn lR tSe lSe tOr lOr tSt lSt:TypeId):Prop where
 c:HasC P tI tS tB lS tE tV tL tCo lCo tCn lCn
 rows:IsList P lR tL 1
 se:IsRec P tSe 8 [(0,1,tS),(1,7,tE)]
 ses:IsList P lSe tSe 8
 ord:IsRec P tOr 8 [(0,7,tE),(7,1,tB)]
 ords:IsList P lOr tOr 8
 st:IsRec P tSt 21 [(0,1,tI),(1,1,tS),(2,1,tS),(3,1,tS),(4,1,lCo),(5,1,lCn),(6,1,lS),(7,1,lR),(8,7,tE),(15,1,lSe),(16,1,lOr),(17,1,tI),(18,1,tI),(19,1,tB),(20,1,lSt)]
 sts:IsList P lSt tSt 21
variable {lR tSe lSe tOr lOr tSt lSt:TypeId}
theorem shp_se (F:HasSt P tI tS tB lS tE tV tL tCo lCo tCn lCn lR tSe lSe tOr lOr tSt lSt) (h:Shp P tSe d):∃x,d=seDt x∧fS x.1∧Fine x.2:=by
 obtain ⟨ds,rfl,hl,hf⟩:=rec_open F.se h
 match ds,hl with
 | [y0,y1],_=>
   obtain ⟨nm,rfl,g0⟩:=shp_s F.c.b (hf 0 _ y0 rfl rfl)
   obtain ⟨e,rfl,g1⟩:=(shp_ex F.c.e y1).1 (hf 1 _ y1 rfl rfl)
   exact ⟨(nm,e),rfl,g0,g1⟩
theorem shp_or (F:HasSt P tI tS tB lS tE tV tL tCo lCo tCn lCn lR tSe lSe tOr lOr tSt lSt) (h:Shp P tOr d):∃x,d=orDt x∧Fine x.1:=by
 obtain ⟨ds,rfl,hl,hf⟩:=rec_open F.ord h
 match ds,hl with
 | [y0,y1],_=>
   obtain ⟨e,rfl,g0⟩:=(shp_ex F.c.e y0).1 (hf 0 _ y0 rfl rfl)
   obtain ⟨b,rfl⟩:=shp_b F.c.b (hf 1 _ y1 rfl rfl)
   exact ⟨(e,b),rfl,g0⟩
theorem shp_rw (F:HasSt P tI tS tB lS tE tV tL tCo lCo tCn lCn lR tSe lSe tOr lOr tSt lSt) (h:Shp P tL d):∃x,d=exsDt x∧fEs x:=by
 obtain ⟨l,rfl,h1,h2⟩:=(shp_ex F.c.e d).2 h
 exact ⟨l,rfl,h1,h2⟩
theorem shp_st (F:HasSt P tI tS tB lS tE tV tL tCo lCo tCn lCn lR tSe lSe tOr lOr tSt lSt):∀d,(Shp P tSt d→∃x,d=stDt x∧fSt x)∧(Shp P lSt d→∃l:List St,d= .row 21 (l.map stDt)∧l.length≤maxLen∧∀x∈l,fSt x):=by
 refine Dt.byParts (fun v=>⟨fun h=>?_,fun h=>?_⟩) (fun n sp fs ih=>⟨fun h=>?_,fun h=>?_⟩) (fun k xs ih=>⟨fun h=>?_,fun h=>?_⟩) ⟨fun h=>?_,fun h=>?_⟩
 · obtain ⟨ds,e,_⟩:=rec_open F.st h;cases e
 · obtain ⟨ds,e,_⟩:=list_open F.sts (by decide) h;cases e
 · obtain ⟨ds,e,hl,hf⟩:=rec_open F.st h
   injection e with e1 e2 e3
   subst e1 e2 e3
   match fs,hl,ih with
   | [y0,y1,y2,y3,y4,y5,y6,y7,y8,y9,y10,y11,y12,y13,y14],_,ih=>
     obtain ⟨k,rfl,g0⟩:=shp_i F.c.b (hf 0 _ y0 rfl rfl)
     obtain ⟨t,rfl,g1⟩:=shp_s F.c.b (hf 1 _ y1 rfl rfl)
     obtain ⟨n,rfl,g2⟩:=shp_s F.c.b (hf 2 _ y2 rfl rfl)
     obtain ⟨r,rfl,g3⟩:=shp_s F.c.b (hf 3 _ y3 rfl rfl)
     obtain ⟨cols,rfl,g4⟩:=shp_cos F.c (hf 4 _ y4 rfl rfl)
     obtain ⟨cons,rfl,g5⟩:=shp_cns F.c (hf 5 _ y5 rfl rfl)
     obtain ⟨names,rfl,g6⟩:=shp_ss F.c.b (hf 6 _ y6 rfl rfl)
     obtain ⟨rows,rfl,g7⟩:=shp_l (f:=exsDt) F.rows (by decide) (fun x hx=>shp_rw F hx) (hf 7 _ y7 rfl rfl)
     obtain ⟨wh,rfl,g8⟩:=(shp_ex F.c.e y8).1 (hf 8 _ y8 rfl rfl)
     obtain ⟨sets,rfl,g9⟩:=shp_l (f:=seDt) F.ses (by decide) (fun x hx=>shp_se F hx) (hf 9 _ y9 rfl rfl)
     obtain ⟨order,rfl,g10⟩:=shp_l (f:=orDt) F.ords (by decide) (fun x hx=>shp_or F hx) (hf 10 _ y10 rfl rfl)
     obtain ⟨limit,rfl,g11⟩:=shp_i F.c.b (hf 11 _ y11 rfl rfl)
     obtain ⟨priv,rfl,g12⟩:=shp_i F.c.b (hf 12 _ y12 rfl rfl)
     obtain ⟨opt,rfl⟩:=shp_b F.c.b (hf 13 _ y13 rfl rfl)
     obtain ⟨kids,rfl,g14,g15⟩:=(ih y14 (by simp)).2 (hf 14 _ y14 rfl rfl)
     exact ⟨.mk k t n r cols cons names rows wh sets order limit priv opt kids,(stDt_mk _ _ _ _ _ _ _ _ _ _ _ _ _ _ _).symm,(fSt_mk _ _ _ _ _ _ _ _ _ _ _ _ _ _ _).2 ⟨⟨g0,⟨g1,g2,g3⟩,g4,g5,g6,g7,g8,g9,g10,g11,g12⟩,g14,g15⟩⟩
 · obtain ⟨ds,e,_⟩:=list_open F.sts (by decide) h;cases e
 · obtain ⟨ds,e,_⟩:=rec_open F.st h;cases e
 · obtain ⟨ds,e,hl,hf⟩:=list_open F.sts (by decide) h
   injection e with e1 e2
   subst e1 e2
   obtain ⟨l,rfl,hl2⟩:=list_of (f:=stDt) (p:=fSt) fun x hx=>(ih x hx).1 (hf x hx)
   exact ⟨l,rfl,by simpa using hl,hl2⟩
 · obtain ⟨ds,e,_⟩:=rec_open F.st h;cases e
 · obtain ⟨ds,e,_⟩:=list_open F.sts (by decide) h;cases e
end
end Go.Proofs.YtiaomhdmllhmmaaGreatDoor.Sm
