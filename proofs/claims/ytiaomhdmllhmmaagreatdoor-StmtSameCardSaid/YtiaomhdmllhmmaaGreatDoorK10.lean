/- The cells of statements, constraints, columns and tables, one by one. An operation of a region that draws its order, which only reads. Tokens as the program's parser has them: whether one is right, and the value that a right  Has a tree few parts? The document's count (registrarref10.count, Few). A tree that came in as an argument. A variable of a row's list, wherever it stands on it: a table of integers. -/
import Derived.Test.YtiaomhdmllhmmaaGreatDoorK02
import Derived.WalkKit
import Derived.ProofKit
import Derived.BigFrame
import Derived.BigQuiet
import Derived.Deep.QuietTactic
import Derived.Test.YtiaomhdmllhmmaaGreatDoorProg
import Derived.WalkSpells
import Derived.WalkLawsBesides
import Derived.Lib.Hide
import Derived.Lib.IndexBytes
import Derived.Test.YtiaomhdmllhmmaaGreatDoorK05
import Derived.Test.YtiaomhdmllhmmaaGreatDoorK01
import Derived.Test.YtiaomhdmllhmmaaGreatDoorK09
import Derived.Test.YtiaomhdmllhmmaaGreatDoorRows
import Derived.Test.YtiaomhdmllhmmaaGreatDoorK03
import Derived.OpenShut
import Derived.ChangeOld
namespace Go.Proofs.YtiaomhdmllhmmaaGreatDoor.Sm
open Go.RowKit Mem Ep Go.ChangeShapes Go.WideShapes
set_option linter.unusedVariables false
def IsRow (w:World) (S:Nat→Prop) (k:Nat) (xs:List Dt) (v:Value):Prop:=∃A c,v= .slice A xs.length c∧xs.length≤c∧c≤maxLen∧(A=none→c=0)∧RowIn w S A k xs 0
section
variable {w w' :World} {S S' :Nat→Prop}
theorem row_is {k:Nat} {xs:List Dt} {cs:List Value}:DtIn w S (.row k xs) cs↔∃v,cs= [v]∧IsRow w S k xs v:=by
 rw [in_row]
 constructor
 · rintro ⟨A,c,rfl,h⟩
   exact ⟨_,rfl,A,c,rfl,h⟩
 · rintro ⟨v,rfl,A,c,rfl,h⟩
   exact ⟨A,c,rfl,h⟩
theorem IsRow.to {k:Nat} {xs:List Dt} {v:Value} (hS:∀b,S b→S' b) (hk:∀p:Addr,S p.block→w'.cell? p=w.cell? p) (h:IsRow w S k xs v):IsRow w' S' k xs v:=by
 obtain ⟨A,c,e,h1,h2,h3,h4⟩:=h
 exact ⟨A,c,e,h1,h2,h3,h4.to hS hk⟩
theorem i_in {n:Int} {cs:List Value}:DtIn w S (iDt n) cs↔cs= [.int .i64 n]:=in_one
theorem s_in {l:Bs} {cs:List Value}:DtIn w S (sDt l) cs↔cs= [.string (txt l)]:=in_one
theorem b_in {b:Bool} {cs:List Value}:DtIn w S (bDt b) cs↔cs= [.bool b]:=in_one
theorem co_in {x:Co} {cs:List Value}:DtIn w S (coDt x) cs↔cs= [.string (txt x.nm), .int .i64 x.ty, .bool x.nn]:=by
 unfold coDt
 rw [in_rec,rec_cons,rec_cons,rec_cons,s_in,i_in,b_in]
 constructor
 · rintro ⟨hl,h0,h1,h2,_⟩
   match cs,hl with
   | [a0,a1,a2],_=>
     simp [span] at h0 h1 h2
     rw [h0,h1,h2]
 · rintro rfl
   exact ⟨rfl,rfl,rfl,rfl,rec_nil⟩
theorem cn_in {x:Cn} {cs:List Value}:DtIn w S (cnDt x) cs↔∃u1 e u2,cs= [.string (txt x.nm), .int .i64 x.kind,u1]++(e++ [.string (txt x.tbl),u2])∧IsRow w S 1 (x.cols.map sDt) u1∧ExIn w S x.chk e∧IsRow w S 1 (x.refs.map sDt) u2:=by
 unfold cnDt ssDt
 rw [in_rec,rec_cons,rec_cons,rec_cons,rec_cons,rec_cons,rec_cons,s_in,i_in,row_is,s_in,row_is]
 constructor
 · rintro ⟨hl,h0,h1,⟨u1,h2,g2⟩,h3,h4,⟨u2,h5,g5⟩,_⟩
   match cs,hl with
   | [a0,a1,a2,a3,a4,a5,a6,a7,a8,a9,a10,a11],_=>
     simp [span] at h0 h1 h2 h4 h5
     subst h0 h1 h2 h4 h5
     exact ⟨_, [a3,a4,a5,a6,a7,a8,a9],_,rfl,g2,h3,g5⟩
 · rintro ⟨u1,e,u2,rfl,g2,g3,g5⟩
   have hl:=g3.len
   match e,hl with
   | [a3,a4,a5,a6,a7,a8,a9],_=>exact ⟨rfl,rfl,rfl,⟨_,rfl,g2⟩,g3,rfl,⟨_,rfl,g5⟩,rec_nil⟩
theorem se_in {x:Bs × Ex} {cs:List Value}:DtIn w S (seDt x) cs↔∃e,cs= .string (txt x.1)::e∧ExIn w S x.2 e:=by
 unfold seDt
 rw [in_rec,rec_cons,rec_cons,s_in]
 constructor
 · rintro ⟨hl,h0,h1,_⟩
   match cs,hl with
   | [a0,a1,a2,a3,a4,a5,a6,a7],_=>
     simp [span] at h0
     subst h0
     exact ⟨[a1,a2,a3,a4,a5,a6,a7],rfl,h1⟩
 · rintro ⟨e,rfl,g⟩
   have hl:=g.len
   match e,hl with
   | [a1,a2,a3,a4,a5,a6,a7],_=>exact ⟨rfl,rfl,g,rec_nil⟩
theorem or_in {x:Ex × Bool} {cs:List Value}:DtIn w S (orDt x) cs↔∃e,cs=e++ [.bool x.2]∧ExIn w S x.1 e:=by
 unfold orDt
 rw [in_rec,rec_cons,rec_cons,b_in]
 constructor
 · rintro ⟨hl,h0,h1,_⟩
   match cs,hl with
   | [a0,a1,a2,a3,a4,a5,a6,a7],_=>
     simp [span] at h1
     subst h1
     exact ⟨[a0,a1,a2,a3,a4,a5,a6],rfl,h0⟩
 · rintro ⟨e,rfl,g⟩
   have hl:=g.len
   match e,hl with
   | [a1,a2,a3,a4,a5,a6,a7],_=>exact ⟨rfl,g,rfl,rec_nil⟩
theorem st_in {k:Int} {t n r:Bs} {cols:List Co} {cons:List Cn} {names:List Bs} {rows:List (List Ex)} {wh:Ex} {sets:List (Bs × Ex)} {order:List (Ex × Bool)} {limit priv:Int} {opt:Bool} {kids:List St} {cs:List Value}:
   DtIn w S (stDt (.mk k t n r cols cons names rows wh sets order limit priv opt kids)) cs↔∃u4 u5 u6 u7 e u9 u10 u14,
     cs= [.int .i64 k, .string (txt t), .string (txt n), .string (txt r),u4,u5,u6,u7]++(e++ [u9,u10, .int .i64 limit, .int .i64 priv, .bool opt,u14])∧
     IsRow w S 3 (cols.map coDt) u4∧IsRow w S 12 (cons.map cnDt) u5∧IsRow w S 1 (names.map sDt) u6∧IsRow w S 1 (rows.map exsDt) u7∧ExIn w S wh e∧IsRow w S 8 (sets.map seDt) u9∧IsRow w S 8 (order.map orDt) u10∧IsRow w S 21 (kids.map stDt) u14:=by
 rw [stDt_mk]
 unfold cosDt cnsDt ssDt rwsDt stSp
 rw [in_rec]
 iterate 15 rw [rec_cons]
 rw [i_in,s_in,s_in,s_in,row_is,row_is,row_is,row_is,row_is,row_is,i_in,i_in,b_in,row_is]
 constructor
 · rintro ⟨hl,h0,h1,h2,h3,⟨u4,h4,g4⟩,⟨u5,h5,g5⟩,⟨u6,h6,g6⟩,⟨u7,h7,g7⟩,h8,⟨u9,h9,g9⟩,⟨u10,h10,g10⟩,h11,h12,h13,⟨u14,h14,g14⟩,_⟩
   match cs,hl with
   | [a0,a1,a2,a3,a4,a5,a6,a7,b0,b1,b2,b3,b4,b5,b6,c0,c1,c2,c3,c4,c5],_=>
     simp [span] at h0 h1 h2 h3 h4 h5 h6 h7 h9 h10 h11 h12 h13 h14
     subst h0 h1 h2 h3 h4 h5 h6 h7 h9 h10 h11 h12 h13 h14
     exact ⟨_,_,_,_, [b0,b1,b2,b3,b4,b5,b6],_,_,_,rfl,g4,g5,g6,g7,h8,g9,g10,g14⟩
 · rintro ⟨u4,u5,u6,u7,e,u9,u10,u14,rfl,g4,g5,g6,g7,g8,g9,g10,g14⟩
   have hl:=g8.len
   match e,hl with
   | [b0,b1,b2,b3,b4,b5,b6],_=>
     exact ⟨rfl,rfl,rfl,rfl,rfl,⟨_,rfl,g4⟩,⟨_,rfl,g5⟩,⟨_,rfl,g6⟩,⟨_,rfl,g7⟩,g8,⟨_,rfl,g9⟩,⟨_,rfl,g10⟩,rfl,rfl,rfl,⟨_,rfl,g14⟩,rec_nil⟩
end
end Go.Proofs.YtiaomhdmllhmmaaGreatDoor.Sm
namespace Go.Proofs.YtiaomhdmllhmmaaGreatDoor.Mem
open Go.RowKit
set_option linter.unusedVariables false
theorem quietC_val {C:World→Prop} {K:Act→Prop} {o:Oper} {a:Act} (h:∃v,(∀w,C w→(execOp a.eval o).run Tryz.prog w= .ok (.value v) w)∧K (a.put o.dst v)):o.quiet Tryz.prog a C K:=by
 obtain ⟨v,h1,h2⟩:=h
 exact ⟨v,fun w hw=>by unfold Oper.quietAt;rw [h1 w hw];exact ⟨rfl,rfl⟩,h2⟩
end Go.Proofs.YtiaomhdmllhmmaaGreatDoor.Mem
namespace Go.Proofs.YtiaomhdmllhmmaaGreatDoor.Ep
open Go.RowKit Mem Right Lx
set_option linter.unusedVariables false
theorem lng_zero (s:List UInt8) (n:Nat) (h:lng s=(0,n)):n=0∧s≠ []:=by
 refine ⟨?_,fun e=>by rw [e] at h;cases h⟩
 have ho:∀k n m:Nat,k≠0→orN k n=(0,m)→m=0:=fun k n m hk e=>by
   unfold orN at e
   split at e
   · injection e with _ e;exact e.symm
   · injection e with e _;omega
 have hp:∀k a m:Nat,k≠0→((k,a):Nat × Nat)=(0,m)→m=0:=fun k a m hk e=>by
   injection e with e _;omega
 cases s with
 |nil=>cases h
 | cons c t=>
   simp only [lng] at h
   repeat' split at h
   all_goals first
     |exact hp _ _ _ (by decide) h
     |exact ho _ _ _ (by decide) h
theorem kind_whole (s:List UInt8) (k:Nat) (hk:k≠0):lng s=(k,s.length)↔kindOf s=k:=by
  constructor
  · intro h
    by_cases hs:s= []
    · subst hs
      have h' :((7,0):Nat × Nat)=(k,0):=h
      injection h' with h' _
    · have hb:bad s=false:=by
        unfold bad
        rw [h]
        simp only [List.drop_length]
        rw [decide_eq_false hk]
        unfold Lx.on free
        simp
      have hn:next s=some (k,s.length):=by rw [next_bad hs,hb,h];rfl
      unfold kindOf
      rw [if_neg hs,hn]
      simp
  · intro h
    exact kind_lng h (by omega)
theorem isToken_int (k:Int) (s:ByteArray) (hs:s.size≤1000000) (w:World) (h:Signs w):
    Calls Tryz.prog 199 #[.int .i64 k, .string s] w fun e w' =>e= .returned (.bool (decide (kindOf s.data.toList≠0∧k=(kindOf s.data.toList:Int))))∧w=w' :=by
  obtain ⟨k',n,hl⟩:∃k' n,lng s.data.toList=(k',n):=⟨_,_,rfl⟩
  have HH:=Lib.hid (show ∀W,Signs W→Calls Tryz.prog 46 #[.string s] W fun e w' =>e= .returned (.tuple #[.int .i64 (k' :Int), .int .i64 (n:Int)])∧W=w' from fun W hW=>by
    have:=longest_any s hs W hW
    rw [hl] at this
    exact this)
  have HS:=Lib.hid h
  have hlen:s.data.toList.length=s.size:=by rw [Array.length_toList];rfl
  by_cases hk:(k' :Int)=k
  · subst hk
    have tk:((k' :Int)==(k' :Int))=true:=by simp
    have H:=Lib.hid (show ((n:Int)==(s.size:Int))=decide (kindOf s.data.toList≠0∧(k' :Int)=(kindOf s.data.toList:Int)) by
      by_cases h0:k' =0
      · subst h0
        obtain ⟨hn,hne⟩:=lng_zero _ _ hl
        have:0<s.data.toList.length:=List.length_pos_iff.2 hne
        rw [beq_no (by omega),eq_comm]
        exact decide_eq_false fun g=>g.1 (by have:=g.2;omega)
      by_cases e:n=s.size
      · subst e
        rw [←hlen] at hl
        have:=(kind_whole _ _ h0).1 hl
        rw [this]
        simpa using h0
      · rw [beq_no (by omega),eq_comm]
        refine decide_eq_false fun g=>e ?_
        have h1:kindOf s.data.toList=k' :=by have:=g.2;omega
        have h2:=(kind_whole _ _ h0).2 h1
        rw [hl] at h2
        injection h2 with _ h2)
    clear h hl
    go_enter Tryz.func199,Tryz.ntmps199
    go_wp2_with (go_at_call 46;refine (HH.out _ HS.out).mono ?_;rintro e w' ⟨rfl,rfl⟩)
    go_ret
    exact ⟨rb H.out,rfl⟩
  · have tk:((k' :Int)==k)=false:=beq_no hk
    have H:=Lib.hid (show false=decide (kindOf s.data.toList≠0∧k=(kindOf s.data.toList:Int)) by
      rw [eq_comm]
      refine decide_eq_false fun g=>hk ?_
      have h2:=(kind_whole _ _ g.1).2 rfl
      rw [hl] at h2
      injection h2 with h2 _
      rw [h2,g.2])
    clear h hl hk
    go_enter Tryz.func199,Tryz.ntmps199
    go_wp2_with (go_at_call 46;refine (HH.out _ HS.out).mono ?_;rintro e w' ⟨rfl,rfl⟩)
    go_ret
    exact ⟨rb H.out,rfl⟩
end Go.Proofs.YtiaomhdmllhmmaaGreatDoor.Ep
namespace Go.Proofs.YtiaomhdmllhmmaaGreatDoor.Ep
open Go.RowKit Mem Right
set_option linter.unusedVariables false
def cntR:Option Nat→Array Value
 |none=> #[.int .i64 0, .bool false]
 |some m=> #[.int .i64 (m:Int), .bool true]
theorem cnt_mk (k o vk vn:Int) (vs nm:List UInt8) (kids:List Ex) (n:Nat):cnt (.mk k o vk vn vs nm kids) n=if n=0 ∨ 12<kids.length ∨ 100<nm.length ∨ 100<vs.length then none else cntL kids (n - 1):=by rw [cnt]
theorem cntL_nil (n:Nat):cntL [] n=some n:=by rw [cntL]
theorem cntL_cons (x:Ex) (l:List Ex) (n:Nat):cntL (x::l) n=match cnt x n with|none=>none|some m=>cntL l m:=by rw [cntL];rfl
theorem cnt_le {e:Ex} {n m:Nat} (h:cnt e n=some m):m≤n:=by have:=cnt_size h;omega
set_option maxHeartbeats 4000000 in
theorem count_any:∀(e:Ex) (cs:List Value) (n:Nat) (w:World),ExAt w w.heap.size e cs→n≤1000→
    Calls Tryz.prog 38 #[.agg cs.toArray, .int .i64 (n:Int)] w fun x w' =>x= .returned (.tuple (cntR (cnt e n)))∧Below w.heap.size w w' :=by
  refine Ex.byKids fun k o vk vn vs nm kids ih cs n w h hn=>?_
  obtain ⟨A,kn,c,rfl,hkn,hc1,hc2,hc3,hk⟩:=ex_open h
  rw [cnt_mk]
  obtain ⟨nb,hnb⟩:∃nb,txt nm=nb:=⟨_,rfl⟩
  obtain ⟨vb,hvb⟩:∃vb,txt vs=vb:=⟨_,rfl⟩
  have hns:nb.size=nm.length:=by rw [←hnb];rfl
  have hvs:vb.size=vs.length:=by rw [←hvb];rfl
  rw [hnb,hvb]
  have HB0:=Lib.hid (al (Below.refl w.heap.size w) (.cells #[.int .i64 k, .int .i64 o, .int .i64 vk, .int .i64 vn, .string vb, .string nb, .slice A kn c] 30))
  have HN:=Lib.hid hkn
  have t1c:12<kids.length↔12<kn:=by rw [hkn]
  clear hkn
  by_cases h0:n=0
  · subst h0
    rw [if_pos (.inl rfl)]
    go_enter Tryz.func38,Tryz.ntmps38
    go_wp2
    go_ret2
    exact ⟨rfl,HB0.out⟩
  have t0:decide ((n:Int)≤0)=false:=decide_eq_false (by omega)
  by_cases h1:12<kids.length
  · rw [if_pos (.inr (.inl h1))]
    have t1:decide (12<(kn:Int))=true:=decide_eq_true (by have:=t1c.1 h1;omega)
    clear h1 t1c
    go_enter Tryz.func38,Tryz.ntmps38
    go_wp2
    go_ret2
    exact ⟨rfl,HB0.out⟩
  have t1:decide (12<(kn:Int))=false:=decide_eq_false (fun g=>h1 (t1c.2 (by omega)))
  have h12:kn≤12:=by omega
  by_cases h2:100<nm.length
  · rw [if_pos (.inr (.inr (.inl h2)))]
    have t2:decide (100<(nb.size:Int))=true:=decide_eq_true (by omega)
    go_enter Tryz.func38,Tryz.ntmps38
    go_wp2
    go_ret2
    exact ⟨rfl,HB0.out⟩
  have t2:decide (100<(nb.size:Int))=false:=decide_eq_false (by omega)
  by_cases h3:100<vs.length
  · rw [if_pos (.inr (.inr (.inr h3)))]
    have t3:decide (100<(vb.size:Int))=true:=decide_eq_true (by omega)
    go_enter Tryz.func38,Tryz.ntmps38
    go_wp2
    go_ret2
    exact ⟨rfl,HB0.out⟩
  have t3:decide (100<(vb.size:Int))=false:=decide_eq_false (by omega)
  rw [if_neg (by omega)]
  have HK:=Lib.hid hk
  obtain ⟨n1,hn1⟩:∃n1,n - 1=n1:=⟨_,rfl⟩
  have hn1' :(n:Int) - 1=(n1:Int):=by omega
  rw [hn1]
  clear hk h hnb hvb hns hvs hn1 h1 h2 h3 hc1 hc2 hc3 t1c
  go_enter Tryz.func38,Tryz.ntmps38
  go_wp2
  go_loopw [6,1] (fun i l wr=>∃(j m:Nat),j≤kn∧m≤1000∧i= .int .i64 (j:Int)∧l= .int .i64 (m:Int)∧Hid (cntL kids n1=cntL (kids.drop j) m)∧Hid (Below (w.alloc (.cells #[.int .i64 k, .int .i64 o, .int .i64 vk, .int .i64 vn, .string vb, .string nb, .slice A kn c] 30)).heap.size (w.alloc (.cells #[.int .i64 k, .int .i64 o, .int .i64 vk, .int .i64 vn, .string vb, .string nb, .slice A kn c] 30)) wr)) (fun i _ _=>kn+1 - (intOf i).toNat)
  case atStart=>exact ⟨0,n1,Nat.zero_le _,by omega,rfl,rfl,Lib.hid (by rw [List.drop_zero]),Lib.hid (Below.refl _ _)⟩
  case round=>
    obtain ⟨j,m,hj,hm,rfl,rfl,HL,HB⟩:=hrel
    have HBw:=Lib.hid (HB0.out.trans (HB.out.mono HB0.out.size))
    have d6:=HB.out.cell (p:=⟨w.heap.size,6,none⟩) (by simp)
    by_cases hlt:j<kn
    · obtain ⟨x,hx⟩:=kid_some (l:=kids) (j:=j) (by have:=HN.out;omega)
      obtain ⟨k',o',vk',vn',vs',nm',ks',A',n',c',b,p,e,rfl,hb,hn',c0,c1,c2,c3,c4,c5,c6,hin⟩:=kid_at HK.out hx
      have HI:∀W,Below w.heap.size w W→Calls Tryz.prog 38 #[exV k' o' vk' vn' (txt vs') (txt nm') A' n' c', .int .i64 (m:Int)] W fun x' w' =>x' = .returned (.tuple (cntR (cnt x m)))∧Below W.heap.size W w' :=fun W hW=>ih x (kid_mem hx) _ m W (ExAt.on hin hW) hm
      rw [drop_kid hx,cntL_cons] at HL
      have c0:=(HBw.out.cell hb).trans c0
      have c1:=(HBw.out.cell hb).trans c1
      have c2:=(HBw.out.cell hb).trans c2
      have c3:=(HBw.out.cell hb).trans c3
      have c4:=(HBw.out.cell hb).trans c4
      have c5:=(HBw.out.cell hb).trans c5
      have c6:=(HBw.out.cell hb).trans c6
      have tl:decide ((j:Int)<(kn:Int))=true:=decide_eq_true (by omega)
      clear hin hn' e
      cases hcx:cnt x m with
      | none=>
        rw [hcx] at HI HL
        simp only [cntR] at HI
        have HI:=Lib.hid HI
        go_wp2_with (go_at_call 38;(with_reducible refine (HI.out _ HBw.out).mono ?_);rintro e' w2 ⟨rfl,hb2⟩;have HB2:=Lib.hid hb2;clear hb2)
        go_ret2
        exact ⟨by rw [HL.out];rfl,Mem.on HBw.out HB2.out⟩
      | some m' =>
        rw [hcx] at HI HL
        simp only [cntR] at HI
        have hm' :=cnt_le hcx
        have HI:=Lib.hid HI
        go_wp2_with (go_at_call 38;(with_reducible refine (HI.out _ HBw.out).mono ?_);rintro e' w2 ⟨rfl,hb2⟩;have HB2:=Lib.hid hb2;clear hb2)
        go_roundw
        case rel=>exact ⟨j+1,m',by omega,by omega,by go_num,rfl,HL,Lib.hid (HB.out.trans (HB2.out.mono HB.out.size))⟩
        case measure=>simp [intOf];omega
    · have tl:decide ((j:Int)<(kn:Int))=false:=decide_eq_false (by omega)
      have hd:kids.drop j= []:=List.drop_eq_nil_of_le (by have:=HN.out;omega)
      rw [hd,cntL_nil] at HL
      go_wp2
      go_ret2
      exact ⟨by rw [HL.out];rfl,HBw.out⟩
theorem few_any (e:Ex) (cs:List Value) (n:Nat) (w:World) (h:ExAt w w.heap.size e cs) (hn:n≤1000):
   Calls Tryz.prog 21 #[.agg cs.toArray, .int .i64 (n:Int)] w fun x w' =>x= .returned (.bool (cnt e n).isSome)∧Below w.heap.size w w' :=by
 have HC:∀W,Below w.heap.size w W→Calls Tryz.prog 38 #[.agg cs.toArray, .int .i64 (n:Int)] W fun x w' =>x= .returned (.tuple (cntR (cnt e n)))∧Below W.heap.size W w' :=fun W hW=>count_any e cs n W (h.on hW) hn
 obtain ⟨k,o,vk,vn,vs,nm,kids⟩:=e
 obtain ⟨A,kn,c,rfl, -⟩:=ex_open h
 have HB0:=Lib.hid (al (Below.refl w.heap.size w) (.cells #[.int .i64 k, .int .i64 o, .int .i64 vk, .int .i64 vn, .string (txt vs), .string (txt nm), .slice A kn c] 30))
 cases hc:cnt (.mk k o vk vn vs nm kids) n with
 | none=>
   rw [hc] at HC
   simp only [cntR] at HC
   have HC:=Lib.hid HC
   clear h
   go_enter Tryz.func21,Tryz.ntmps21
   go_wp2_with (go_at_call 38;(with_reducible refine (HC.out _ HB0.out).mono ?_);rintro e' w2 ⟨rfl,hb2⟩;have HB2:=Lib.hid hb2;clear hb2)
   go_ret
   exact ⟨rfl,Mem.on HB0.out HB2.out⟩
 | some m=>
   rw [hc] at HC
   simp only [cntR] at HC
   have HC:=Lib.hid HC
   clear h
   go_enter Tryz.func21,Tryz.ntmps21
   go_wp2_with (go_at_call 38;(with_reducible refine (HC.out _ HB0.out).mono ?_);rintro e' w2 ⟨rfl,hb2⟩;have HB2:=Lib.hid hb2;clear hb2)
   go_ret
   exact ⟨rfl,Mem.on HB0.out HB2.out⟩
end Go.Proofs.YtiaomhdmllhmmaaGreatDoor.Ep
namespace Go.Proofs.YtiaomhdmllhmmaaGreatDoor.Ep
open Go.ChangeShapes Go.WideShapes Go.ChangeAt Go.RowKit Mem Right
set_option linter.unusedVariables false
theorem hasEx:HasEx Tryz.prog 30 27 28 where
 ex:=⟨_,_,_,_,_,Tryz.underlying30,⟨rfl,rfl,rfl,rfl,rfl⟩,rfl,rfl,⟨Tryz.underlying3,by kernel_rfl⟩,⟨Tryz.underlying3,by kernel_rfl⟩,⟨Tryz.underlying9,by kernel_rfl⟩⟩
 val:=⟨_,_,_,Tryz.underlying27,⟨rfl,rfl,rfl⟩,⟨Tryz.underlying3,by kernel_rfl⟩,⟨Tryz.underlying3,by kernel_rfl⟩,⟨Tryz.underlying9,by kernel_rfl⟩⟩
 list:=Tryz.underlying28
 size:=⟨by kernel_rfl,by kernel_rfl,by kernel_rfl⟩
section
variable {H:Type} {enc:TypeId × Value→H} {W:World}
end
end Go.Proofs.YtiaomhdmllhmmaaGreatDoor.Ep
namespace Go.Proofs.YtiaomhdmllhmmaaGreatDoor.Mem
open Go.RowKit
set_option linter.unusedVariables false
theorem laid_tab {P:Program} {W:World} {l:List (String × DataW Unit)} {name:String} {k:IntKind} {zs:List Int} {g:Nat} {t e:TypeId} {n:Nat} (h:laidMetH P l W) (hp:(l.all fun x=>x.2.handleName?.isNone)=true)
   (hm:(name,(Lib.tabData k zs:DataW Unit))∈l) (hg:P.globalNamed name=some g) (hty:(P.globals[g]?).map (·.type)=some t) (ht:P.underlying t=some (.array n e)) (he:P.underlying e=some (.int k)) (hce:P.cellsOf e=1) (hct:P.cellsOf t=n):Lib.TabIs P W name k zs:=by
 rw [MakeChecks.laidMetH_plain _ _ _ hp] at h
 obtain ⟨ps,hv,_,_⟩:=h
 obtain ⟨g0,t0,cs0,f0,p0,hg0,ht0,hv0,hd0⟩:=laid_var hv hm
 obtain rfl:=Option.some.inj (hg.symm.trans hg0)
 obtain rfl:=Option.some.inj (hty.symm.trans ht0)
 unfold Lib.TabIs
 rw [hv0,←Lib.cells_of_tab ht he hce hct hd0]
end Go.Proofs.YtiaomhdmllhmmaaGreatDoor.Mem
