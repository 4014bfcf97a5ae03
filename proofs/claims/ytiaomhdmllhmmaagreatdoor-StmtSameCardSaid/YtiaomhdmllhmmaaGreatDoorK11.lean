/- Some in brackets, a comma between each two, are written. A call and an IN are written; so is every right tree without slots. What is right, as the program finds it, and how long its texts may be: as mathematics. -/
import Derived.Deep.CutRange
import Derived.Test.YtiaomhdmllhmmaaGreatDoorK08
import Derived.Test.YtiaomhdmllhmmaaGreatDoorK09
import Derived.Test.YtiaomhdmllhmmaaGreatDoorK02
namespace Go.Proofs.YtiaomhdmllhmmaaGreatDoor.Ep
open Go.RowKit Mem Right Lx
set_option linter.unusedVariables false
theorem pcsL_snoc (x:Ex):∀{l:List Ex},l≠ []→pcsL (l++ [x])=pcsL l++(some (sgn6 44)::pcs x)
 | [],h=>absurd rfl h
 | [a],_=>by rw [List.singleton_append,pcsL_more,pcsL_one,pcsL_one]
 | a::c::l,_=>by
   rw [List.cons_append,List.cons_append,pcsL_more,pcsL_more,←List.cons_append,pcsL_snoc x (l:=c::l) (by simp),List.append_assoc]
   rfl
def tL (l:List Ex) (j:Nat):List UInt8:=tx (pcsL (l.take j))
theorem tL_zero (l:List Ex):tL l 0= []:=by unfold tL;rw [List.take_zero,pcsL];rfl
theorem tL_one {l:List Ex} {x:Ex} (h:l[0]?=some x):tL l 1=tx (pcs x):=by
 unfold tL
 rw [List.take_add_one,h]
 rfl
theorem tL_more {l:List Ex} {j:Nat} {x:Ex} (h:l[j]?=some x) (hj:0<j):tL l (j+1)=tL l j++([44]++tx (pcs x)):=by
 unfold tL
 have hl:=(List.getElem?_eq_some_iff.1 h).1
 have hne:l.take j≠ []:=fun e=>by have:=congrArg List.length e;rw [List.length_take,Nat.min_eq_left (Nat.le_of_lt hl),List.length_nil] at this;omega
 rw [List.take_add_one,h]
 show tx (pcsL (l.take j++ [x]))=_
 rw [pcsL_snoc x hne,tx_app,tx_some]
 rfl
theorem tL_step {l:List Ex} {j:Nat} (hj:j<l.length):(tL l j).length≤(tL l (j+1)).length:=by
 obtain ⟨x,hx⟩:=kid_some hj
 by_cases h0:0<j
 · rw [tL_more hx h0];simp
 · obtain rfl:j=0:=by omega
   rw [tL_zero];simp
theorem tL_le {l:List Ex}:∀{m j:Nat},j+m≤l.length→(tL l j).length≤(tL l (j+m)).length
 |0,j,_=>Nat.le_refl _
 |m+1,j,h=>Nat.le_trans (tL_le (m:=m) (by omega)) (tL_step (by omega))
theorem tL_all (l:List Ex):tL l l.length=tx (pcsL l):=by unfold tL;rw [List.take_length]
theorem tL_top {l:List Ex} {j:Nat} (h:j≤l.length):(tL l j).length≤(tx (pcsL l)).length:=by
 have:=tL_le (l:=l) (j:=j) (m:=l.length - j) (by omega)
 rw [show j+(l.length - j)=l.length by omega,tL_all] at this
 exact this
set_option maxHeartbeats 4000000 in
set_option maxRecDepth 100000 in
theorem list_any (kids:List Ex) (hk:∀x∈kids,KidC x) (A:Option Addr) (cp b:Nat) (l:List UInt8) (w:World) (h:KidsIn w (fun c=>c<b) A 0 kids) (hkm:kids.length≤1000) (hl:Bl b l w) (hO:Osg w) (hg:gTop<b) (hlen:l.length+(tx (pcsL kids)).length+2≤1000000):
    Calls Tryz.prog 231 #[prV b, .slice A kids.length cp] w fun x w' =>x= .returned (.tuple #[])∧∃l',Bl b l' w' ∧Wr b w w' ∧WT l ([40]++(tx (pcsL kids)++ [41])) l' :=by
  obtain ⟨n,hn⟩:∃n,kids.length=n:=⟨_,rfl⟩
  rw [hn]
  obtain ⟨W,hW⟩:∃W,w.alloc (.cells (prC b) tP)=W:=⟨_,rfl⟩
  have g1:Wr b w W:=by rw [←hW];exact (Wr.refl b w).alloc hl.2 _
  have g2:Bl b l W:=by rw [←hW];exact hl.alloc _
  have gp:Cel W w.heap.size tP (prC b):=by rw [←hW];exact Cel.new w tP _ rfl
  have hbw:=hl.lt
  have HX:=Lib.hid (show ∀W',Wr b W W' →W'.cell? ⟨w.heap.size,0,none⟩=some (.func (.func 129) #[.pointer (some ⟨b,0,none⟩)] #[])∧W'.cell? ⟨w.heap.size,1,none⟩=some (.func (.func 28) #[.pointer (some ⟨b,0,none⟩)] #[]) from fun W' hW' =>by
    have:=hW'.cel (Nat.ne_of_gt hbw) (by decide) gp
    exact ⟨this.at_ 0,this.at_ 1⟩)
  have HPUT:=Lib.hid (show ∀(s:ByteArray) (m:List UInt8) W',Bl b m W' →m.length+s.size≤1000000000→Calls Tryz.prog 129 #[.pointer (some ⟨b,0,none⟩), .string s] W' fun e w' =>∃n,e= .returned (.tuple #[.int .i64 n, .nilIface])∧Bl b (m++s.data.toList) w' ∧Wr b W' w' from fun s m W' q1 q2=>put_any b m s W' q1 q2)
  have HW:=Lib.hid g1
  have HL0:=Lib.hid g2
  have HKI:=Lib.hid h
  have HKC:=Lib.hid hk
  have HN:=Lib.hid hn
  have HO:=Lib.hid hO
  have HLEN:=Lib.hid hlen
  have HG:=Lib.hid hg
  have hn1k:n≤1000:=by omega
  have HS1:=Lib.hid (show (ByteArray.mk #[40]).size=1∧(ByteArray.mk #[41]).size=1∧(ByteArray.mk #[44]).size=1 from ⟨rfl,rfl,rfl⟩)
  obtain ⟨x0,x1⟩:=HX.out W (Wr.refl _ _)
  clear h hk hkm hl hO hg hlen hn g1 g2 gp
  go_enter Tryz.func231,Tryz.ntmps231
  go_upto_region 2 with (go_at_call 129;(with_reducible refine (HPUT.out ⟨#[40]⟩ l W HL0.out (by have:=HLEN.out;have:=HS1.out;omega)).mono ?_);rintro e' w1 ⟨n1,rfl,hl1,hr1⟩;have HL1:=Lib.hid hl1;have HR1:=Lib.hid hr1;clear hl1 hr1)
  clear hW x0 x1
  go_wp2
  go_loopw [11] (fun i wr=>∃j:Nat,j≤n∧i= .int .i64 (j:Int)∧Hid (∃l',Bl b l' wr∧Wr b W wr∧WT (l++ [40]) (tL kids j) l')) (fun i _=>n+1 - (intOf i).toNat)
  case atStart=>exact ⟨0,Nat.zero_le _,rfl,Lib.hid ⟨_,HL1.out,HR1.out,by rw [tL_zero];exact ⟨Nat.le_refl _,by simp, .inl (by simp)⟩⟩⟩
  case round=>
    obtain ⟨j,hj,rfl,HJ⟩:=hrel
    obtain ⟨lj,hlj,hrj,htj⟩:=HJ.out
    have HLJ:=Lib.hid hlj
    have HRJ:=Lib.hid hrj
    have HTJ:=Lib.hid htj
    clear HJ hlj hrj htj
    by_cases hlt:j<n
    · obtain ⟨x,hx⟩:=kid_some (l:=kids) (j:=j) (by have:=HN.out;omega)
      have hxin:=kid_at HKI.out hx
      obtain ⟨k1,o1,vk1,vn1,vs1,nm1,ks1,A1,n1,c1,bb,z,ex,rfl,hbb,hn1,c0,c1',c2,c3,c4,c5,c6,hin⟩:=hxin
      have hwr:=HW.out.trans HRJ.out
      have c0:=(hwr.1.cell hbb).trans c0
      have c1' :=(hwr.1.cell hbb).trans c1'
      have c2:=(hwr.1.cell hbb).trans c2
      have c3:=(hwr.1.cell hbb).trans c3
      have c4:=(hwr.1.cell hbb).trans c4
      have c5:=(hwr.1.cell hbb).trans c5
      have c6:=(hwr.1.cell hbb).trans c6
      obtain ⟨W5,hW5⟩:∃W5,wr.alloc (.cells #[.int .i64 k1, .int .i64 o1, .int .i64 vk1, .int .i64 vn1, .string (txt vs1), .string (txt nm1), .slice A1 n1 c1] tE)=W5:=⟨_,rfl⟩
      have hr5:Wr b wr W5:=by rw [←hW5];exact (Wr.refl b wr).alloc HLJ.out.2 _
      have hl5:Bl b lj W5:=by rw [←hW5];exact HLJ.out.alloc _
      have hx5:Cel W5 wr.heap.size tE #[.int .i64 k1, .int .i64 o1, .int .i64 vk1, .int .i64 vn1, .string (txt vs1), .string (txt nm1), .slice A1 n1 c1]:=by rw [←hW5];exact Cel.new wr tE _ rfl
      have hbr:=HLJ.out.lt
      have HY:=Lib.hid (show ∀W',Wr b W5 W' →(W'.cell? ⟨w.heap.size,0,none⟩=some (.func (.func 129) #[.pointer (some ⟨b,0,none⟩)] #[])∧W'.cell? ⟨w.heap.size,1,none⟩=some (.func (.func 28) #[.pointer (some ⟨b,0,none⟩)] #[]))∧(W'.cell? ⟨wr.heap.size,0,none⟩=some (.int .i64 k1)∧W'.cell? ⟨wr.heap.size,1,none⟩=some (.int .i64 o1)∧W'.cell? ⟨wr.heap.size,2,none⟩=some (.int .i64 vk1)∧W'.cell? ⟨wr.heap.size,3,none⟩=some (.int .i64 vn1)∧W'.cell? ⟨wr.heap.size,4,none⟩=some (.string (txt vs1))∧W'.cell? ⟨wr.heap.size,5,none⟩=some (.string (txt nm1))∧W'.cell? ⟨wr.heap.size,6,none⟩=some (.slice A1 n1 c1)) from fun W' hW' =>by
        have y:=hW'.cel (Nat.ne_of_gt hbr) (by decide) hx5
        exact ⟨HX.out W' (HRJ.out.trans (hr5.trans hW')),y.at_ 0,y.at_ 1,y.at_ 2,y.at_ 3,y.at_ 4,y.at_ 5,y.at_ 6⟩)
      have HKD:=Lib.hid (show ∀(l' :List UInt8) W',Bl b l' W' →Wr b W5 W' →l'.length+(tx (pcs x)).length≤1000000→Calls Tryz.prog 194 #[prV b,exV k1 o1 vk1 vn1 (txt vs1) (txt nm1) A1 n1 c1, .int .i64 1] W' fun x' w' =>x' = .returned (.tuple #[])∧∃l2,Bl b l2 w' ∧Wr b W' w' ∧WT l' (tx (pcs x)) l2 from fun l' W' q1 q2 q3=>by
        have hw' :=hwr.trans (hr5.trans q2)
        have:=HKC.out x (kid_mem hx) _ b 1 l' W' (hin.to (fun _ h=>h) (fun p hp=>hw'.1.cell hp)) q1 (HO.out.below hw'.1 HG.out) HG.out (by rw [kid_one];exact q3)
        rw [kid_one] at this
        exact this)
      have HLK:=Lib.hid (show lj.length+1+(tx (pcs x)).length≤1000000 from by
        have h1:=HTJ.out.len
        have h2:=tL_top (l:=kids) (j:=j+1) (by have:=HN.out;omega)
        have h3:=HLEN.out
        rw [List.length_append,List.length_singleton] at h1
        by_cases h0:0<j
        · rw [tL_more hx h0] at h2
          simp only [List.length_append,List.length_singleton] at h2
          omega
        · obtain rfl:j=0:=by omega
          rw [tL_one hx] at h2
          rw [tL_zero] at h1
          simp at h1
          omega)
      have HXX:=Lib.hid hx
      have HR5:=Lib.hid (HRJ.out.trans hr5)
      have HL5:=Lib.hid hl5
      obtain ⟨⟨x0,x1⟩,y0,y1,y2,y3,y4,y5,y6⟩:=HY.out W5 (Wr.refl _ _)
      have tl:decide ((j:Int)<(n:Int))=true:=decide_eq_true (by omega)
      clear hx hin hn1 hwr hr5 hl5 hx5 ex hbb
      by_cases h0:0<j
      · have t0:decide (0<(j:Int))=true:=decide_eq_true (by omega)
        go_wp2_with (first
          |(go_at_call 129;(with_reducible refine (HPUT.out ⟨#[44]⟩ lj W5 HL5.out (by have:=HLK.out;have:=HS1.out;omega)).mono ?_);rintro e' w2 ⟨n2,rfl,hl2,hr2⟩;have HL2:=Lib.hid hl2;have HR2:=Lib.hid hr2;obtain ⟨⟨x0,x1⟩,y0,y1,y2,y3,y4,y5,y6⟩:=HY.out w2 hr2;clear hl2 hr2)
          |(go_at_call 194;(with_reducible refine (HKD.out (lj++ [44]) w2 HL2.out HR2.out (by have:=HLK.out;simp only [List.length_append,List.length_cons,List.length_nil];omega)).mono ?_);rintro e' w3 ⟨rfl,l3,hl3,hr3,ht3⟩;have HL3:=Lib.hid hl3;have HT3:=Lib.hid ht3;have HR3:=Lib.hid (HR5.out.trans (HR2.out.trans hr3));clear hl3 hr3 ht3))
        go_roundw
        case rel=>exact ⟨j+1,by omega,by go_num,Lib.hid ⟨_,HL3.out,HR3.out,by rw [tL_more HXX.out h0];exact HTJ.out.trans ((WT.lit lj [44]).trans HT3.out)⟩⟩
        case measure=>simp [intOf];omega
      · obtain rfl:j=0:=by omega
        simp only [Nat.zero_mul,Nat.add_zero] at c0 c1' c2 c3 c4 c5 c6
        go_wp2_with (first
          |(go_at_call 194;(with_reducible refine (HKD.out lj W5 HL5.out (Wr.refl _ _) (by have:=HLK.out;omega)).mono ?_);rintro e' w3 ⟨rfl,l3,hl3,hr3,ht3⟩;have HL3:=Lib.hid hl3;have HT3:=Lib.hid ht3;have HR3:=Lib.hid (HR5.out.trans hr3);clear hl3 hr3 ht3))
        go_roundw
        case rel=>exact ⟨0+1,by omega,by go_num,Lib.hid ⟨_,HL3.out,HR3.out,by
          have ht:=HTJ.out
          rw [tL_zero] at ht
          have:=ht.trans HT3.out
          rw [List.nil_append] at this
          rw [tL_one HXX.out]
          exact this⟩⟩
        case measure=>simp [intOf]
    · have tl:decide ((j:Int)<(n:Int))=false:=decide_eq_false (by omega)
      obtain rfl:j=n:=by omega
      obtain ⟨x0,x1⟩:=HX.out wr HRJ.out
      have HTT:=Lib.hid (show WT (l++ [40]) (tx (pcsL kids)) lj from by
        have:=HTJ.out
        rw [←HN.out,tL_all] at this
        exact this)
      go_wp2_with (go_at_call 129;(with_reducible refine (HPUT.out ⟨#[41]⟩ lj wr HLJ.out (by have:=HTT.out.len;have:=HLEN.out;have:=HS1.out;rw [List.length_append,List.length_singleton] at*;omega)).mono ?_);rintro e' w4 ⟨n4,rfl,hl4,hr4⟩;have HL4:=Lib.hid hl4;have HR4:=Lib.hid (HRJ.out.trans hr4);clear hl4 hr4)
      go_end0
      exact ⟨rfl,_,HL4.out,HW.out.trans HR4.out,(WT.lit l [40]).trans (HTT.out.trans (WT.lit lj [41]))⟩
end Go.Proofs.YtiaomhdmllhmmaaGreatDoor.Ep
namespace Go.Proofs.YtiaomhdmllhmmaaGreatDoor.Ep
open Go.RowKit Mem Right Lx
set_option linter.unusedVariables false
theorem slice_tail (b o n c:Nat) (hn:1≤n) (hc:2≤c):∀w:World,(Instr.sliceAt 28 (.slice (some ⟨b,o,none⟩) n c) (some (.int .i64 1)) none none).run Tryz.prog w= .ok (.slice (some ⟨b,o+7,none⟩) (n - 1) (c - 1)) w:=by
 intro W
 have hl:=Tryz.underlying28
 have he:Tryz.prog.elem 28=30:=by simp [Program.elem,hl]
 have hs:(sizeOf 30).run Tryz.prog W= .ok 7 W:=by kernel_rfl
 rw [run_sliceAt_slice W _ _ _ _ _ (by rw [he];exact hl),run_slice_l W 28 _ n c (by rw [he];exact hl) .i64 1 (by omega) (by omega),he,hs]
 simp only [Result.andThen,sliced]
 rw [if_neg (by simp;omega)]
 simp [Addr.add]
theorem kids_tail {w:World} {S:Nat→Prop} {b o:Nat} {a:Ex} {l:List Ex} (h:KidsIn w S (some ⟨b,o,none⟩) 0 (a::l)):KidsIn w S (some ⟨b,o+7,none⟩) 0 l:=
 KidsIn.of fun j x hx=>by
   obtain ⟨b',o',cs,e,hb,hl,hc,hx'⟩:=h.get (j:=j+1) (by rw [List.getElem?_cons_succ];exact hx)
   injection e with e
   injection e with e1 e2
   subst e1 e2
   refine ⟨b,o+7,cs,rfl,hb,hl,fun i u hu=>?_,hx'⟩
   rw [show o+7+(0+j)*7+i=o+(0+(j+1))*7+i by omega]
   exact hc i u hu
theorem up_name {nm:List UInt8} (h:nm=nCoal ∨ nm=nLen ∨ nm=nAbs):Lib.toUpperA nm=(callT nm).2∧nm.length≤8∧(callT nm).2.length=nm.length∧∀(j:Nat) (c:UInt8),nm[j]?=some c→c.toNat<128:=by
 have key:∀l:List UInt8,(∀c∈l,c.toNat<128)→∀(j:Nat) (c:UInt8),l[j]?=some c→c.toNat<128:=fun l hl j c hc=>hl c (List.mem_of_getElem? hc)
 rcases h with rfl|rfl|rfl
 all_goals exact ⟨by decide,by decide,by decide,key _ (by decide)⟩
set_option maxHeartbeats 4000000 in
set_option maxRecDepth 100000 in
theorem bare_call (nm:List UInt8) (kids:List Ex) (hnm:nm=nCoal ∨ nm=nLen ∨ nm=nAbs) (hkd:∀x∈kids,KidC x) (hkm:kids.length≤1000):BareC (call nm kids):=by
 intro cs b l w h hl hO hg hlen
 obtain ⟨hu1,hu2,hu3,hu4⟩:=up_name hnm
 obtain ⟨U,hU⟩:∃U,(callT nm).2=U:=⟨_,rfl⟩
 have ht:tx (pcs (call nm kids))=U++([40]++(tx (pcsL kids)++ [41])):=by rw [pcs_call,tx_some,tx_some,tx_app,tx_some,hU];rfl
 rw [hU] at hu1 hu3
 rw [ht] at hlen ⊢
 simp only [List.length_append,List.length_cons,List.length_nil] at hlen
 obtain ⟨A,kn,cp,rfl,hkn, -, -, -,hk⟩:=ex_open (show ExIn w _ (.mk 7 0 0 0 [] nm kids) cs from h)
 obtain ⟨W,hW⟩:∃W,(w.alloc (.cells (prC b) tP)).alloc (.cells #[.int .i64 7, .int .i64 0, .int .i64 0, .int .i64 0, .string (txt []), .string (txt nm), .slice A kn cp] tE)=W:=⟨_,rfl⟩
 obtain ⟨h1,h2,h3,h4⟩:=boxes hl _ _ _ _ W hW (by decide) (by decide)
 have y0:=(h4 W (Wr.refl _ _)).at_ 0
 have HX:=Lib.hid (show ∀Wx,Wr b W Wx→(Wx.cell? ⟨w.heap.size,0,none⟩=some (.func (.func 129) #[.pointer (some ⟨b,0,none⟩)] #[])∧Wx.cell? ⟨w.heap.size,1,none⟩=some (.func (.func 28) #[.pointer (some ⟨b,0,none⟩)] #[]))∧Wx.cell? ⟨w.heap.size+1,5,none⟩=some (.string (txt nm))∧Wx.cell? ⟨w.heap.size+1,6,none⟩=some (.slice A kn cp) from fun Wx hx=>⟨⟨(h3 Wx hx).at_ 0,(h3 Wx hx).at_ 1⟩,(h4 Wx hx).at_ 5,(h4 Wx hx).at_ 6⟩)
 have HSH:=Lib.hid (show Calls Tryz.prog 232 #[.string (txt nm)] W.drew fun e w' =>e= .returned (.string (txt U))∧Below W.drew.heap.size W.drew w' from by
   rw [←hu1]
   exact Tryz.strings_ToUpper_ascii (txt nm) W.drew (by rw [txt_size];omega) hu4)
 have HPUT:=Lib.hid (show ∀W',Bl b l W' →Calls Tryz.prog 129 #[.pointer (some ⟨b,0,none⟩), .string (txt U)] W' fun e w' =>∃n,e= .returned (.tuple #[.int .i64 n, .nilIface])∧Bl b (l++U) w' ∧Wr b W' w' from fun W' hw' =>put_any b l (txt U) W' hw' (by rw [txt_size];omega))
 have HLI:=Lib.hid (show ∀W',Bl b (l++U) W' →Wr b W W' →Calls Tryz.prog 231 #[prV b, .slice A kn cp] W' fun x w' =>x= .returned (.tuple #[])∧∃l',Bl b l' w' ∧Wr b W' w' ∧WT (l++U) ([40]++(tx (pcsL kids)++ [41])) l' from fun W' q1 q2=>by
   have hw' :=h1.trans q2
   rw [hkn]
   exact list_any kids hkd A cp b (l++U) W' (KidsIn.to (fun _ h=>h) (fun p hp=>hw'.1.cell hp) hk) hkm q1 (hO.below hw'.1 hg) hg (by rw [List.length_append];omega))
 have HLW:=Lib.hid h2
 have HW:=Lib.hid h1
 have HK0:=Lib.hid (HX.out W.drew (drew_wr b W))
 simp at y0
 clear h hl hO hlen ht h1 h2 h3 h4 hk hkn hu1 hu2 hu3 hu4 hU hkd hkm
 go_enter Tryz.func210,Tryz.ntmps210
 go_wp2
 clear y0 hW
 refine wp_region_noPanic ?_
 refine wp_region_held_drew (S:=(fun Wx=>Wx.cell? ⟨w.heap.size,0,none⟩=some (.func (.func 129) #[.pointer (some ⟨b,0,none⟩)] #[])∧Wx.cell? ⟨w.heap.size+1,5,none⟩=some (.string (txt nm)))) (by kernel_rfl) ?_ (fun hHeld=>?_)
 · exact ⟨HK0.out.1.1,HK0.out.2.1⟩
 refine wpAnyH_take (i:=0) (v:=?_) rfl (by kernel_rfl) (by kernel_rfl) (by kernel_rfl) (fun _ _ _ h=>h) (Or.inl ⟨by rfl,?_⟩) (by assumption) ?_
 rotate_left
 · intro w' hSw;(try dsimp only at hSw);(try simp only [List.getElem_toArray,List.getElem_cons_zero]);go_simp;(try with_reducible rfl)
 (try simp only [List.getElem_toArray,List.getElem_cons_zero,Act.put,List.setIfInBounds_toArray,List.set_cons_zero,List.set_cons_succ])
 refine wpAnyH_take (i:=1) (v:=?_) rfl (by kernel_rfl) (by kernel_rfl) (by kernel_rfl) (fun _ _ _ h=>h) (Or.inl ⟨by rfl,?_⟩) (by assumption) ?_
 rotate_left
 · intro w' hSw;(try dsimp only at hSw);(try simp only [List.getElem_toArray,List.getElem_cons_succ,List.getElem_cons_zero]);go_simp;(try with_reducible rfl)
 (try simp only [List.getElem_toArray,List.getElem_cons_succ,List.getElem_cons_zero,Act.put,List.setIfInBounds_toArray,List.set_cons_zero,List.set_cons_succ])
 refine wpAnyH_take (i:=2) (v:=?_) rfl (by kernel_rfl) (by kernel_rfl) (by kernel_rfl) (fun _ _ _ h=>h) (Or.inl ⟨by rfl,?_⟩) (by assumption) ?_
 rotate_left
 · intro w' hSw;(try dsimp only at hSw);(try simp only [List.getElem_toArray,List.getElem_cons_succ,List.getElem_cons_zero]);go_simp;(try with_reducible rfl)
 (try simp only [List.getElem_toArray,List.getElem_cons_succ,List.getElem_cons_zero,Act.put,List.setIfInBounds_toArray,List.set_cons_zero,List.set_cons_succ])
 refine wpAnyH_take (i:=3) (v:=?_) rfl (by kernel_rfl) (by kernel_rfl) (by kernel_rfl) (fun _ _ _ h=>h) (Or.inl ⟨by rfl,?_⟩) (by assumption) ?_
 rotate_left
 · intro w' hSw;(try dsimp only at hSw);(try simp only [List.getElem_toArray,List.getElem_cons_succ,List.getElem_cons_zero]);go_simp;(try with_reducible rfl)
 (try simp only [List.getElem_toArray,List.getElem_cons_succ,List.getElem_cons_zero,Act.put,List.setIfInBounds_toArray,List.set_cons_zero,List.set_cons_succ])
 refine wpAnyH_ready (rs:= [4]) (by kernel_rfl) (by simp) ?_
 refine AllReadyH.cons rfl (fun K hK=>?_) AllReadyH.nil
 go_simp
 go_at_call 232;(with_reducible refine HSH.out.mono ?_);rintro e' w2 ⟨rfl,hb2⟩;have HB2:=Lib.hid (undrew' hb2);have HL2:=Lib.hid (HLW.out.below HB2.out);have HR2:=Lib.hid (Wr.of HB2.out HLW.out.2);have HK2:=Lib.hid (HX.out w2 HR2.out);have HP:=Lib.hid (HPUT.out w2 HL2.out);clear hb2
 (try go_wp2_with fail)
 refine hK.out _ _ ?_ (fun hHeld=>?_)
 · exact ⟨HK2.out.1.1,HK2.out.2.1⟩
 clear hK K
 (try simp only [List.getElem_toArray,List.getElem_cons_succ,List.getElem_cons_zero,Act.put,List.setIfInBounds_toArray,List.set_cons_zero,List.set_cons_succ])
 refine wpAnyH_ready (rs:= [5]) (by kernel_rfl) (by simp) ?_
 refine AllReadyH.cons rfl (fun K hK=>?_) AllReadyH.nil
 go_simp
 go_at_call 129;(with_reducible refine HP.out.mono ?_);rintro e' w3 ⟨n3,rfl,hl3,hr3⟩;have HL3:=Lib.hid hl3;have HR3:=Lib.hid (HR2.out.trans hr3);have HK3:=Lib.hid (HX.out w3 HR3.out);clear hl3 hr3
 (try go_wp2_with fail)
 refine hK.out _ _ ?_ (fun hHeld=>?_)
 · exact ⟨HK3.out.1.1,HK3.out.2.1⟩
 clear hK K
 (try simp only [List.getElem_toArray,List.getElem_cons_succ,List.getElem_cons_zero,Act.put,List.setIfInBounds_toArray,List.set_cons_zero,List.set_cons_succ])
 refine wpAnyH_done (by kernel_rfl) ?_ _
 refine NoPanic.normal ?_
 obtain ⟨⟨x0,x1⟩,x5,x6⟩:=HK3.out
 go_wp2_with (go_at_call 231;(with_reducible refine (HLI.out w3 HL3.out HR3.out).mono ?_);rintro e' w5 ⟨rfl,l5,hl5,hr5,ht5⟩;have HL5:=Lib.hid hl5;have HT5:=Lib.hid ht5;have HR5:=Lib.hid (HR3.out.trans hr5);clear hl5 hr5 ht5)
 go_end0
 exact ⟨rfl,_,HL5.out,HW.out.trans HR5.out,(WT.lit _ _).trans HT5.out⟩
set_option maxHeartbeats 4000000 in
set_option maxRecDepth 100000 in
theorem bare_inn {a:Ex} {kids:List Ex} (ha:KidC a) (hkd:∀x∈kids,KidC x) (hne:kids≠ []) (hkm:kids.length≤1000):BareC (inn (a::kids)):=by
 intro cs b l w h hl hO hg hlen
 have ht:tx (pcs (inn (a::kids)))=tx (kidP a 5)++([32,73,78,32]++([40]++(tx (pcsL kids)++ [41]))):=by rw [pcs_inn,tx_app,tx_none,tx_some,tx_none,tx_some,tx_app,tx_some];rfl
 rw [ht] at hlen ⊢
 simp only [List.length_append,List.length_cons,List.length_nil] at hlen
 obtain ⟨A,kn,cp,rfl,hkn,hcl, -, -,hk⟩:=ex_open (show ExIn w _ (.mk 6 0 0 0 [] [] (a::kids)) cs from h)
 obtain ⟨k1,o1,vk1,vn1,vs1,nm1,ks1,A1,n1,c1',b1,p1,ea,hA1,hb1, -,c0,c1,c2,c3,c4,c5,c6,hina⟩:=kid_at (j:=0) hk rfl
 subst hA1
 have hkl:=kids_tail hk
 have hcp:2≤cp:=by
   have:0<kids.length:=List.length_pos_iff.2 hne
   rw [List.length_cons] at hcl
   omega
 have hkn1:kn - 1=kids.length:=by rw [hkn];rfl
 have hkn0:1≤kn:=by rw [hkn];simp
 obtain ⟨W,hW⟩:∃W,(w.alloc (.cells (prC b) tP)).alloc (.cells #[.int .i64 6, .int .i64 0, .int .i64 0, .int .i64 0, .string (txt []), .string (txt []), .slice (some ⟨b1,p1,none⟩) kn cp] tE)=W:=⟨_,rfl⟩
 obtain ⟨g1,g2,g3,g4⟩:=boxes hl _ _ _ _ W hW (by decide) (by decide)
 have kk:=(g4 W (Wr.refl _ _)).at_ 0
 simp at kk
 have hwD:Wr b w W.drew:=g1.trans (drew_wr b W)
 have HX:=Lib.hid (show ∀Wx,Wr b W.drew Wx→(Wx.cell? ⟨w.heap.size,0,none⟩=some (.func (.func 129) #[.pointer (some ⟨b,0,none⟩)] #[])∧Wx.cell? ⟨w.heap.size,1,none⟩=some (.func (.func 28) #[.pointer (some ⟨b,0,none⟩)] #[]))∧Wx.cell? ⟨w.heap.size+1,6,none⟩=some (.slice (some ⟨b1,p1,none⟩) kn cp) from fun Wx hx=>by
   have hx' :=(drew_wr b W).trans hx
   exact ⟨⟨(g3 Wx hx').at_ 0,(g3 Wx hx').at_ 1⟩,(g4 Wx hx').at_ 6⟩)
 simp only [Nat.zero_mul,Nat.add_zero] at c0 c1 c2 c3 c4 c5 c6
 have HKD:=Lib.hid (show Calls Tryz.prog 194 #[prV b,exV k1 o1 vk1 vn1 (txt vs1) (txt nm1) A1 n1 c1', .int .i64 5] W.drew fun x w' =>x= .returned (.tuple #[])∧∃l',Bl b l' w' ∧Wr b W.drew w' ∧WT l (tx (kidP a 5)) l' from
   ha _ b 5 l W.drew (hina.to (fun _ h=>h) (fun p hp=>hwD.1.cell hp)) g2 (hO.below hwD.1 hg) hg (by omega))
 have HPUT:=Lib.hid (show ∀(m:List UInt8) W',Bl b m W' →m.length≤1000000→Calls Tryz.prog 129 #[.pointer (some ⟨b,0,none⟩), .string ⟨#[32,73,78,32]⟩] W' fun e w' =>∃n,e= .returned (.tuple #[.int .i64 n, .nilIface])∧Bl b (m++ [32,73,78,32]) w' ∧Wr b W' w' from fun m W' q1 q2=>put_any b m ⟨#[32,73,78,32]⟩ W' q1 (by have:(ByteArray.mk #[32,73,78,32]).size=4:=rfl;omega))
 have HLI:=Lib.hid (show ∀(m:List UInt8) W',Bl b m W' →Wr b W.drew W' →m.length+(tx (pcsL kids)).length+2≤1000000→Calls Tryz.prog 231 #[prV b, .slice (some ⟨b1,p1+7,none⟩) (kn - 1) (cp - 1)] W' fun x w' =>x= .returned (.tuple #[])∧∃l',Bl b l' w' ∧Wr b W' w' ∧WT m ([40]++(tx (pcsL kids)++ [41])) l' from fun m W' q1 q2 q3=>by
   have hw' :=hwD.trans q2
   rw [hkn1]
   exact list_any kids hkd _ (cp - 1) b m W' (KidsIn.to (fun _ h=>h) (fun p hp=>hw'.1.cell hp) hkl) hkm q1 (hO.below hw'.1 hg) hg q3)
 have HW:=Lib.hid hwD
 have HLEN:=Lib.hid hlen
 have e0:W.drew.cell? ⟨b1,p1,none⟩=some (.int .i64 k1):=(hwD.1.cell hb1).trans c0
 have e1:W.drew.cell? ⟨b1,p1+1,none⟩=some (.int .i64 o1):=(hwD.1.cell hb1).trans c1
 have e2:W.drew.cell? ⟨b1,p1+2,none⟩=some (.int .i64 vk1):=(hwD.1.cell hb1).trans c2
 have e3:W.drew.cell? ⟨b1,p1+3,none⟩=some (.int .i64 vn1):=(hwD.1.cell hb1).trans c3
 have e4:W.drew.cell? ⟨b1,p1+4,none⟩=some (.string (txt vs1)):=(hwD.1.cell hb1).trans c4
 have e5:W.drew.cell? ⟨b1,p1+5,none⟩=some (.string (txt nm1)):=(hwD.1.cell hb1).trans c5
 have e6:W.drew.cell? ⟨b1,p1+6,none⟩=some (.slice A1 n1 c1'):=(hwD.1.cell hb1).trans c6
 have hsl:=slice_tail b1 p1 kn cp hkn0 hcp
 obtain ⟨⟨x0,x1⟩,x6⟩:=HX.out W.drew (Wr.refl _ _)
 have hk0:0<kn:=hkn0
 clear h hl hO hlen hk hcl hina g1 g2 g3 g4 hwD ha c0 c1 c2 c3 c4 c5 c6 ea hb1 hkl hkn hkn1 hkd hkm hne ht
 go_enter Tryz.func210,Tryz.ntmps210
 go_wp2
 refine wp_region_still_tail 5 (by kernel_rfl) (by kernel_rfl) ?_
 simp only [List.take_succ_cons,List.take_zero,List.drop_succ_cons,List.drop_zero]
 change wpStill _ _ (W.drew) (fun a' =>wpList _ _ _ _ a' (W.drew)) _ _
 clear kk hW
 generalize W.drew=w3 at*
 repeat still_step
 refine wpStill_nil ?_
 go_wp2_with (first
   |(go_at_call 194;(with_reducible refine HKD.out.mono ?_);rintro e' w5 ⟨rfl,l5,hl5,hr5,ht5⟩;have HL5:=Lib.hid hl5;have HT5:=Lib.hid ht5;have HR5:=Lib.hid hr5;obtain ⟨⟨x0,x1⟩,x6⟩:=HX.out w5 hr5;clear hl5 hr5 ht5)
   |(go_at_call 129;(with_reducible refine (HPUT.out l5 w5 HL5.out (by have:=HT5.out.len;have:=HLEN.out;omega)).mono ?_);rintro e' w6 ⟨n6,rfl,hl6,hr6⟩;have HL6:=Lib.hid hl6;have HR6:=Lib.hid (HR5.out.trans hr6);clear hl6 hr6))
 have hr7:Wr b w3 w6.drew:=HR6.out.trans (drew_wr b w6)
 have hl7:Bl b (l5++ [32,73,78,32]) w6.drew:=HL6.out
 have HLI7:=Lib.hid (HLI.out _ w6.drew hl7 hr7 (by have:=HT5.out.len;have:=HLEN.out;simp only [List.length_append,List.length_cons,List.length_nil];omega))
 refine wp_region_still_tail 4 (by kernel_rfl) (by kernel_rfl) ?_
 simp only [List.take_succ_cons,List.take_zero,List.drop_succ_cons,List.drop_zero]
 change wpStill _ _ (w6.drew) (fun a' =>wpList _ _ _ _ a' (w6.drew)) _ _
 clear x0 x1 x6 e0 e1 e2 e3 e4 e5 e6 hl7
 generalize w6.drew=w7 at*
 obtain ⟨⟨x0,x1⟩,x6⟩:=HX.out w7 hr7
 have HR7:=Lib.hid hr7
 clear hr7
 repeat still_step
 refine wpStill_nil ?_
 go_wp2_with (go_at_call 231;(with_reducible refine HLI7.out.mono ?_);rintro e' w8 ⟨rfl,l8,hl8,hr8,ht8⟩;have HL8:=Lib.hid hl8;have HT8:=Lib.hid ht8;have HR8:=Lib.hid (HR7.out.trans hr8);clear hl8 hr8 ht8)
 go_end0
 exact ⟨rfl,_,HL8.out,HW.out.trans HR8.out,HT5.out.trans ((WT.lit _ _).trans HT8.out)⟩
theorem ok_len {k n:Int} {s:List UInt8} (h:Val.okV k n s=true):s.length≤1000000:=by
 unfold Val.okV at h
 repeat' split at h
 all_goals simp at h
 all_goals first|(obtain ⟨_,rfl⟩:=h;simp)|(subst h;simp)|(obtain ⟨⟨_,h⟩,_⟩:=h;omega)|omega
theorem kid_all {e:Ex} (h:Rt e):KidC e:=by
 induction h with
 | @lit k n s h0 h1 h2 h3=>exact kid_of_bare (bare_lit k n s h3 h2 (ok_len h0))
 |col _=>exact kid_of_bare (bare_col _)
 | @par o h1 h2=>
   obtain ⟨j,rfl⟩:∃j:Nat,o=(j:Int):=⟨o.toNat,by omega⟩
   exact kid_of_bare (bare_par j (by omega) (by omega))
 |un h1 h2 _ ih=>exact kid_of_bare (bare_un ih _ h1 h2)
 | @bin o a c h1 h2 _ _ iha ihc=>
   obtain ⟨j,rfl⟩:∃j:Nat,o=(j:Int)+1:=⟨(o - 1).toNat,by omega⟩
   exact kid_of_bare (bare_bin iha ihc j (by omega))
 |inn hne hl _ _ iha ihl=>exact kid_of_bare (bare_inn iha ihl hne (by omega))
 | @call nm kl hne hn _ ih=>exact kid_of_bare (bare_call nm kl (hn.elim (fun h=> .inl h.1) (fun h=>h.1.elim (fun e=> .inr (.inl e)) (fun e=> .inr (.inr e)))) ih (hn.elim (fun h=>by omega) (fun h=>by omega)))
end Go.Proofs.YtiaomhdmllhmmaaGreatDoor.Ep
namespace Go.Proofs.YtiaomhdmllhmmaaGreatDoor.Ep
open Go.RowKit Mem Right Lx
set_option linter.unusedVariables false
theorem rt_check {e:Ex} (h:Rt e) (hh:high e=false) (slots:Bool):checkE slots e=0:=by
 unfold checkE
 unfold high at hh
 rw [if_neg (of_decide_eq_false hh),if_pos (rightB_of h.rs)]
theorem printV_rt {e:Ex} (h:Rt e) (hh:high e=false):printV e=if 400<(tx (pcs e)).length then ([],3) else (tx (pcs e),0):=by
 unfold printV
 rw [if_neg (by rw [rt_check h hh];decide)]
theorem fine_wide:∀e:Ex,Fine e→Wide e:=
 Ex.byKids fun k o vk vn vs nm kids ih h=>by
   obtain ⟨⟨-, -, -,h4⟩, -,h⟩:=(fine_mk ..).1 h
   exact (wide_mk ..).2 ⟨h4,fun x hx=>ih x hx (h x hx)⟩
theorem back_rt {e:Ex} (hf:Fine e) (hc:checkE false e=0):Rt e∧high e=false:=by
 unfold checkE at hc
 split at hc
 · cases hc
 · rename_i h8
   split at hc
   · rename_i hr
     exact ⟨Rs.rt (rs_of e hr) (fine_wide e hf),by unfold high;exact decide_eq_false h8⟩
   · cases hc
end Go.Proofs.YtiaomhdmllhmmaaGreatDoor.Ep
