/- The law's example: a choice of rows, written. A statement that came in as an argument; what the laws ask of the listed variables. The law of two statements' likeness: the walk. The law of unlike statements' texts: the walk. -/
import Derived.Test.YtiaomhdmllhmmaaGreatDoorJ47
import Derived.Test.YtiaomhdmllhmmaaGreatDoorJ28
import Derived.Test.YtiaomhdmllhmmaaGreatDoorJ15
import Derived.Test.YtiaomhdmllhmmaaGreatDoorJ07
import Derived.Test.YtiaomhdmllhmmaaGreatDoorJ19
import Derived.Test.YtiaomhdmllhmmaaGreatDoorJ22
import Derived.Test.YtiaomhdmllhmmaaGreatDoorJ27
import Derived.Test.YtiaomhdmllhmmaaGreatDoorJ24
namespace Go.Proofs.YtiaomhdmllhmmaaGreatDoor.Sm
open Go.RowKit Mem Ep Right Lx Go.ChangeShapes Go.WideShapes
set_option linter.unusedVariables false
def wS:St:= .mk 19 [116] [] [] [] [] [] [[col [97]]] noEx [] [(col [97],true)] 3 0 false []
theorem wS_lo:Lo (col [97]):=⟨.col (by decide),by decide+kernel⟩
theorem wS_ok:OkS wS:=by
 refine .rows (.select (show kindOf [116]=1 by decide) (by decide) (fun x hx=>?_) (.inl rfl) (by decide) (fun x hx=>?_) (by decide) (by decide))
 · obtain rfl:x= [col [97]]:=by simpa using hx
   exact ⟨by decide, by decide, fun e he => by obtain rfl:e=col [97]:=by simpa using he
                                               exact wS_lo⟩
 · obtain rfl:x=(col [97],true):=by simpa using hx
   exact wS_lo
theorem wS_text:tx (stP wS)= [83,69,76,69,67,84,32,97,32,70,82,79,77,32,116,32,79,82,68,69,82,32,66,89,32,97,32,68,69,83,67,32,76,73,77,73,84,32,51]:=by decide+kernel
theorem i6 {n:Int} (h:(decide (-(2 ^ 63)≤n) && decide (n<2 ^ 63))=true):i64ok n:=by
 rw [Bool.and_eq_true,decide_eq_true_eq,decide_eq_true_eq] at h
 unfold i64ok
 omega
theorem fine_col:Fine (col [97]):=⟨⟨i6 (by decide),i6 (by decide),i6 (by decide),i6 (by decide)⟩,by decide,trivial⟩
theorem fine_no:Fine noEx:=⟨⟨i6 (by decide),i6 (by decide),i6 (by decide),i6 (by decide)⟩,by decide,trivial⟩
theorem wS_fine:fSt wS:=by
 unfold wS
 rw [fSt_mk]
 refine ⟨⟨i6 (by decide),⟨by unfold fS;decide,by unfold fS;decide,by unfold fS;decide⟩,by simp,by simp,by simp [fSs],⟨by decide,fun x hx=>?_⟩,fine_no,by simp,⟨by decide,fun x hx=>?_⟩,i6 (by decide),i6 (by decide)⟩,by decide,by simp⟩
 · obtain rfl:x= [col [97]]:=by simpa using hx
   exact ⟨by decide, fun e he => by obtain rfl:e=col [97]:=by simpa using he
                                    exact fine_col⟩
 · obtain rfl:x=(col [97],true):=by simpa using hx
   exact fine_col
theorem wS_few:Fw wS:=by
 have hc:∃m,cnt (col [97]) 60=some m:=by
   cases h:cnt (col [97]) 60 with
   |none=>exact absurd h (by decide+kernel)
   |some m=>exact ⟨m,rfl⟩
 have hn:∃m,cnt noEx 60=some m:=by
   cases h:cnt noEx 60 with
   |none=>exact absurd h (by decide+kernel)
   |some m=>exact ⟨m,rfl⟩
 refine ⟨⟨⟨by unfold tF;decide,by unfold tF;decide,by unfold tF;decide⟩,by simp,by simp,by simp,fun x hx e he=>?_,hn,by simp,fun x hx=>?_⟩,fun y hy=>by cases hy⟩
 · obtain rfl:x= [col [97]]:=by simpa using hx
   obtain rfl:e=col [97]:=by simpa using he
   exact hc
 · obtain rfl:x=(col [97],true):=by simpa using hx
   exact hc
theorem row_new1 {w:World} {d:Dt} {cs:List Value} {k:Nat} {e:TypeId} (hd:DtIn w (fun b=>b<w.heap.size) d cs) (hk:cs.length=k):
   DtIn (w.alloc (.cells cs.toArray e)) (fun b=>b<(w.alloc (.cells cs.toArray e)).heap.size) (.row k [d]) [.slice (some ⟨w.heap.size,0,none⟩) 1 1]:=by
 refine row_is.2 ⟨_,rfl,_,1,rfl,Nat.le_refl _,by unfold maxLen;omega,(fun h=>by cases h),RowIn.of fun j x hx=>?_⟩
 obtain ⟨rfl,rfl⟩:j=0∧x=d:=by
   rcases j with _|j
   · simp at hx;exact ⟨rfl,hx.symm⟩
   · simp at hx
 refine ⟨w.heap.size,0,cs,rfl,by simp,hk,fun i u hu=>?_,DtIn.on hd (al (Below.refl _ _) _)⟩
 have h:=(Cel.new w e cs.toArray rfl).at_ i
 have e2:0+(0+0)*k+i=i:=by omega
 rw [e2,h]
 simpa using hu
theorem is_row {w:World} {S:Nat→Prop} {k:Nat} {xs:List Dt} {v:Value} (h:DtIn w S (.row k xs) [v]):IsRow w S k xs v:=by
 obtain ⟨u,hu,hr⟩:=row_is.1 h
 obtain rfl:v=u:=by simpa using hu
 exact hr
theorem is_nil (w:World) (S:Nat→Prop) (k:Nat):IsRow w S k [] (.slice none 0 0):=⟨none,0,rfl,Nat.le_refl _,Nat.zero_le _,fun _=>rfl,RowIn.of fun j x hx=>by simp at hx⟩
theorem col_in (w:World) (S:Nat→Prop):ExIn w S (col [97]) [.int .i64 2, .int .i64 0, .int .i64 0, .int .i64 0, .string ⟨#[]⟩, .string ⟨#[97]⟩, .slice none 0 0]:=
 (exIn_mk _ _ _ _ _ _ _ _ _ _).2 ⟨none,0,rfl,Nat.le_refl _,Nat.zero_le _,fun _=>rfl,kidsIn_nil _ _ _ _⟩
set_option maxHeartbeats 4000000 in
set_option maxRecDepth 100000 in
theorem works_any (w:World) (hE:WrE w w.heap.size):Calls Tryz.prog 9 #[] w fun e w' =>e= .returned (.bool true)∧Below w.heap.size w w' :=by
 have d1:DtIn w (fun b=>b<w.heap.size) (exDt (col [97])) [.int .i64 2, .int .i64 0, .int .i64 0, .int .i64 0, .string ⟨#[]⟩, .string ⟨#[97]⟩, .slice none 0 0]:=col_in _ _
 obtain ⟨W1,hW1⟩:∃W,w.alloc (.cells #[.int .i64 2, .int .i64 0, .int .i64 0, .int .i64 0, .string ⟨#[]⟩, .string ⟨#[97]⟩, .slice none 0 0] 30)=W:=⟨_,rfl⟩
 have d2:DtIn W1 (fun b=>b<W1.heap.size) (exsDt [col [97]]) [.slice (some ⟨w.heap.size,0,none⟩) 1 1]:=by rw [←hW1];exact row_new1 d1 rfl
 obtain ⟨W2,hW2⟩:∃W,W1.alloc (.cells #[.slice (some ⟨w.heap.size,0,none⟩) 1 1] 28)=W:=⟨_,rfl⟩
 have d3:DtIn W2 (fun b=>b<W2.heap.size) (rwsDt [[col [97]]]) [.slice (some ⟨W1.heap.size,0,none⟩) 1 1]:=by rw [←hW2];exact row_new1 d2 rfl
 have d4:DtIn W2 (fun b=>b<W2.heap.size) (orDt (col [97],true)) [.int .i64 2, .int .i64 0, .int .i64 0, .int .i64 0, .string ⟨#[]⟩, .string ⟨#[97]⟩, .slice none 0 0, .bool true]:=or_in.2 ⟨_,rfl,col_in _ _⟩
 obtain ⟨W3,hW3⟩:∃W,W2.alloc (.cells #[.int .i64 2, .int .i64 0, .int .i64 0, .int .i64 0, .string ⟨#[]⟩, .string ⟨#[97]⟩, .slice none 0 0, .bool true] 60)=W:=⟨_,rfl⟩
 have d5:DtIn W3 (fun b=>b<W3.heap.size) (.row 8 ([(col [97],true)].map orDt)) [.slice (some ⟨W2.heap.size,0,none⟩) 1 1]:=by rw [←hW3];exact row_new1 d4 rfl
 have hb1:Below w.heap.size w W1:=by rw [←hW1];exact al (Below.refl _ _) _
 have hb2:Below w.heap.size w W2:=by rw [←hW2];exact al hb1 _
 have hb23:Below W2.heap.size W2 W3:=by rw [←hW3];exact al (Below.refl _ _) _
 have hb3:Below w.heap.size w W3:=Mem.on hb2 hb23
 have d6:=DtIn.on d3 hb23
 have dS:DtIn W3 (fun b=>b<W3.heap.size) (stDt wS) [.int .i64 19, .string ⟨#[116]⟩, .string ⟨#[]⟩, .string ⟨#[]⟩, .slice none 0 0, .slice none 0 0, .slice none 0 0, .slice (some ⟨W1.heap.size,0,none⟩) 1 1, .int .i64 0, .int .i64 0, .int .i64 0, .int .i64 0, .string ⟨#[]⟩, .string ⟨#[]⟩, .slice none 0 0, .slice none 0 0, .slice (some ⟨W2.heap.size,0,none⟩) 1 1, .int .i64 3, .int .i64 0, .bool false, .slice none 0 0]:=
   st_in.2 ⟨_,_,_,_,_,_,_,_,rfl,is_nil _ _ _,is_nil _ _ _,is_nil _ _ _,is_row d6,noEx_in,is_nil _ _ _,is_row d5,is_nil _ _ _⟩
 have HP:=Lib.hid (show Calls Tryz.prog 12 #[.agg #[.int .i64 19, .string ⟨#[116]⟩, .string ⟨#[]⟩, .string ⟨#[]⟩, .slice none 0 0, .slice none 0 0, .slice none 0 0, .slice (some ⟨W1.heap.size,0,none⟩) 1 1, .int .i64 0, .int .i64 0, .int .i64 0, .int .i64 0, .string ⟨#[]⟩, .string ⟨#[]⟩, .slice none 0 0, .slice none 0 0, .slice (some ⟨W2.heap.size,0,none⟩) 1 1, .int .i64 3, .int .i64 0, .bool false, .slice none 0 0]] W3 fun e w' =>e= .returned (.tuple #[.string ⟨#[83,69,76,69,67,84,32,97,32,70,82,79,77,32,116,32,79,82,68,69,82,32,66,89,32,97,32,68,69,83,67,32,76,73,77,73,84,32,51]⟩, .int .i64 0])∧Below w.heap.size w w' from by
   have hw:WrE W3 W3.heap.size:=by
     have:=hE.below hb3
     have hs:=hb3.size
     exact ⟨⟨this.1.1,by have:=this.1.2;omega⟩,⟨this.2.1.1,by have:=this.2.1.2;omega⟩,⟨this.2.2.1,by have:=this.2.2.2;omega⟩⟩
   refine (sprint_any wS _ W3 dS hw ?_ (fw_slim wS_few) (fw_txs wS_few) (fw_len wS_few)).mono fun e w' g=>?_
   · exact wS_fine
   obtain ⟨s,q,rfl,h,hb⟩:=g
   rcases h with ⟨h, -⟩|⟨-,h, -⟩|⟨-, -,rfl,rfl⟩
   · exact absurd wS_ok h
   · rw [wS_text] at h;exact absurd h (by decide)
   · exact ⟨by rw [wS_text];rfl,Mem.on hb3 hb⟩)
 clear d1 d2 d3 d4 d5 d6 dS hb1 hb2 hb23 hb3 hE
 go_enter Tryz.func9,Tryz.ntmps9
 go_wp2_with (go_at_call 12;(with_reducible refine HP.out.mono ?_);rintro e' w1 ⟨rfl,hb1⟩;have HB:=Lib.hid hb1;clear hb1)
 go_ret
 exact ⟨rfl,HB.out⟩
end Go.Proofs.YtiaomhdmllhmmaaGreatDoor.Sm
namespace Go.Proofs.YtiaomhdmllhmmaaGreatDoor.Sm
open Go.ChangeShapes Go.WideShapes Go.ChangeAt Go.RowKit Mem Ep Right Lx
set_option linter.unusedVariables false
theorem hasBs:HasB Tryz.prog 3 9 4 24:=⟨Tryz.underlying3,Tryz.underlying9,Tryz.underlying4,Tryz.underlying24,by kernel_rfl⟩
theorem hasCn:HasC Tryz.prog 3 9 4 24 30 27 28 54 22 56 23 where
 b:=hasBs
 e:=Ep.hasEx
 co:=⟨_,Tryz.underlying54,by kernel_rfl,by kernel_rfl⟩
 cos:=⟨Tryz.underlying22,by kernel_rfl⟩
 cn:=⟨_,Tryz.underlying56,by kernel_rfl,by kernel_rfl⟩
 cns:=⟨Tryz.underlying23,by kernel_rfl⟩
theorem hasSt:HasSt Tryz.prog 3 9 4 24 30 27 28 54 22 56 23 25 58 31 60 32 35 33 where
 c:=hasCn
 rows:=⟨Tryz.underlying25,by kernel_rfl⟩
 se:=⟨_,Tryz.underlying58,by kernel_rfl,by kernel_rfl⟩
 ses:=⟨Tryz.underlying31,by kernel_rfl⟩
 ord:=⟨_,Tryz.underlying60,by kernel_rfl,by kernel_rfl⟩
 ords:=⟨Tryz.underlying32,by kernel_rfl⟩
 st:=⟨_,Tryz.underlying35,by kernel_rfl,by kernel_rfl⟩
 sts:=⟨Tryz.underlying33,by kernel_rfl⟩
section
variable {H:Type} {enc:TypeId × Value→H} {W:World}
set_option maxRecDepth 100000 in
theorem open_stv {r:Reach} {b0:Nat} {v:Value} {d:DataW H} {p:List MemPlace} (hv:Value.okWide Tryz.prog W r b0 35 v) (h:DataW.Trod enc Tryz.prog W 0 (fun _=>true) true 35 v d p):
   ∃cs x,v= .agg (List.toArray cs)∧DtIn W (fun b=>b<W.heap.size) (stDt x) cs∧fSt x:=by
 obtain ⟨cs,rfl,hsz⟩:=okWide_struct Tryz.underlying35 hv
 obtain ⟨fuel,hf⟩:=h
 obtain ⟨d,h1,h2⟩:=open_dt fuel 35 cs.toList _ hf
 obtain ⟨x,rfl,hx⟩:=(shp_st hasSt d).1 h2
 exact ⟨cs.toList,x,rfl,h1,hx⟩
end
theorem wre_of_laid {l:List (String × DataW Unit)} {W:World} (h:laidMetH Tryz.prog l W) (hsh:W.ShapedOpen Tryz.prog) (hp:(l.all fun x=>x.2.handleName?.isNone)=true) (h1:("registrar/lex.signs",(Rows.laid_registrar_lex_signs:DataW Unit))∈l) (h2:("registrar/expr.signs",(Rows.laid_registrar_expr_signs:DataW Unit))∈l) (h3:("internal/strconv.uint64pow10",(Rows.laid_internal_strconv_uint64pow10:DataW Unit))∈l):WrE W W.heap.size:=by
 have hs:=signs_of_laid h hp h1
 have ho:=osg_of_laid h hsh hp h2
 have ht:Lib.TabIs Tryz.prog W "internal/strconv.uint64pow10" .u64 Lib.pow10Tab:=laid_tab (g:=4) h hp h3 (by kernel_rfl) (by kernel_rfl) Tryz.underlying213 Tryz.underlying190 (by kernel_rfl) (by kernel_rfl)
 refine ⟨⟨hs,hs.lt⟩,⟨ho,?_⟩,⟨ht,?_⟩⟩
 · have a:=cell_lt (ho.1 0 _ rfl)
   obtain ⟨m,hm⟩:=ho.2
   have b:=cell_lt hm
   exact Nat.max_lt.2 ⟨a,b⟩
 · exact cell_lt (ht.cell (g:=4) (by kernel_rfl) 0 (by decide))
end Go.Proofs.YtiaomhdmllhmmaaGreatDoor.Sm
namespace Go.Proofs.YtiaomhdmllhmmaaGreatDoor.Sm
open Go.RowKit Mem Ep Right Lx Go.ChangeShapes Go.WideShapes
set_option linter.unusedVariables false
theorem WrE.up {w w' :World} (h:WrE w w.heap.size) (hb:Below w.heap.size w w'):WrE w' w'.heap.size:=by
 have:=h.below hb
 have hs:=hb.size
 exact ⟨⟨this.1.1,by have:=this.1.2;omega⟩,⟨this.2.1.1,by have:=this.2.1.2;omega⟩,⟨this.2.2.1,by have:=this.2.2.2;omega⟩⟩
end Go.Proofs.YtiaomhdmllhmmaaGreatDoor.Sm
namespace Go.Proofs.YtiaomhdmllhmmaaGreatDoor.Sm
open Go.RowKit Mem Ep Right Lx Go.ChangeShapes Go.WideShapes
set_option linter.unusedVariables false
theorem signs_apart {W:World} (h:laidMetH Tryz.prog Rows.stmtApartRow.laid W) (hsh:W.ShapedOpen Tryz.prog):WrE W W.heap.size:=
 wre_of_laid h hsh (by kernel_rfl) (by repeat (first|exact List.Mem.head _|apply List.Mem.tail)) (by repeat (first|exact List.Mem.head _|apply List.Mem.tail)) (by repeat (first|exact List.Mem.head _|apply List.Mem.tail))
theorem spr_0 {x:St} {s:List UInt8} (h:SPr x s 0):OkS x∧s=tx (stP x):=by
 rcases h with ⟨-,h, -⟩|⟨-, -, -,h⟩|⟨h, -,hs, -⟩
 · exact absurd rfl h
 · cases h
 · exact ⟨h,hs⟩
theorem txt_eqB {a b:St} {s t:List UInt8} (ha:SPr a s 0) (hb:SPr b t 0):((Ep.txt s).toList==(Ep.txt t).toList)=eqB a b:=by
 obtain ⟨h1,rfl⟩:=spr_0 ha
 obtain ⟨h2,rfl⟩:=spr_0 hb
 rw [Lib.toList_data,Lib.toList_data]
 show (tx (stP a)==tx (stP b))=eqB a b
 unfold eqB
 by_cases e:a=b
 · subst e;simp
 · have:tx (stP a)≠tx (stP b):=fun g=>e (stmt_inj h1 h2 g)
   simp [e,this]
set_option maxRecDepth 100000 in
set_option maxHeartbeats 4000000 in
theorem walk_apart (cs1:List Value) (a:St) (cs2:List Value) (b:St) (n:Int) (w:World) (h1:DtIn w (fun b=>b<w.heap.size) (stDt a) cs1) (hf1:fSt a) (h2:DtIn w (fun b=>b<w.heap.size) (stDt b) cs2) (hf2:fSt b) (hn:(Lit.int .i64 n).wf=true) (hfact:WrE w w.heap.size):
    Calls Tryz.prog 4 #[.agg cs1.toArray, .agg cs2.toArray, .int .i64 n] w fun x w' =>x= .returned (.bool true)∧Below w.heap.size w w' :=by
  have hl1:=Lib.hid (st_one h1).1
  have hl2:=Lib.hid (st_one h2).1
  obtain ⟨V,hV⟩:∃W,(w.alloc (.cells cs1.toArray tSt)).alloc (.cells cs2.toArray tSt)=W:=⟨_,rfl⟩
  have hb:Below w.heap.size w V:=by rw [←hV];exact al (al (Below.refl _ _) _) _
  have hsz:V.heap.size=w.heap.size+2:=by rw [←hV];simp
  have x1:Cel V w.heap.size tSt cs1.toArray:=by rw [←hV];exact (Cel.new _ _ _ rfl).alloc _
  have x2:Cel V (w.heap.size+1) tSt cs2.toArray:=by rw [←hV];exact Cel.new _ _ _ (by simp)
  have d1:=DtIn.on h1 hb
  have d2:=DtIn.on h2 hb
  have HA:=Lib.hid (show ∀W,Below V.heap.size V W→At W w.heap.size 0 cs1∧At W (w.heap.size+1) 0 cs2 from fun W g=>⟨at_cel ((g.block _ (by omega)).trans x1),at_cel ((g.block _ (by omega)).trans x2)⟩)
  have HF1:=Lib.hid (show ∀W,Below V.heap.size V W→Calls Tryz.prog 8 #[.agg cs1.toArray] W (FewL a W) from fun W g=>few_st a cs1 W (DtIn.on d1 g))
  have HF2:=Lib.hid (show ∀W,Below V.heap.size V W→Calls Tryz.prog 8 #[.agg cs2.toArray] W (FewL b W) from fun W g=>few_st b cs2 W (DtIn.on d2 g))
  have HW:=Lib.hid (show ∀W,Below V.heap.size V W→Calls Tryz.prog 9 #[] W fun e w' =>e= .returned (.bool true)∧Below W.heap.size W w' from fun W g=>works_any W ((hfact.up hb).up g))
  have HS:=Lib.hid (show ∀W,Below V.heap.size V W→Calls Tryz.prog 10 #[.agg cs1.toArray, .agg cs2.toArray] W fun e w' =>e= .returned (.bool (eqB a b))∧Below W.heap.size W w' from fun W g=>stSame_any a b cs1 cs2 W (DtIn.on d1 g) (DtIn.on d2 g))
  have HP1:=Lib.hid (show Fw a→∀W,Below V.heap.size V W→Calls Tryz.prog 12 #[.agg cs1.toArray] W fun e w' =>∃s q,e= .returned (.tuple #[.string (Ep.txt s), .int .i64 q])∧SPr a s q∧Below W.heap.size W w' from fun h W g=>sprint_any a cs1 W (DtIn.on d1 g) ((hfact.up hb).up g) hf1 (fw_slim h) (fw_txs h) (fw_len h))
  have HP2:=Lib.hid (show Fw b→∀W,Below V.heap.size V W→Calls Tryz.prog 12 #[.agg cs2.toArray] W fun e w' =>∃s q,e= .returned (.tuple #[.string (Ep.txt s), .int .i64 q])∧SPr b s q∧Below W.heap.size W w' from fun h W g=>sprint_any b cs2 W (DtIn.on d2 g) ((hfact.up hb).up g) hf2 (fw_slim h) (fw_txs h) (fw_len h))
  have HE:=Lib.hid (show ∀W,Below V.heap.size V W→Below w.heap.size w W from fun W g=>Mem.on hb g)
  obtain ⟨tv,htv⟩:∃s,typeV n=s:=⟨_,rfl⟩
  obtain ⟨pv,hpv⟩:∃s,privV n=s:=⟨_,rfl⟩
  have HT:=Lib.hid (show ∀W,Calls Tryz.prog 13 #[.int .i64 n] W fun e w' =>e= .returned (.string tv)∧W=w' from fun W=>by have:=type_any n W;rwa [htv] at this)
  have HRT:=Lib.hid (show ∀W,Calls Tryz.prog 14 #[.int .i64 n] W fun e w' =>e= .returned (.string tv)∧W=w' from fun W=>by have:=refType_any n W;rwa [htv] at this)
  have HPR:=Lib.hid (show ∀W,Calls Tryz.prog 15 #[.int .i64 n] W fun e w' =>e= .returned (.string pv)∧W=w' from fun W=>by have:=priv_any n W;rwa [hpv] at this)
  have HRP:=Lib.hid (show ∀W,Calls Tryz.prog 16 #[.int .i64 n] W fun e w' =>e= .returned (.string pv)∧W=w' from fun W=>by have:=refPriv_any n W;rwa [hpv] at this)
  obtain ⟨z,hz⟩:∃z,eqB a b=z:=⟨_,rfl⟩
  rw [hz] at HS
  have HZ:=Lib.hid hz
  clear h1 hf1 h2 hf2 hfact hb hsz x1 x2 d1 d2 htv hpv hn hz
  go_enter Tryz.func4,Tryz.ntmps4
  go_wp2_with (refine load_stmt rfl _ rfl w.heap.size 0 rfl cs1 (HA.out _ (Below.refl _ _)).1 hl1.out ?_)
  go_at_call 8
  with_reducible refine (HF1.out _ (Below.refl _ _)).mono ?_
  rintro e1 w1 ⟨b1,rfl,hfa,hb1⟩
  have HB1:=Lib.hid hb1
  have HFA:=Lib.hid hfa
  clear hb1 hfa
  cases b1 with
  | false=>
    go_wp2_with (go_at_call 9;(with_reducible refine (HW.out _ HB1.out).mono ?_);rintro e2 w2 ⟨rfl,hb2⟩;have HB2:=Lib.hid (HE.out _ (Mem.on HB1.out hb2));clear hb2)
    go_ret
    exact ⟨rfl,HB2.out⟩
  | true=>
    have HFA2:=Lib.hid (show Fw a from by first|exact HFA.out rfl|exact HFA.out trivial)
    go_wp2_with (refine load_stmt_on (by rfl) _ rfl (w.heap.size+1) 0 rfl cs2 (HA.out _ HB1.out).2 hl2.out ?_)
    go_at_call 8
    with_reducible refine (HF2.out _ HB1.out).mono ?_
    rintro e2 w2 ⟨b2,rfl,hfb,hb2⟩
    have HB2:=Lib.hid (Mem.on HB1.out hb2)
    have HFB:=Lib.hid hfb
    clear hb2 hfb
    cases b2 with
    | false=>
      go_wp2_with (go_at_call 9;(with_reducible refine (HW.out _ HB2.out).mono ?_);rintro e3 w3 ⟨rfl,hb3⟩;have HB3:=Lib.hid (HE.out _ (Mem.on HB2.out hb3));clear hb3)
      go_ret
      exact ⟨rfl,HB3.out⟩
    | true=>
      have HFB2:=Lib.hid (show Fw b from by first|exact HFB.out rfl|exact HFB.out trivial)
      go_wp2_with (refine load_stmt rfl _ rfl w.heap.size 0 rfl cs1 (HA.out _ HB2.out).1 hl1.out ?_)
      go_at_call 12
      with_reducible refine (HP1.out HFA2.out _ HB2.out).mono ?_
      rintro e3 w3 ⟨s,q,rfl,hsp,hb3⟩
      have HB3:=Lib.hid (Mem.on HB2.out hb3)
      have HSP:=Lib.hid hsp
      clear hb3 hsp
      go_wp2_with (refine load_stmt rfl _ rfl (w.heap.size+1) 0 rfl cs2 (HA.out _ HB3.out).2 hl2.out ?_)
      go_at_call 12
      with_reducible refine (HP2.out HFB2.out _ HB3.out).mono ?_
      rintro e4 w4 ⟨t,r,rfl,htp,hb4⟩
      have HB4:=Lib.hid (Mem.on HB3.out hb4)
      have HTP:=Lib.hid htp
      clear hb4 htp
      by_cases hq:q=0
      · subst hq
        by_cases hr:r=0
        · subst hr
          have tz:((Ep.txt s).toList==(Ep.txt t).toList)=z:=by rw [←HZ.out];exact txt_eqB HSP.out HTP.out
          clear HSP HTP
          cases z
          all_goals
            go_wp2_with (first|(go_at_call 13;(with_reducible refine (HT.out _).mono ?_);rintro e7 w7 ⟨rfl,rfl⟩)|(go_at_call 14;(with_reducible refine (HRT.out _).mono ?_);rintro e7 w7 ⟨rfl,rfl⟩)|(go_at_call 15;(with_reducible refine (HPR.out _).mono ?_);rintro e7 w7 ⟨rfl,rfl⟩)|(go_at_call 16;(with_reducible refine (HRP.out _).mono ?_);rintro e7 w7 ⟨rfl,rfl⟩)|(refine load_stmt_on (by rfl) _ rfl w.heap.size 0 rfl cs1 (HA.out _ HB4.out).1 hl1.out ?_)|(refine load_stmt_on (by rfl) _ rfl (w.heap.size+1) 0 rfl cs2 (HA.out _ HB4.out).2 hl2.out ?_)|(go_at_call 10;(with_reducible refine (HS.out _ HB4.out).mono ?_);rintro e6 w6 ⟨rfl,hb6⟩;have HB6:=Lib.hid (Mem.on HB4.out hb6);clear hb6)|(go_at_call 9;(with_reducible refine (HW.out _ HB6.out).mono ?_);rintro e5 w5 ⟨rfl,hb5⟩;have HB5:=Lib.hid (HE.out _ (Mem.on HB6.out hb5));clear hb5))
            go_ret
            exact ⟨rfl,HB5.out⟩
        · have tr:(r !=0)=true:=bne_yes hr
          clear hr HSP HTP
          go_wp2_with (first|(go_at_call 13;(with_reducible refine (HT.out _).mono ?_);rintro e7 w7 ⟨rfl,rfl⟩)|(go_at_call 14;(with_reducible refine (HRT.out _).mono ?_);rintro e7 w7 ⟨rfl,rfl⟩)|(go_at_call 15;(with_reducible refine (HPR.out _).mono ?_);rintro e7 w7 ⟨rfl,rfl⟩)|(go_at_call 16;(with_reducible refine (HRP.out _).mono ?_);rintro e7 w7 ⟨rfl,rfl⟩)|(go_at_call 9;(with_reducible refine (HW.out _ HB4.out).mono ?_);rintro e5 w5 ⟨rfl,hb5⟩;have HB5:=Lib.hid (HE.out _ (Mem.on HB4.out hb5));clear hb5))
          go_ret
          exact ⟨rfl,HB5.out⟩
      · have tq:(q !=0)=true:=bne_yes hq
        clear hq HSP HTP
        go_wp2_with (first|(go_at_call 13;(with_reducible refine (HT.out _).mono ?_);rintro e7 w7 ⟨rfl,rfl⟩)|(go_at_call 14;(with_reducible refine (HRT.out _).mono ?_);rintro e7 w7 ⟨rfl,rfl⟩)|(go_at_call 15;(with_reducible refine (HPR.out _).mono ?_);rintro e7 w7 ⟨rfl,rfl⟩)|(go_at_call 16;(with_reducible refine (HRP.out _).mono ?_);rintro e7 w7 ⟨rfl,rfl⟩)|(go_at_call 9;(with_reducible refine (HW.out _ HB4.out).mono ?_);rintro e5 w5 ⟨rfl,hb5⟩;have HB5:=Lib.hid (HE.out _ (Mem.on HB4.out hb5));clear hb5))
        go_ret
        exact ⟨rfl,HB5.out⟩
end Go.Proofs.YtiaomhdmllhmmaaGreatDoor.Sm
