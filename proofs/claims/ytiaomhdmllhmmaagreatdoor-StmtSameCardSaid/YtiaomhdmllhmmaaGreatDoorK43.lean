/- The law's example: a choice of rows, written. A statement that came in as an argument; what the laws ask of the listed variables. Two constraints are one: the document's own answer. -/
import Derived.Test.YtiaomhdmllhmmaaGreatDoorK42
import Derived.Test.YtiaomhdmllhmmaaGreatDoorK24
import Derived.Test.YtiaomhdmllhmmaaGreatDoorK10
import Derived.Test.YtiaomhdmllhmmaaGreatDoorK02
import Derived.Test.YtiaomhdmllhmmaaGreatDoorK15
namespace Go.Proofs.YtiaomhdmllhmmaaGreatDoor.Sm
open Go.RowKit Mem Ep Right Lx Go.ChangeShapes Go.WideShapes
set_option linter.unusedVariables false
def wS:St:= .mk 19 [116] [] [] [] [] [] [[col [97]]] noEx [] [(col [97],true)] 3 0 false []
theorem wS_lo:Lo (col [97]):=⟨.col (by decide),by decide+kernel⟩
theorem wS_ok:OkS wS:=by
 refine .rows (.select (show kindOf [116]=1 by decide) (by decide) (fun x hx=>?_) (.inl rfl) (by decide) (fun x hx=>?_) (by decide) (by decide))
 · obtain rfl:x= [col [97]]:=by simpa using hx
   exact ⟨by decide, by decide, fun e he => by obtain rfl:e=col [97]:=by simpa using he
                                               exact wS_lo⟩
 · obtain rfl:x=(col [97],true):=by simpa using hx
   exact wS_lo
theorem wS_text:tx (stP wS)= [83,69,76,69,67,84,32,97,32,70,82,79,77,32,116,32,79,82,68,69,82,32,66,89,32,97,32,68,69,83,67,32,76,73,77,73,84,32,51]:=by decide+kernel
theorem i6 {n:Int} (h:(decide (-(2 ^ 63)≤n) && decide (n<2 ^ 63))=true):i64ok n:=by
 rw [Bool.and_eq_true,decide_eq_true_eq,decide_eq_true_eq] at h
 unfold i64ok
 omega
theorem fine_col:Fine (col [97]):=⟨⟨i6 (by decide),i6 (by decide),i6 (by decide),i6 (by decide)⟩,by decide,trivial⟩
theorem fine_no:Fine noEx:=⟨⟨i6 (by decide),i6 (by decide),i6 (by decide),i6 (by decide)⟩,by decide,trivial⟩
theorem wS_fine:fSt wS:=by
 unfold wS
 rw [fSt_mk]
 refine ⟨⟨i6 (by decide),⟨by unfold fS;decide,by unfold fS;decide,by unfold fS;decide⟩,by simp,by simp,by simp [fSs],⟨by decide,fun x hx=>?_⟩,fine_no,by simp,⟨by decide,fun x hx=>?_⟩,i6 (by decide),i6 (by decide)⟩,by decide,by simp⟩
 · obtain rfl:x= [col [97]]:=by simpa using hx
   exact ⟨by decide, fun e he => by obtain rfl:e=col [97]:=by simpa using he
                                    exact fine_col⟩
 · obtain rfl:x=(col [97],true):=by simpa using hx
   exact fine_col
theorem wS_few:Fw wS:=by
 have hc:∃m,cnt (col [97]) 60=some m:=by
   cases h:cnt (col [97]) 60 with
   |none=>exact absurd h (by decide+kernel)
   |some m=>exact ⟨m,rfl⟩
 have hn:∃m,cnt noEx 60=some m:=by
   cases h:cnt noEx 60 with
   |none=>exact absurd h (by decide+kernel)
   |some m=>exact ⟨m,rfl⟩
 refine ⟨⟨⟨by unfold tF;decide,by unfold tF;decide,by unfold tF;decide⟩,by simp,by simp,by simp,fun x hx e he=>?_,hn,by simp,fun x hx=>?_⟩,fun y hy=>by cases hy⟩
 · obtain rfl:x= [col [97]]:=by simpa using hx
   obtain rfl:e=col [97]:=by simpa using he
   exact hc
 · obtain rfl:x=(col [97],true):=by simpa using hx
   exact hc
theorem row_new1 {w:World} {d:Dt} {cs:List Value} {k:Nat} {e:TypeId} (hd:DtIn w (fun b=>b<w.heap.size) d cs) (hk:cs.length=k):
   DtIn (w.alloc (.cells cs.toArray e)) (fun b=>b<(w.alloc (.cells cs.toArray e)).heap.size) (.row k [d]) [.slice (some ⟨w.heap.size,0,none⟩) 1 1]:=by
 refine row_is.2 ⟨_,rfl,_,1,rfl,Nat.le_refl _,by unfold maxLen;omega,(fun h=>by cases h),RowIn.of fun j x hx=>?_⟩
 obtain ⟨rfl,rfl⟩:j=0∧x=d:=by
   rcases j with _|j
   · simp at hx;exact ⟨rfl,hx.symm⟩
   · simp at hx
 refine ⟨w.heap.size,0,cs,rfl,by simp,hk,fun i u hu=>?_,DtIn.on hd (al (Below.refl _ _) _)⟩
 have h:=(Cel.new w e cs.toArray rfl).at_ i
 have e2:0+(0+0)*k+i=i:=by omega
 rw [e2,h]
 simpa using hu
theorem is_row {w:World} {S:Nat→Prop} {k:Nat} {xs:List Dt} {v:Value} (h:DtIn w S (.row k xs) [v]):IsRow w S k xs v:=by
 obtain ⟨u,hu,hr⟩:=row_is.1 h
 obtain rfl:v=u:=by simpa using hu
 exact hr
theorem is_nil (w:World) (S:Nat→Prop) (k:Nat):IsRow w S k [] (.slice none 0 0):=⟨none,0,rfl,Nat.le_refl _,Nat.zero_le _,fun _=>rfl,RowIn.of fun j x hx=>by simp at hx⟩
theorem col_in (w:World) (S:Nat→Prop):ExIn w S (col [97]) [.int .i64 2, .int .i64 0, .int .i64 0, .int .i64 0, .string ⟨#[]⟩, .string ⟨#[97]⟩, .slice none 0 0]:=
 (exIn_mk _ _ _ _ _ _ _ _ _ _).2 ⟨none,0,rfl,Nat.le_refl _,Nat.zero_le _,fun _=>rfl,kidsIn_nil _ _ _ _⟩
set_option maxHeartbeats 4000000 in
set_option maxRecDepth 100000 in
theorem works_any (w:World) (hE:WrE w w.heap.size):Calls Tryz.prog 9 #[] w fun e w' =>e= .returned (.bool true)∧Below w.heap.size w w' :=by
 have d1:DtIn w (fun b=>b<w.heap.size) (exDt (col [97])) [.int .i64 2, .int .i64 0, .int .i64 0, .int .i64 0, .string ⟨#[]⟩, .string ⟨#[97]⟩, .slice none 0 0]:=col_in _ _
 obtain ⟨W1,hW1⟩:∃W,w.alloc (.cells #[.int .i64 2, .int .i64 0, .int .i64 0, .int .i64 0, .string ⟨#[]⟩, .string ⟨#[97]⟩, .slice none 0 0] 30)=W:=⟨_,rfl⟩
 have d2:DtIn W1 (fun b=>b<W1.heap.size) (exsDt [col [97]]) [.slice (some ⟨w.heap.size,0,none⟩) 1 1]:=by rw [←hW1];exact row_new1 d1 rfl
 obtain ⟨W2,hW2⟩:∃W,W1.alloc (.cells #[.slice (some ⟨w.heap.size,0,none⟩) 1 1] 28)=W:=⟨_,rfl⟩
 have d3:DtIn W2 (fun b=>b<W2.heap.size) (rwsDt [[col [97]]]) [.slice (some ⟨W1.heap.size,0,none⟩) 1 1]:=by rw [←hW2];exact row_new1 d2 rfl
 have d4:DtIn W2 (fun b=>b<W2.heap.size) (orDt (col [97],true)) [.int .i64 2, .int .i64 0, .int .i64 0, .int .i64 0, .string ⟨#[]⟩, .string ⟨#[97]⟩, .slice none 0 0, .bool true]:=or_in.2 ⟨_,rfl,col_in _ _⟩
 obtain ⟨W3,hW3⟩:∃W,W2.alloc (.cells #[.int .i64 2, .int .i64 0, .int .i64 0, .int .i64 0, .string ⟨#[]⟩, .string ⟨#[97]⟩, .slice none 0 0, .bool true] 60)=W:=⟨_,rfl⟩
 have d5:DtIn W3 (fun b=>b<W3.heap.size) (.row 8 ([(col [97],true)].map orDt)) [.slice (some ⟨W2.heap.size,0,none⟩) 1 1]:=by rw [←hW3];exact row_new1 d4 rfl
 have hb1:Below w.heap.size w W1:=by rw [←hW1];exact al (Below.refl _ _) _
 have hb2:Below w.heap.size w W2:=by rw [←hW2];exact al hb1 _
 have hb23:Below W2.heap.size W2 W3:=by rw [←hW3];exact al (Below.refl _ _) _
 have hb3:Below w.heap.size w W3:=Mem.on hb2 hb23
 have d6:=DtIn.on d3 hb23
 have dS:DtIn W3 (fun b=>b<W3.heap.size) (stDt wS) [.int .i64 19, .string ⟨#[116]⟩, .string ⟨#[]⟩, .string ⟨#[]⟩, .slice none 0 0, .slice none 0 0, .slice none 0 0, .slice (some ⟨W1.heap.size,0,none⟩) 1 1, .int .i64 0, .int .i64 0, .int .i64 0, .int .i64 0, .string ⟨#[]⟩, .string ⟨#[]⟩, .slice none 0 0, .slice none 0 0, .slice (some ⟨W2.heap.size,0,none⟩) 1 1, .int .i64 3, .int .i64 0, .bool false, .slice none 0 0]:=
   st_in.2 ⟨_,_,_,_,_,_,_,_,rfl,is_nil _ _ _,is_nil _ _ _,is_nil _ _ _,is_row d6,noEx_in,is_nil _ _ _,is_row d5,is_nil _ _ _⟩
 have HP:=Lib.hid (show Calls Tryz.prog 12 #[.agg #[.int .i64 19, .string ⟨#[116]⟩, .string ⟨#[]⟩, .string ⟨#[]⟩, .slice none 0 0, .slice none 0 0, .slice none 0 0, .slice (some ⟨W1.heap.size,0,none⟩) 1 1, .int .i64 0, .int .i64 0, .int .i64 0, .int .i64 0, .string ⟨#[]⟩, .string ⟨#[]⟩, .slice none 0 0, .slice none 0 0, .slice (some ⟨W2.heap.size,0,none⟩) 1 1, .int .i64 3, .int .i64 0, .bool false, .slice none 0 0]] W3 fun e w' =>e= .returned (.tuple #[.string ⟨#[83,69,76,69,67,84,32,97,32,70,82,79,77,32,116,32,79,82,68,69,82,32,66,89,32,97,32,68,69,83,67,32,76,73,77,73,84,32,51]⟩, .int .i64 0])∧Below w.heap.size w w' from by
   have hw:WrE W3 W3.heap.size:=by
     have:=hE.below hb3
     have hs:=hb3.size
     exact ⟨⟨this.1.1,by have:=this.1.2;omega⟩,⟨this.2.1.1,by have:=this.2.1.2;omega⟩,⟨this.2.2.1,by have:=this.2.2.2;omega⟩⟩
   refine (sprint_any wS _ W3 dS hw ?_ (fw_slim wS_few) (fw_txs wS_few) (fw_len wS_few)).mono fun e w' g=>?_
   · exact wS_fine
   obtain ⟨s,q,rfl,h,hb⟩:=g
   rcases h with ⟨h, -⟩|⟨-,h, -⟩|⟨-, -,rfl,rfl⟩
   · exact absurd wS_ok h
   · rw [wS_text] at h;exact absurd h (by decide)
   · exact ⟨by rw [wS_text];rfl,Mem.on hb3 hb⟩)
 clear d1 d2 d3 d4 d5 d6 dS hb1 hb2 hb23 hb3 hE
 go_enter Tryz.func9,Tryz.ntmps9
 go_wp2_with (go_at_call 12;(with_reducible refine HP.out.mono ?_);rintro e' w1 ⟨rfl,hb1⟩;have HB:=Lib.hid hb1;clear hb1)
 go_ret
 exact ⟨rfl,HB.out⟩
end Go.Proofs.YtiaomhdmllhmmaaGreatDoor.Sm
namespace Go.Proofs.YtiaomhdmllhmmaaGreatDoor.Sm
open Go.ChangeShapes Go.WideShapes Go.ChangeAt Go.RowKit Mem Ep Right Lx
set_option linter.unusedVariables false
theorem hasBs:HasB Tryz.prog 3 9 4 24:=⟨Tryz.underlying3,Tryz.underlying9,Tryz.underlying4,Tryz.underlying24,by kernel_rfl⟩
theorem hasCn:HasC Tryz.prog 3 9 4 24 30 27 28 54 22 56 23 where
 b:=hasBs
 e:=Ep.hasEx
 co:=⟨_,Tryz.underlying54,by kernel_rfl,by kernel_rfl⟩
 cos:=⟨Tryz.underlying22,by kernel_rfl⟩
 cn:=⟨_,Tryz.underlying56,by kernel_rfl,by kernel_rfl⟩
 cns:=⟨Tryz.underlying23,by kernel_rfl⟩
theorem hasSt:HasSt Tryz.prog 3 9 4 24 30 27 28 54 22 56 23 25 58 31 60 32 35 33 where
 c:=hasCn
 rows:=⟨Tryz.underlying25,by kernel_rfl⟩
 se:=⟨_,Tryz.underlying58,by kernel_rfl,by kernel_rfl⟩
 ses:=⟨Tryz.underlying31,by kernel_rfl⟩
 ord:=⟨_,Tryz.underlying60,by kernel_rfl,by kernel_rfl⟩
 ords:=⟨Tryz.underlying32,by kernel_rfl⟩
 st:=⟨_,Tryz.underlying35,by kernel_rfl,by kernel_rfl⟩
 sts:=⟨Tryz.underlying33,by kernel_rfl⟩
section
variable {H:Type} {enc:TypeId × Value→H} {W:World}
set_option maxRecDepth 100000 in
theorem open_stv {r:Reach} {b0:Nat} {v:Value} {d:DataW H} {p:List MemPlace} (hv:Value.okWide Tryz.prog W r b0 35 v) (h:DataW.Trod enc Tryz.prog W 0 (fun _=>true) true 35 v d p):
   ∃cs x,v= .agg (List.toArray cs)∧DtIn W (fun b=>b<W.heap.size) (stDt x) cs∧fSt x:=by
 obtain ⟨cs,rfl,hsz⟩:=okWide_struct Tryz.underlying35 hv
 obtain ⟨fuel,hf⟩:=h
 obtain ⟨d,h1,h2⟩:=open_dt fuel 35 cs.toList _ hf
 obtain ⟨x,rfl,hx⟩:=(shp_st hasSt d).1 h2
 exact ⟨cs.toList,x,rfl,h1,hx⟩
end
theorem wre_of_laid {l:List (String × DataW Unit)} {W:World} (h:laidMetH Tryz.prog l W) (hsh:W.ShapedOpen Tryz.prog) (hp:(l.all fun x=>x.2.handleName?.isNone)=true) (h1:("registrar/lex.signs",(Rows.laid_registrar_lex_signs:DataW Unit))∈l) (h2:("registrar/expr.signs",(Rows.laid_registrar_expr_signs:DataW Unit))∈l) (h3:("internal/strconv.uint64pow10",(Rows.laid_internal_strconv_uint64pow10:DataW Unit))∈l):WrE W W.heap.size:=by
 have hs:=signs_of_laid h hp h1
 have ho:=osg_of_laid h hsh hp h2
 have ht:Lib.TabIs Tryz.prog W "internal/strconv.uint64pow10" .u64 Lib.pow10Tab:=laid_tab (g:=4) h hp h3 (by kernel_rfl) (by kernel_rfl) Tryz.underlying213 Tryz.underlying190 (by kernel_rfl) (by kernel_rfl)
 refine ⟨⟨hs,hs.lt⟩,⟨ho,?_⟩,⟨ht,?_⟩⟩
 · have a:=cell_lt (ho.1 0 _ rfl)
   obtain ⟨m,hm⟩:=ho.2
   have b:=cell_lt hm
   exact Nat.max_lt.2 ⟨a,b⟩
 · exact cell_lt (ht.cell (g:=4) (by kernel_rfl) 0 (by decide))
end Go.Proofs.YtiaomhdmllhmmaaGreatDoor.Sm
namespace Go.Proofs.YtiaomhdmllhmmaaGreatDoor.Sm
open Go.RowKit Mem Ep Right Go.ChangeShapes Go.WideShapes
set_option linter.unusedVariables false
theorem refSame_row (x:List Ex):SameW 26 exsDt x:=fun y cs ds w h1 h2=>by
 unfold exsDt at h1 h2
 obtain ⟨v,rfl,A,ca,rfl,l1,l2, -,r1⟩:=row_is.1 h1
 obtain ⟨v',rfl,A',ca',rfl, -, -, -,r2⟩:=row_is.1 h2
 simp only [List.length_map] at l1 l2 ⊢
 rw [←eqB_of (p:=sameL x y) sameL_iff]
 exact refList_of x (fun z _=>refSame_any z) y A A' ca ca' w (by omega) r1 r2
set_option maxHeartbeats 4000000 in
theorem refSame_cons (x:Cn):SameW 25 cnDt x:=fun y cs ds w h1 h2=>by
 obtain ⟨xn,xk,xc,xe,xt,xr⟩:=x
 obtain ⟨yn,yk,yc,ye,yt,yr⟩:=y
 obtain ⟨u1,e1,u2,rfl,⟨A1,a1,rfl,l1,m1, -,r1⟩,r2,⟨A2,a2,rfl,l2,m2, -,r3⟩⟩:=cn_in.1 h1
 obtain ⟨v1,f1,v2,rfl,⟨C1,b1,rfl, -, -, -,s1⟩,s2,⟨C2,b2,rfl, -, -, -,s3⟩⟩:=cn_in.1 h2
 simp only [List.length_map] at l1 l2 h1 h2 r1 r2 r3 s1 s2 s3 ⊢
 obtain ⟨ku,ou,vku,vnu,vsu,nsu,Bu,mu,du,rfl⟩:=ex_form r2
 obtain ⟨kv,ov,vkv,vnv,vsv,nsv,Bv,mv,dv,rfl⟩:=ex_form s2
 obtain ⟨n1,hn1⟩:∃n,xc.length=n:=⟨_,rfl⟩
 obtain ⟨n2,hn2⟩:∃n,xr.length=n:=⟨_,rfl⟩
 obtain ⟨p1,hp1⟩:∃n,yc.length=n:=⟨_,rfl⟩
 obtain ⟨p2,hp2⟩:∃n,yr.length=n:=⟨_,rfl⟩
 rw [hn1,hn2,hp1,hp2]
 show Calls Tryz.prog 25 #[.agg #[.string (txt xn), .int .i64 xk, .slice A1 n1 a1, .int .i64 ku, .int .i64 ou, .int .i64 vku, .int .i64 vnu, .string vsu, .string nsu, .slice Bu mu du, .string (txt xt), .slice A2 n2 a2], .agg #[.string (txt yn), .int .i64 yk, .slice C1 p1 b1, .int .i64 kv, .int .i64 ov, .int .i64 vkv, .int .i64 vnv, .string vsv, .string nsv, .slice Bv mv dv, .string (txt yt), .slice C2 p2 b2]] w _
 obtain ⟨W,hW⟩:∃W,(w.alloc (.cells #[.string (txt xn), .int .i64 xk, .slice A1 n1 a1, .int .i64 ku, .int .i64 ou, .int .i64 vku, .int .i64 vnu, .string vsu, .string nsu, .slice Bu mu du, .string (txt xt), .slice A2 n2 a2] 56)).alloc (.cells #[.string (txt yn), .int .i64 yk, .slice C1 p1 b1, .int .i64 kv, .int .i64 ov, .int .i64 vkv, .int .i64 vnv, .string vsv, .string nsv, .slice Bv mv dv, .string (txt yt), .slice C2 p2 b2] 56)=W:=⟨_,rfl⟩
 have hb:Below w.heap.size w W:=by rw [←hW];exact al (al (Below.refl _ _) _) _
 have hs1:w.heap.size<W.heap.size:=by rw [←hW];simp;omega
 have hs2:w.heap.size+1<W.heap.size:=by rw [←hW];simp
 have x1:Cel W w.heap.size 56 #[.string (txt xn), .int .i64 xk, .slice A1 n1 a1, .int .i64 ku, .int .i64 ou, .int .i64 vku, .int .i64 vnu, .string vsu, .string nsu, .slice Bu mu du, .string (txt xt), .slice A2 n2 a2]:=by rw [←hW];exact (Cel.new w _ _ rfl).alloc _
 have x2:Cel W (w.heap.size+1) 56 #[.string (txt yn), .int .i64 yk, .slice C1 p1 b1, .int .i64 kv, .int .i64 ov, .int .i64 vkv, .int .i64 vnv, .string vsv, .string nsv, .slice Bv mv dv, .string (txt yt), .slice C2 p2 b2]:=by rw [←hW];exact Cel.new _ _ _ (by simp)
 have HB:=Lib.hid hb
 have HY:=Lib.hid (Below.refl W.heap.size W)
 have HS1:=Lib.hid hs1
 have HS2:=Lib.hid hs2
 have X1:=Lib.hid x1
 have X2:=Lib.hid x2
 obtain ⟨q1,hq1⟩:∃q,eqB xc yc=q:=⟨_,rfl⟩
 have HC1:=Lib.hid (show ∀W',Below W.heap.size W W' →Calls Tryz.prog 23 #[.slice A1 n1 a1, .slice C1 p1 b1] W' fun e w' =>e= .returned (.bool q1)∧Below W'.heap.size W' w' from fun W' hW=>by
   rw [←hq1,←hn1,←hp1]
   exact sameTexts_any xc yc A1 C1 a1 b1 W' (by omega) (RowIn.to (fun b h=>Nat.lt_of_lt_of_le h (Mem.on hb hW).size) (fun p hp=>(Mem.on hb hW).cell hp) r1) (RowIn.to (fun b h=>Nat.lt_of_lt_of_le h (Mem.on hb hW).size) (fun p hp=>(Mem.on hb hW).cell hp) s1))
 obtain ⟨q2,hq2⟩:∃q,eqB xr yr=q:=⟨_,rfl⟩
 have HC2:=Lib.hid (show ∀W',Below W.heap.size W W' →Calls Tryz.prog 23 #[.slice A2 n2 a2, .slice C2 p2 b2] W' fun e w' =>e= .returned (.bool q2)∧Below W'.heap.size W' w' from fun W' hW=>by
   rw [←hq2,←hn2,←hp2]
   exact sameTexts_any xr yr A2 C2 a2 b2 W' (by omega) (RowIn.to (fun b h=>Nat.lt_of_lt_of_le h (Mem.on hb hW).size) (fun p hp=>(Mem.on hb hW).cell hp) r3) (RowIn.to (fun b h=>Nat.lt_of_lt_of_le h (Mem.on hb hW).size) (fun p hp=>(Mem.on hb hW).cell hp) s3))
 obtain ⟨q3,hq3⟩:∃q,eqB xe ye=q:=⟨_,rfl⟩
 have HC3:=Lib.hid (show ∀W',Below W.heap.size W W' →Calls Tryz.prog 24 #[.agg #[.int .i64 ku, .int .i64 ou, .int .i64 vku, .int .i64 vnu, .string vsu, .string nsu, .slice Bu mu du], .agg #[.int .i64 kv, .int .i64 ov, .int .i64 vkv, .int .i64 vnv, .string vsv, .string nsv, .slice Bv mv dv]] W' fun e w' =>e= .returned (.bool q3)∧Below W'.heap.size W' w' from fun W' hW=>by
   rw [←hq3]
   exact same_ex10 xe ye _ _ W' (DtIn.on r2 (Mem.on hb hW)) (DtIn.on s2 (Mem.on hb hW)))
 have c0:=x1.at_ 0
 have c1:=x1.at_ 1
 have c2:=x1.at_ 2
 have c3:=x1.at_ 3
 have c4:=x1.at_ 4
 have c5:=x1.at_ 5
 have c6:=x1.at_ 6
 have c7:=x1.at_ 7
 have c8:=x1.at_ 8
 have c9:=x1.at_ 9
 have c10:=x1.at_ 10
 have c11:=x1.at_ 11
 have d0:=x2.at_ 0
 have d1:=x2.at_ 1
 have d2:=x2.at_ 2
 have d3:=x2.at_ 3
 have d4:=x2.at_ 4
 have d5:=x2.at_ 5
 have d6:=x2.at_ 6
 have d7:=x2.at_ 7
 have d8:=x2.at_ 8
 have d9:=x2.at_ 9
 have d10:=x2.at_ 10
 have d11:=x2.at_ 11
 clear h1 h2 x1 x2 hb hs1 hs2 r1 r2 r3 s1 s2 s3 l1 l2 m1 m2 hn1 hn2 hp1 hp2
 by_cases e0:xn=yn
 case neg=>
   obtain ⟨t3,t4,t5⟩:=txt_ne e0
   have HF:=Lib.hid (eqB_no (a:=(⟨xn,xk,xc,xe,xt,xr⟩:Cn)) (b:=(⟨yn,yk,yc,ye,yt,yr⟩:Cn)) (fun g=>by
     have e9:xn=yn:=by injection g
     exact e0 e9)).symm
   clear hq1 hq2 hq3
   go_enter Tryz.func25,Tryz.ntmps25
   go_wp2
   go_ret
   exact ⟨rb HF.out,HB.out⟩
 subst e0
 by_cases e0:xk=yk
 case neg=>
   have t1:(xk==yk)=false:=beq_no e0
   have HF:=Lib.hid (eqB_no (a:=(⟨xn,xk,xc,xe,xt,xr⟩:Cn)) (b:=(⟨xn,yk,yc,ye,yt,yr⟩:Cn)) (fun g=>by
     have e9:xk=yk:=by injection g
     exact e0 e9)).symm
   clear hq1 hq2 hq3
   go_enter Tryz.func25,Tryz.ntmps25
   go_wp2
   go_ret
   exact ⟨rb HF.out,HB.out⟩
 subst e0
 by_cases e0:xt=yt
 case neg=>
   obtain ⟨t3,t4,t5⟩:=txt_ne e0
   have HF:=Lib.hid (eqB_no (a:=(⟨xn,xk,xc,xe,xt,xr⟩:Cn)) (b:=(⟨xn,xk,yc,ye,yt,yr⟩:Cn)) (fun g=>by
     have e9:xt=yt:=by injection g
     exact e0 e9)).symm
   clear hq1 hq2 hq3
   go_enter Tryz.func25,Tryz.ntmps25
   go_wp2
   go_ret
   exact ⟨rb HF.out,HB.out⟩
 subst e0
 by_cases e0:q1=false
 case pos=>
   subst e0
   have HF:=Lib.hid (eqB_no (a:=(⟨xn,xk,xc,xe,xt,xr⟩:Cn)) (b:=(⟨xn,xk,yc,ye,xt,yr⟩:Cn)) (fun g=>by
     have e9:xc=yc:=by injection g
     rw [eqB_yes e9] at hq1
     cases hq1)).symm
   clear hq1 hq2 hq3
   go_enter Tryz.func25,Tryz.ntmps25
   go_wp2_with (go_at_call 23;(with_reducible refine (HC1.out _ HY.out).mono ?_);rintro e' w2 ⟨rfl,hb2⟩;have HB:=Lib.hid (Mem.on HB.out hb2);have HY:=Lib.hid (Mem.on HY.out hb2);have c11:=(HY.out.cell (p:=⟨w.heap.size,11,none⟩) HS1.out).trans (X1.out.at_ 11);have d11:=(HY.out.cell (p:=⟨w.heap.size+1,11,none⟩) HS2.out).trans (X2.out.at_ 11);have c3:=(HY.out.cell (p:=⟨w.heap.size,3,none⟩) HS1.out).trans (X1.out.at_ 3);have d3:=(HY.out.cell (p:=⟨w.heap.size+1,3,none⟩) HS2.out).trans (X2.out.at_ 3);have c4:=(HY.out.cell (p:=⟨w.heap.size,4,none⟩) HS1.out).trans (X1.out.at_ 4);have d4:=(HY.out.cell (p:=⟨w.heap.size+1,4,none⟩) HS2.out).trans (X2.out.at_ 4);have c5:=(HY.out.cell (p:=⟨w.heap.size,5,none⟩) HS1.out).trans (X1.out.at_ 5);have d5:=(HY.out.cell (p:=⟨w.heap.size+1,5,none⟩) HS2.out).trans (X2.out.at_ 5);have c6:=(HY.out.cell (p:=⟨w.heap.size,6,none⟩) HS1.out).trans (X1.out.at_ 6);have d6:=(HY.out.cell (p:=⟨w.heap.size+1,6,none⟩) HS2.out).trans (X2.out.at_ 6);have c7:=(HY.out.cell (p:=⟨w.heap.size,7,none⟩) HS1.out).trans (X1.out.at_ 7);have d7:=(HY.out.cell (p:=⟨w.heap.size+1,7,none⟩) HS2.out).trans (X2.out.at_ 7);have c8:=(HY.out.cell (p:=⟨w.heap.size,8,none⟩) HS1.out).trans (X1.out.at_ 8);have d8:=(HY.out.cell (p:=⟨w.heap.size+1,8,none⟩) HS2.out).trans (X2.out.at_ 8);have c9:=(HY.out.cell (p:=⟨w.heap.size,9,none⟩) HS1.out).trans (X1.out.at_ 9);have d9:=(HY.out.cell (p:=⟨w.heap.size+1,9,none⟩) HS2.out).trans (X2.out.at_ 9);clear hb2)
   go_ret
   exact ⟨rb HF.out,HB.out⟩
 obtain rfl:q1=true:=by
   cases q1 with
   |false=>exact absurd rfl e0
   |true=>rfl
 clear e0
 by_cases e0:q2=false
 case pos=>
   subst e0
   have HF:=Lib.hid (eqB_no (a:=(⟨xn,xk,xc,xe,xt,xr⟩:Cn)) (b:=(⟨xn,xk,yc,ye,xt,yr⟩:Cn)) (fun g=>by
     have e9:xr=yr:=by injection g
     rw [eqB_yes e9] at hq2
     cases hq2)).symm
   clear hq1 hq2 hq3
   go_enter Tryz.func25,Tryz.ntmps25
   go_wp2_with (go_at_call 23;(with_reducible refine (HC1.out _ HY.out).mono ?_);rintro e' w2 ⟨rfl,hb2⟩;have HB:=Lib.hid (Mem.on HB.out hb2);have HY:=Lib.hid (Mem.on HY.out hb2);have c11:=(HY.out.cell (p:=⟨w.heap.size,11,none⟩) HS1.out).trans (X1.out.at_ 11);have d11:=(HY.out.cell (p:=⟨w.heap.size+1,11,none⟩) HS2.out).trans (X2.out.at_ 11);have c3:=(HY.out.cell (p:=⟨w.heap.size,3,none⟩) HS1.out).trans (X1.out.at_ 3);have d3:=(HY.out.cell (p:=⟨w.heap.size+1,3,none⟩) HS2.out).trans (X2.out.at_ 3);have c4:=(HY.out.cell (p:=⟨w.heap.size,4,none⟩) HS1.out).trans (X1.out.at_ 4);have d4:=(HY.out.cell (p:=⟨w.heap.size+1,4,none⟩) HS2.out).trans (X2.out.at_ 4);have c5:=(HY.out.cell (p:=⟨w.heap.size,5,none⟩) HS1.out).trans (X1.out.at_ 5);have d5:=(HY.out.cell (p:=⟨w.heap.size+1,5,none⟩) HS2.out).trans (X2.out.at_ 5);have c6:=(HY.out.cell (p:=⟨w.heap.size,6,none⟩) HS1.out).trans (X1.out.at_ 6);have d6:=(HY.out.cell (p:=⟨w.heap.size+1,6,none⟩) HS2.out).trans (X2.out.at_ 6);have c7:=(HY.out.cell (p:=⟨w.heap.size,7,none⟩) HS1.out).trans (X1.out.at_ 7);have d7:=(HY.out.cell (p:=⟨w.heap.size+1,7,none⟩) HS2.out).trans (X2.out.at_ 7);have c8:=(HY.out.cell (p:=⟨w.heap.size,8,none⟩) HS1.out).trans (X1.out.at_ 8);have d8:=(HY.out.cell (p:=⟨w.heap.size+1,8,none⟩) HS2.out).trans (X2.out.at_ 8);have c9:=(HY.out.cell (p:=⟨w.heap.size,9,none⟩) HS1.out).trans (X1.out.at_ 9);have d9:=(HY.out.cell (p:=⟨w.heap.size+1,9,none⟩) HS2.out).trans (X2.out.at_ 9);clear hb2)
   go_wp2_with (go_at_call 23;(with_reducible refine (HC2.out _ HY.out).mono ?_);rintro e' w2 ⟨rfl,hb2⟩;have HB:=Lib.hid (Mem.on HB.out hb2);have HY:=Lib.hid (Mem.on HY.out hb2);have c3:=(HY.out.cell (p:=⟨w.heap.size,3,none⟩) HS1.out).trans (X1.out.at_ 3);have d3:=(HY.out.cell (p:=⟨w.heap.size+1,3,none⟩) HS2.out).trans (X2.out.at_ 3);have c4:=(HY.out.cell (p:=⟨w.heap.size,4,none⟩) HS1.out).trans (X1.out.at_ 4);have d4:=(HY.out.cell (p:=⟨w.heap.size+1,4,none⟩) HS2.out).trans (X2.out.at_ 4);have c5:=(HY.out.cell (p:=⟨w.heap.size,5,none⟩) HS1.out).trans (X1.out.at_ 5);have d5:=(HY.out.cell (p:=⟨w.heap.size+1,5,none⟩) HS2.out).trans (X2.out.at_ 5);have c6:=(HY.out.cell (p:=⟨w.heap.size,6,none⟩) HS1.out).trans (X1.out.at_ 6);have d6:=(HY.out.cell (p:=⟨w.heap.size+1,6,none⟩) HS2.out).trans (X2.out.at_ 6);have c7:=(HY.out.cell (p:=⟨w.heap.size,7,none⟩) HS1.out).trans (X1.out.at_ 7);have d7:=(HY.out.cell (p:=⟨w.heap.size+1,7,none⟩) HS2.out).trans (X2.out.at_ 7);have c8:=(HY.out.cell (p:=⟨w.heap.size,8,none⟩) HS1.out).trans (X1.out.at_ 8);have d8:=(HY.out.cell (p:=⟨w.heap.size+1,8,none⟩) HS2.out).trans (X2.out.at_ 8);have c9:=(HY.out.cell (p:=⟨w.heap.size,9,none⟩) HS1.out).trans (X1.out.at_ 9);have d9:=(HY.out.cell (p:=⟨w.heap.size+1,9,none⟩) HS2.out).trans (X2.out.at_ 9);clear hb2)
   go_ret
   exact ⟨rb HF.out,HB.out⟩
 obtain rfl:q2=true:=by
   cases q2 with
   |false=>exact absurd rfl e0
   |true=>rfl
 clear e0
 by_cases e0:q3=false
 case pos=>
   subst e0
   have HF:=Lib.hid (eqB_no (a:=(⟨xn,xk,xc,xe,xt,xr⟩:Cn)) (b:=(⟨xn,xk,yc,ye,xt,yr⟩:Cn)) (fun g=>by
     have e9:xe=ye:=by injection g
     rw [eqB_yes e9] at hq3
     cases hq3)).symm
   clear hq1 hq2 hq3
   go_enter Tryz.func25,Tryz.ntmps25
   go_wp2_with (go_at_call 23;(with_reducible refine (HC1.out _ HY.out).mono ?_);rintro e' w2 ⟨rfl,hb2⟩;have HB:=Lib.hid (Mem.on HB.out hb2);have HY:=Lib.hid (Mem.on HY.out hb2);have c11:=(HY.out.cell (p:=⟨w.heap.size,11,none⟩) HS1.out).trans (X1.out.at_ 11);have d11:=(HY.out.cell (p:=⟨w.heap.size+1,11,none⟩) HS2.out).trans (X2.out.at_ 11);have c3:=(HY.out.cell (p:=⟨w.heap.size,3,none⟩) HS1.out).trans (X1.out.at_ 3);have d3:=(HY.out.cell (p:=⟨w.heap.size+1,3,none⟩) HS2.out).trans (X2.out.at_ 3);have c4:=(HY.out.cell (p:=⟨w.heap.size,4,none⟩) HS1.out).trans (X1.out.at_ 4);have d4:=(HY.out.cell (p:=⟨w.heap.size+1,4,none⟩) HS2.out).trans (X2.out.at_ 4);have c5:=(HY.out.cell (p:=⟨w.heap.size,5,none⟩) HS1.out).trans (X1.out.at_ 5);have d5:=(HY.out.cell (p:=⟨w.heap.size+1,5,none⟩) HS2.out).trans (X2.out.at_ 5);have c6:=(HY.out.cell (p:=⟨w.heap.size,6,none⟩) HS1.out).trans (X1.out.at_ 6);have d6:=(HY.out.cell (p:=⟨w.heap.size+1,6,none⟩) HS2.out).trans (X2.out.at_ 6);have c7:=(HY.out.cell (p:=⟨w.heap.size,7,none⟩) HS1.out).trans (X1.out.at_ 7);have d7:=(HY.out.cell (p:=⟨w.heap.size+1,7,none⟩) HS2.out).trans (X2.out.at_ 7);have c8:=(HY.out.cell (p:=⟨w.heap.size,8,none⟩) HS1.out).trans (X1.out.at_ 8);have d8:=(HY.out.cell (p:=⟨w.heap.size+1,8,none⟩) HS2.out).trans (X2.out.at_ 8);have c9:=(HY.out.cell (p:=⟨w.heap.size,9,none⟩) HS1.out).trans (X1.out.at_ 9);have d9:=(HY.out.cell (p:=⟨w.heap.size+1,9,none⟩) HS2.out).trans (X2.out.at_ 9);clear hb2)
   go_wp2_with (go_at_call 23;(with_reducible refine (HC2.out _ HY.out).mono ?_);rintro e' w2 ⟨rfl,hb2⟩;have HB:=Lib.hid (Mem.on HB.out hb2);have HY:=Lib.hid (Mem.on HY.out hb2);have c3:=(HY.out.cell (p:=⟨w.heap.size,3,none⟩) HS1.out).trans (X1.out.at_ 3);have d3:=(HY.out.cell (p:=⟨w.heap.size+1,3,none⟩) HS2.out).trans (X2.out.at_ 3);have c4:=(HY.out.cell (p:=⟨w.heap.size,4,none⟩) HS1.out).trans (X1.out.at_ 4);have d4:=(HY.out.cell (p:=⟨w.heap.size+1,4,none⟩) HS2.out).trans (X2.out.at_ 4);have c5:=(HY.out.cell (p:=⟨w.heap.size,5,none⟩) HS1.out).trans (X1.out.at_ 5);have d5:=(HY.out.cell (p:=⟨w.heap.size+1,5,none⟩) HS2.out).trans (X2.out.at_ 5);have c6:=(HY.out.cell (p:=⟨w.heap.size,6,none⟩) HS1.out).trans (X1.out.at_ 6);have d6:=(HY.out.cell (p:=⟨w.heap.size+1,6,none⟩) HS2.out).trans (X2.out.at_ 6);have c7:=(HY.out.cell (p:=⟨w.heap.size,7,none⟩) HS1.out).trans (X1.out.at_ 7);have d7:=(HY.out.cell (p:=⟨w.heap.size+1,7,none⟩) HS2.out).trans (X2.out.at_ 7);have c8:=(HY.out.cell (p:=⟨w.heap.size,8,none⟩) HS1.out).trans (X1.out.at_ 8);have d8:=(HY.out.cell (p:=⟨w.heap.size+1,8,none⟩) HS2.out).trans (X2.out.at_ 8);have c9:=(HY.out.cell (p:=⟨w.heap.size,9,none⟩) HS1.out).trans (X1.out.at_ 9);have d9:=(HY.out.cell (p:=⟨w.heap.size+1,9,none⟩) HS2.out).trans (X2.out.at_ 9);clear hb2)
   go_wp2_with (go_at_call 24;(with_reducible refine (HC3.out _ HY.out).mono ?_);rintro e' w2 ⟨rfl,hb2⟩;have HB:=Lib.hid (Mem.on HB.out hb2);have HY:=Lib.hid (Mem.on HY.out hb2);clear hb2)
   go_ret
   exact ⟨rb HF.out,HB.out⟩
 obtain rfl:q3=true:=by
   cases q3 with
   |false=>exact absurd rfl e0
   |true=>rfl
 clear e0
 have HF:=Lib.hid (eqB_yes (a:=(⟨xn,xk,xc,xe,xt,xr⟩:Cn)) (b:=(⟨xn,xk,yc,ye,xt,yr⟩:Cn)) (by rw [eqB_iff.1 hq1,eqB_iff.1 hq2,eqB_iff.1 hq3])).symm
 clear hq1 hq2 hq3
 go_enter Tryz.func25,Tryz.ntmps25
 go_wp2_with (go_at_call 23;(with_reducible refine (HC1.out _ HY.out).mono ?_);rintro e' w2 ⟨rfl,hb2⟩;have HB:=Lib.hid (Mem.on HB.out hb2);have HY:=Lib.hid (Mem.on HY.out hb2);have c11:=(HY.out.cell (p:=⟨w.heap.size,11,none⟩) HS1.out).trans (X1.out.at_ 11);have d11:=(HY.out.cell (p:=⟨w.heap.size+1,11,none⟩) HS2.out).trans (X2.out.at_ 11);have c3:=(HY.out.cell (p:=⟨w.heap.size,3,none⟩) HS1.out).trans (X1.out.at_ 3);have d3:=(HY.out.cell (p:=⟨w.heap.size+1,3,none⟩) HS2.out).trans (X2.out.at_ 3);have c4:=(HY.out.cell (p:=⟨w.heap.size,4,none⟩) HS1.out).trans (X1.out.at_ 4);have d4:=(HY.out.cell (p:=⟨w.heap.size+1,4,none⟩) HS2.out).trans (X2.out.at_ 4);have c5:=(HY.out.cell (p:=⟨w.heap.size,5,none⟩) HS1.out).trans (X1.out.at_ 5);have d5:=(HY.out.cell (p:=⟨w.heap.size+1,5,none⟩) HS2.out).trans (X2.out.at_ 5);have c6:=(HY.out.cell (p:=⟨w.heap.size,6,none⟩) HS1.out).trans (X1.out.at_ 6);have d6:=(HY.out.cell (p:=⟨w.heap.size+1,6,none⟩) HS2.out).trans (X2.out.at_ 6);have c7:=(HY.out.cell (p:=⟨w.heap.size,7,none⟩) HS1.out).trans (X1.out.at_ 7);have d7:=(HY.out.cell (p:=⟨w.heap.size+1,7,none⟩) HS2.out).trans (X2.out.at_ 7);have c8:=(HY.out.cell (p:=⟨w.heap.size,8,none⟩) HS1.out).trans (X1.out.at_ 8);have d8:=(HY.out.cell (p:=⟨w.heap.size+1,8,none⟩) HS2.out).trans (X2.out.at_ 8);have c9:=(HY.out.cell (p:=⟨w.heap.size,9,none⟩) HS1.out).trans (X1.out.at_ 9);have d9:=(HY.out.cell (p:=⟨w.heap.size+1,9,none⟩) HS2.out).trans (X2.out.at_ 9);clear hb2)
 go_wp2_with (go_at_call 23;(with_reducible refine (HC2.out _ HY.out).mono ?_);rintro e' w2 ⟨rfl,hb2⟩;have HB:=Lib.hid (Mem.on HB.out hb2);have HY:=Lib.hid (Mem.on HY.out hb2);have c3:=(HY.out.cell (p:=⟨w.heap.size,3,none⟩) HS1.out).trans (X1.out.at_ 3);have d3:=(HY.out.cell (p:=⟨w.heap.size+1,3,none⟩) HS2.out).trans (X2.out.at_ 3);have c4:=(HY.out.cell (p:=⟨w.heap.size,4,none⟩) HS1.out).trans (X1.out.at_ 4);have d4:=(HY.out.cell (p:=⟨w.heap.size+1,4,none⟩) HS2.out).trans (X2.out.at_ 4);have c5:=(HY.out.cell (p:=⟨w.heap.size,5,none⟩) HS1.out).trans (X1.out.at_ 5);have d5:=(HY.out.cell (p:=⟨w.heap.size+1,5,none⟩) HS2.out).trans (X2.out.at_ 5);have c6:=(HY.out.cell (p:=⟨w.heap.size,6,none⟩) HS1.out).trans (X1.out.at_ 6);have d6:=(HY.out.cell (p:=⟨w.heap.size+1,6,none⟩) HS2.out).trans (X2.out.at_ 6);have c7:=(HY.out.cell (p:=⟨w.heap.size,7,none⟩) HS1.out).trans (X1.out.at_ 7);have d7:=(HY.out.cell (p:=⟨w.heap.size+1,7,none⟩) HS2.out).trans (X2.out.at_ 7);have c8:=(HY.out.cell (p:=⟨w.heap.size,8,none⟩) HS1.out).trans (X1.out.at_ 8);have d8:=(HY.out.cell (p:=⟨w.heap.size+1,8,none⟩) HS2.out).trans (X2.out.at_ 8);have c9:=(HY.out.cell (p:=⟨w.heap.size,9,none⟩) HS1.out).trans (X1.out.at_ 9);have d9:=(HY.out.cell (p:=⟨w.heap.size+1,9,none⟩) HS2.out).trans (X2.out.at_ 9);clear hb2)
 go_wp2_with (go_at_call 24;(with_reducible refine (HC3.out _ HY.out).mono ?_);rintro e' w2 ⟨rfl,hb2⟩;have HB:=Lib.hid (Mem.on HB.out hb2);have HY:=Lib.hid (Mem.on HY.out hb2);clear hb2)
 go_ret
 exact ⟨rb HF.out,HB.out⟩
end Go.Proofs.YtiaomhdmllhmmaaGreatDoor.Sm
