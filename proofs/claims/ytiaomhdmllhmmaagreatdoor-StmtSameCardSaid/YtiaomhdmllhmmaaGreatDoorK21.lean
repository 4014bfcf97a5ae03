/- A checker's calls for single fields: names, lists, numbers, an expression that may be miss A checker's calls: a condition that may be missing. Nothing that was there turns but one block; a block made since is written. What a checker asks of a constraint. -/
import Derived.Test.YtiaomhdmllhmmaaGreatDoorK19
import Derived.Test.YtiaomhdmllhmmaaGreatDoorK20
namespace Go.Proofs.YtiaomhdmllhmmaaGreatDoor.Sm
open Go.RowKit Mem Ep Right Lx Go.ChangeShapes Go.WideShapes
set_option linter.unusedVariables false
section
variable {w w' :World} {B:Nat} {f:Fl} {m:Mk} {er:Int} {P:Prop}
theorem did_pre {w0:World} (ho:Oth B w0 w) {e:Ending} (g:Did B f m er P w e w'):Did B f m er P w0 e w' :=by
 obtain ⟨h1,er',h2,h3,h4⟩:=g
 exact ⟨h1,er',h2,ho.trans h3,h4⟩
theorem did_pre2 {w0:World} {er0:Int} {Q:Prop} (ho:Oth B w0 w) (hq:er=0↔er0=0∧Q) {e:Ending} (g:Did B f m er P w e w'):Did B f m er0 (Q∧P) w0 e w' :=by
 obtain ⟨h1,er',h2,h3,h4⟩:=g
 exact ⟨h1,er',h2,ho.trans h3,by rw [h4,hq,and_assoc]⟩
set_option maxRecDepth 100000 in
theorem table_any (h:Cel w B tC (ckA f m er)) (hE:CkE w B) (hl:tLim f.tt):Calls Tryz.prog 115 #[cP B] w (Did B f {m with t:=true} er (isN f.tt) w):=by
 obtain ⟨W1,hW1⟩:∃W1,w.setCell ⟨B,22,none⟩ (.string (txt f.tt))=W1:=⟨_,rfl⟩
 have h1:Cel W1 B tC (ckA f {m with t:=true} er):=by rw [←hW1];exact Cel.set h 22 (.string (txt f.tt))
 have ho:Oth B w W1:=by rw [←hW1];exact (Oth.refl B w).set 22 (.string (txt f.tt))
 have c1:w.cell? ⟨B,1,none⟩=some (.string (txt f.tt)):=h.at_ 1
 have c22:w.cell? ⟨B,22,none⟩=some (sel m.t (.string (txt f.tt)) zS):=h.at_ 22
 have f22:=h.open_ 22
 have d1:W1.cell? ⟨B,1,none⟩=some (.string (txt f.tt)):=h1.at_ 1
 have HI:=Lib.hid (show Calls Tryz.prog 163 #[cP B, .string (txt f.tt)] W1 (Did B f {m with t:=true} er (isN f.tt) w) from (isName_any _ hl h1 (hE.below ho.1)).mono fun _ _ g=>did_pre ho g)
 clear h h1 ho hE hl
 go_enter Tryz.func115,Tryz.ntmps115
 go_wp2_with (go_at_call 163;(with_reducible refine HI.out.mono ?_);rintro e1 w1 ⟨rfl,HD1⟩)
 go_end0
 exact ⟨rfl,HD1⟩
set_option maxRecDepth 100000 in
theorem name_any (h:Cel w B tC (ckA f m er)) (hE:CkE w B) (hl:tLim f.tn):Calls Tryz.prog 118 #[cP B] w (Did B f {m with n:=true} er (isN f.tn) w):=by
 obtain ⟨W1,hW1⟩:∃W1,w.setCell ⟨B,23,none⟩ (.string (txt f.tn))=W1:=⟨_,rfl⟩
 have h1:Cel W1 B tC (ckA f {m with n:=true} er):=by rw [←hW1];exact Cel.set h 23 (.string (txt f.tn))
 have ho:Oth B w W1:=by rw [←hW1];exact (Oth.refl B w).set 23 (.string (txt f.tn))
 have c2:w.cell? ⟨B,2,none⟩=some (.string (txt f.tn)):=h.at_ 2
 have c23:w.cell? ⟨B,23,none⟩=some (sel m.n (.string (txt f.tn)) zS):=h.at_ 23
 have f23:=h.open_ 23
 have d2:W1.cell? ⟨B,2,none⟩=some (.string (txt f.tn)):=h1.at_ 2
 have HI:=Lib.hid (show Calls Tryz.prog 163 #[cP B, .string (txt f.tn)] W1 (Did B f {m with n:=true} er (isN f.tn) w) from (isName_any _ hl h1 (hE.below ho.1)).mono fun _ _ g=>did_pre ho g)
 clear h h1 ho hE hl
 go_enter Tryz.func118,Tryz.ntmps118
 go_wp2_with (go_at_call 163;(with_reducible refine HI.out.mono ?_);rintro e1 w1 ⟨rfl,HD1⟩)
 go_end0
 exact ⟨rfl,HD1⟩
set_option maxRecDepth 100000 in
theorem role_any (h:Cel w B tC (ckA f m er)) (hE:CkE w B) (hl:tLim f.tr):Calls Tryz.prog 120 #[cP B] w (Did B f {m with r:=true} er (isN f.tr) w):=by
 obtain ⟨W1,hW1⟩:∃W1,w.setCell ⟨B,24,none⟩ (.string (txt f.tr))=W1:=⟨_,rfl⟩
 have h1:Cel W1 B tC (ckA f {m with r:=true} er):=by rw [←hW1];exact Cel.set h 24 (.string (txt f.tr))
 have ho:Oth B w W1:=by rw [←hW1];exact (Oth.refl B w).set 24 (.string (txt f.tr))
 have c3:w.cell? ⟨B,3,none⟩=some (.string (txt f.tr)):=h.at_ 3
 have c24:w.cell? ⟨B,24,none⟩=some (sel m.r (.string (txt f.tr)) zS):=h.at_ 24
 have f24:=h.open_ 24
 have d3:W1.cell? ⟨B,3,none⟩=some (.string (txt f.tr)):=h1.at_ 3
 have HI:=Lib.hid (show Calls Tryz.prog 163 #[cP B, .string (txt f.tr)] W1 (Did B f {m with r:=true} er (isN f.tr) w) from (isName_any _ hl h1 (hE.below ho.1)).mono fun _ _ g=>did_pre ho g)
 clear h h1 ho hE hl
 go_enter Tryz.func120,Tryz.ntmps120
 go_wp2_with (go_at_call 163;(with_reducible refine HI.out.mono ?_);rintro e1 w1 ⟨rfl,HD1⟩)
 go_end0
 exact ⟨rfl,HD1⟩
theorem isExpr_any {x:Ex} {cs:List Value} (hx:DtIn w (fun b=>b<B) (exDt x) cs) (hf:Fine x) (hl:Lim x) (h:Cel w B tC (ckA f m er)) (hE:CkE w B):Calls Tryz.prog 172 #[cP B, .agg cs.toArray] w (Did B f m er (Lo x) w):=by
 obtain ⟨ek,eo,vk,vn,vs,ns,A,n,c,rfl⟩:=ex_form hx
 obtain ⟨W1,hW1⟩:∃W1,w.alloc (.cells #[.int .i64 ek, .int .i64 eo, .int .i64 vk, .int .i64 vn, .string vs, .string ns, .slice A n c] 30)=W1:=⟨_,rfl⟩
 have hb:Below w.heap.size w W1:=by rw [←hW1];exact al (Below.refl _ _) _
 have xw:Cel W1 w.heap.size 30 #[.int .i64 ek, .int .i64 eo, .int .i64 vk, .int .i64 vn, .string vs, .string ns, .slice A n c]:=by rw [←hW1];exact Cel.new _ _ _ rfl
 have v0:W1.cell? ⟨w.heap.size,0,none⟩=some (.int .i64 ek):=xw.at_ 0
 have v1:W1.cell? ⟨w.heap.size,1,none⟩=some (.int .i64 eo):=xw.at_ 1
 have v2:W1.cell? ⟨w.heap.size,2,none⟩=some (.int .i64 vk):=xw.at_ 2
 have v3:W1.cell? ⟨w.heap.size,3,none⟩=some (.int .i64 vn):=xw.at_ 3
 have v4:W1.cell? ⟨w.heap.size,4,none⟩=some (.string vs):=xw.at_ 4
 have v5:W1.cell? ⟨w.heap.size,5,none⟩=some (.string ns):=xw.at_ 5
 have v6:W1.cell? ⟨w.heap.size,6,none⟩=some (.slice A n c):=xw.at_ 6
 have hlB:=h.lt
 obtain ⟨q,hq⟩:∃q,checkE false x=q:=⟨_,rfl⟩
 have HC:=Lib.hid (show Calls Tryz.prog 192 #[.agg #[.int .i64 ek, .int .i64 eo, .int .i64 vk, .int .i64 vn, .string vs, .string ns, .slice A n c], .bool false] W1 fun e w' =>e= .returned (.int .i64 q)∧Below W1.heap.size W1 w' by
   rw [←hq]
   exact check_any x [.int .i64 ek, .int .i64 eo, .int .i64 vk, .int .i64 vn, .string vs, .string ns, .slice A n c] false W1 ((hx.below (hb.mono (Nat.le_of_lt hlB))).to (fun b g=>Nat.lt_of_lt_of_le g (Nat.le_trans (Nat.le_of_lt hlB) hb.size)) fun p hp=>rfl) (hE.1.below (hb.mono (Nat.le_of_lt hlB)) hE.2) hl)
 have HN:=Lib.hid (show ∀W2,Below W1.heap.size W1 W2→Calls Tryz.prog 60 #[cP B, .int .i64 q] W2 (Did B f m er (Lo x) w) from fun W2 hW=>by
   have h2:=(h.below hb).below hW
   refine (note_any q h2).mono fun _ _ g=>(did_pre ((Oth.of hb (Nat.le_of_lt hlB)).trans (Oth.of hW (Nat.le_trans (Nat.le_of_lt hlB) hb.size))) g).iff ?_
   rw [←hq]
   exact lo_iff hf)
 clear hx hf hl h hE hb xw hq hlB
 go_enter Tryz.func172,Tryz.ntmps172
 go_wp2_with (first|(go_at_call 192;(with_reducible refine HC.out.mono ?_);rintro e1 w1 ⟨rfl,hb2⟩;have HB2:=Lib.hid hb2;clear hb2)|(go_at_call 60;(with_reducible refine (HN.out _ HB2.out).mono ?_);rintro e1 w1 ⟨rfl,HD1⟩))
 go_end0
 exact ⟨rfl,HD1⟩
set_option maxRecDepth 100000 in
theorem column_any {x:Co} {cs:List Value} (hx:DtIn w (fun b=>b<B) (coDt x) cs) (hl:tLim x.nm) (h:Cel w B tC (ckA f m er)) (hE:CkE w B):Calls Tryz.prog 165 #[cP B, .agg cs.toArray] w (Did B f m er (okCo x) w):=by
 rw [co_in] at hx
 subst hx
 obtain ⟨xn,xt,xb⟩:=x
 have hl:tLim xn:=hl
 show Calls Tryz.prog 165 #[cP B, .agg #[.string (txt xn), .int .i64 xt, .bool xb]] w _
 obtain ⟨W1,hW1⟩:∃W1,w.alloc (.cells #[.string (txt xn), .int .i64 xt, .bool xb] 54)=W1:=⟨_,rfl⟩
 have hb:Below w.heap.size w W1:=by rw [←hW1];exact al (Below.refl _ _) _
 have xw:Cel W1 w.heap.size 54 #[.string (txt xn), .int .i64 xt, .bool xb]:=by rw [←hW1];exact Cel.new _ _ _ rfl
 have v0:W1.cell? ⟨w.heap.size,0,none⟩=some (.string (txt xn)):=xw.at_ 0
 have hlB:=h.lt
 have ho:Oth B w W1:=Oth.of hb (Nat.le_of_lt hlB)
 have HI:=Lib.hid (show Calls Tryz.prog 163 #[cP B, .string (txt xn)] W1 (Did B f m er (isN xn) W1) from isName_any _ hl (h.below hb) (hE.below ho.1))
 have HX:=Lib.hid (show ∀W2,Oth B W1 W2→W2.cell? ⟨w.heap.size,1,none⟩=some (.int .i64 xt) from fun W2 g=>(Oth.cel g (by omega) xw).at_ 1)
 have HT:=Lib.hid (show ∀W,Calls Tryz.prog 13 #[.int .i64 xt] W fun e w' =>e= .returned (.string (typeV xt))∧W=w' from fun W=>type_any xt W)
 have HM:=Lib.hid (show ∀W2 er2 b,Cel W2 B tC (ckA f m er2)→Oth B W1 W2→(er2=0↔er=0∧isN xn)→(b=true↔1≤xt∧xt≤3)→Calls Tryz.prog 37 #[cP B, .bool b] W2 (Did B f m er (okCo ⟨xn,xt,xb⟩) w) from fun W2 er2 b g1 g2 g3 g4=>(must_any b g1).mono fun _ _ g=>(did_pre2 (ho.trans g2) g3 g).iff (by unfold okCo;rw [g4]))
 clear h hE hl hlB ho xw hb
 by_cases e1:xt=1
 · have e:=e1
   clear e1
   subst e
   have hw:=(show typeV 1=⟨#[73,78,84]⟩ from rfl)
   rw [hw] at HT
   have HK:=Lib.hid (show true=true↔1≤(1:Int)∧(1:Int)≤3 from ⟨fun _=>(by omega),fun _=>rfl⟩)
   clear hw
   go_enter Tryz.func165,Tryz.ntmps165
   go_wp2_with (first|(go_at_call 163;(with_reducible refine HI.out.mono ?_);rintro e1 w1 ⟨rfl,er1,hC,hO,hq⟩;have u1:=HX.out w1 hO;have HM2:=Lib.hid (HM.out w1 er1 true hC hO hq HK.out);clear hC hO hq)|(go_at_call 13;(with_reducible refine (HT.out _).mono ?_);rintro e1 w1 ⟨rfl,rfl⟩)|(go_at_call 37;(with_reducible refine HM2.out.mono ?_);rintro e1 w1 ⟨rfl,HD1⟩))
   go_end0
   exact ⟨rfl,HD1⟩
 by_cases e2:xt=2
 · have e:=e2
   clear e1 e2
   subst e
   have hw:=(show typeV 2=⟨#[66,79,79,76]⟩ from rfl)
   rw [hw] at HT
   have HK:=Lib.hid (show true=true↔1≤(2:Int)∧(2:Int)≤3 from ⟨fun _=>(by omega),fun _=>rfl⟩)
   clear hw
   go_enter Tryz.func165,Tryz.ntmps165
   go_wp2_with (first|(go_at_call 163;(with_reducible refine HI.out.mono ?_);rintro e1 w1 ⟨rfl,er1,hC,hO,hq⟩;have u1:=HX.out w1 hO;have HM2:=Lib.hid (HM.out w1 er1 true hC hO hq HK.out);clear hC hO hq)|(go_at_call 13;(with_reducible refine (HT.out _).mono ?_);rintro e1 w1 ⟨rfl,rfl⟩)|(go_at_call 37;(with_reducible refine HM2.out.mono ?_);rintro e1 w1 ⟨rfl,HD1⟩))
   go_end0
   exact ⟨rfl,HD1⟩
 by_cases e3:xt=3
 · have e:=e3
   clear e1 e2 e3
   subst e
   have hw:=(show typeV 3=⟨#[84,69,88,84]⟩ from rfl)
   rw [hw] at HT
   have HK:=Lib.hid (show true=true↔1≤(3:Int)∧(3:Int)≤3 from ⟨fun _=>(by omega),fun _=>rfl⟩)
   clear hw
   go_enter Tryz.func165,Tryz.ntmps165
   go_wp2_with (first|(go_at_call 163;(with_reducible refine HI.out.mono ?_);rintro e1 w1 ⟨rfl,er1,hC,hO,hq⟩;have u1:=HX.out w1 hO;have HM2:=Lib.hid (HM.out w1 er1 true hC hO hq HK.out);clear hC hO hq)|(go_at_call 13;(with_reducible refine (HT.out _).mono ?_);rintro e1 w1 ⟨rfl,rfl⟩)|(go_at_call 37;(with_reducible refine HM2.out.mono ?_);rintro e1 w1 ⟨rfl,HD1⟩))
   go_end0
   exact ⟨rfl,HD1⟩
 have hw:=(show typeV xt=⟨#[]⟩ by unfold typeV;rw [if_neg e1,if_neg e2,if_neg e3])
 rw [hw] at HT
 have HK:=Lib.hid (show false=true↔1≤(xt:Int)∧(xt:Int)≤3 from ⟨fun g=>(by cases g),fun g=>absurd g (by omega)⟩)
 clear hw e1 e2 e3
 go_enter Tryz.func165,Tryz.ntmps165
 go_wp2_with (first|(go_at_call 163;(with_reducible refine HI.out.mono ?_);rintro e1 w1 ⟨rfl,er1,hC,hO,hq⟩;have u1:=HX.out w1 hO;have HM2:=Lib.hid (HM.out w1 er1 false hC hO hq HK.out);clear hC hO hq)|(go_at_call 13;(with_reducible refine (HT.out _).mono ?_);rintro e1 w1 ⟨rfl,rfl⟩)|(go_at_call 37;(with_reducible refine HM2.out.mono ?_);rintro e1 w1 ⟨rfl,HD1⟩))
 go_end0
 exact ⟨rfl,HD1⟩
set_option maxRecDepth 100000 in
set_option maxHeartbeats 1000000 in
theorem cpriv_any (h:Cel w B tC (ckA f m er)) (hE:CkE w B) (hl:tLim f.tt) (hl2:tLim f.tr):Calls Tryz.prog 121 #[cP B] w (Did B f {m with pr:=true,t:=true,r:=true} er (okPr f.pr∧isN f.tt∧isN f.tr) w):=by
 obtain ⟨W1,hW1⟩:∃W1,w.setCell ⟨B,39,none⟩ (.int .i64 f.pr)=W1:=⟨_,rfl⟩
 have h1:Cel W1 B tC (ckA f {m with pr:=true} er):=by rw [←hW1];exact Cel.set h 39 (.int .i64 f.pr)
 have ho:Oth B w W1:=by rw [←hW1];exact (Oth.refl B w).set 39 (.int .i64 f.pr)
 have c18:w.cell? ⟨B,18,none⟩=some (.int .i64 f.pr):=h.at_ 18
 have c39:w.cell? ⟨B,39,none⟩=some (sel m.pr (.int .i64 f.pr) zI):=h.at_ 39
 have f39:=h.open_ 39
 have d18:W1.cell? ⟨B,18,none⟩=some (.int .i64 f.pr):=h1.at_ 18
 have HT:=Lib.hid (show ∀W,Calls Tryz.prog 15 #[.int .i64 f.pr] W fun e w' =>e= .returned (.string (privV f.pr))∧W=w' from fun W=>priv_any f.pr W)
 have HM:=Lib.hid (show ∀b,(b=true↔okPr f.pr)→Calls Tryz.prog 37 #[cP B, .bool b] W1 (Did B f {m with pr:=true} er (okPr f.pr) w) from fun b hb=>(must_any b h1).mono fun _ _ g=>(did_pre ho g).iff hb)
 have HA:=Lib.hid (show ∀W2 er2,Cel W2 B tC (ckA f {m with pr:=true} er2)→Oth B w W2→(er2=0↔er=0∧okPr f.pr)→Calls Tryz.prog 115 #[cP B] W2 (Did B f {m with pr:=true,t:=true} er (okPr f.pr∧isN f.tt) w) from fun W2 er2 g1 g2 g3=>(table_any g1 (hE.below g2.1) hl).mono fun _ _ g=>did_pre2 g2 g3 g)
 have HR:=Lib.hid (show ∀W2 er2,Cel W2 B tC (ckA f {m with pr:=true,t:=true} er2)→Oth B w W2→(er2=0↔er=0∧okPr f.pr∧isN f.tt)→Calls Tryz.prog 120 #[cP B] W2 (Did B f {m with pr:=true,t:=true,r:=true} er (okPr f.pr∧isN f.tt∧isN f.tr) w) from fun W2 er2 g1 g2 g3=>(role_any g1 (hE.below g2.1) hl2).mono fun _ _ g=>(did_pre2 g2 g3 g).iff and_assoc)
 obtain ⟨p,hp⟩:∃p,f.pr=p:=⟨_,rfl⟩
 rw [hp] at c18 d18 hW1 HT
 have HP:=Lib.hid hp
 clear h h1 ho hE hl hl2 hp
 by_cases e1:p=1
 · have e:=e1
   clear e1
   subst e
   have hw:=(show privV 1=⟨#[83,69,76,69,67,84]⟩ from rfl)
   rw [hw] at HT
   have HM:=Lib.hid (HM.out true ⟨fun _=>(by unfold okPr;rw [HP.out];omega),fun _=>rfl⟩)
   clear hw
   go_enter Tryz.func121,Tryz.ntmps121
   go_wp2_with (first|(go_at_call 15;(with_reducible refine (HT.out _).mono ?_);rintro e1 w1 ⟨rfl,rfl⟩)|(go_at_call 37;(with_reducible refine HM.out.mono ?_);rintro e1 w1 ⟨rfl,er1,hC,hO,hq⟩;have HA2:=Lib.hid (HA.out w1 er1 hC hO hq);clear hC hO hq)|(go_at_call 115;(with_reducible refine HA2.out.mono ?_);rintro e1 w1 ⟨rfl,er1,hC,hO,hq⟩;have HR2:=Lib.hid (HR.out w1 er1 hC hO hq);clear hC hO hq)|(go_at_call 120;(with_reducible refine HR2.out.mono ?_);rintro e1 w1 ⟨rfl,HD1⟩))
   go_end0
   exact ⟨rfl,HD1⟩
 by_cases e2:p=2
 · have e:=e2
   clear e1 e2
   subst e
   have hw:=(show privV 2=⟨#[73,78,83,69,82,84]⟩ from rfl)
   rw [hw] at HT
   have HM:=Lib.hid (HM.out true ⟨fun _=>(by unfold okPr;rw [HP.out];omega),fun _=>rfl⟩)
   clear hw
   go_enter Tryz.func121,Tryz.ntmps121
   go_wp2_with (first|(go_at_call 15;(with_reducible refine (HT.out _).mono ?_);rintro e1 w1 ⟨rfl,rfl⟩)|(go_at_call 37;(with_reducible refine HM.out.mono ?_);rintro e1 w1 ⟨rfl,er1,hC,hO,hq⟩;have HA2:=Lib.hid (HA.out w1 er1 hC hO hq);clear hC hO hq)|(go_at_call 115;(with_reducible refine HA2.out.mono ?_);rintro e1 w1 ⟨rfl,er1,hC,hO,hq⟩;have HR2:=Lib.hid (HR.out w1 er1 hC hO hq);clear hC hO hq)|(go_at_call 120;(with_reducible refine HR2.out.mono ?_);rintro e1 w1 ⟨rfl,HD1⟩))
   go_end0
   exact ⟨rfl,HD1⟩
 by_cases e3:p=3
 · have e:=e3
   clear e1 e2 e3
   subst e
   have hw:=(show privV 3=⟨#[85,80,68,65,84,69]⟩ from rfl)
   rw [hw] at HT
   have HM:=Lib.hid (HM.out true ⟨fun _=>(by unfold okPr;rw [HP.out];omega),fun _=>rfl⟩)
   clear hw
   go_enter Tryz.func121,Tryz.ntmps121
   go_wp2_with (first|(go_at_call 15;(with_reducible refine (HT.out _).mono ?_);rintro e1 w1 ⟨rfl,rfl⟩)|(go_at_call 37;(with_reducible refine HM.out.mono ?_);rintro e1 w1 ⟨rfl,er1,hC,hO,hq⟩;have HA2:=Lib.hid (HA.out w1 er1 hC hO hq);clear hC hO hq)|(go_at_call 115;(with_reducible refine HA2.out.mono ?_);rintro e1 w1 ⟨rfl,er1,hC,hO,hq⟩;have HR2:=Lib.hid (HR.out w1 er1 hC hO hq);clear hC hO hq)|(go_at_call 120;(with_reducible refine HR2.out.mono ?_);rintro e1 w1 ⟨rfl,HD1⟩))
   go_end0
   exact ⟨rfl,HD1⟩
 by_cases e4:p=4
 · have e:=e4
   clear e1 e2 e3 e4
   subst e
   have hw:=(show privV 4=⟨#[68,69,76,69,84,69]⟩ from rfl)
   rw [hw] at HT
   have HM:=Lib.hid (HM.out true ⟨fun _=>(by unfold okPr;rw [HP.out];omega),fun _=>rfl⟩)
   clear hw
   go_enter Tryz.func121,Tryz.ntmps121
   go_wp2_with (first|(go_at_call 15;(with_reducible refine (HT.out _).mono ?_);rintro e1 w1 ⟨rfl,rfl⟩)|(go_at_call 37;(with_reducible refine HM.out.mono ?_);rintro e1 w1 ⟨rfl,er1,hC,hO,hq⟩;have HA2:=Lib.hid (HA.out w1 er1 hC hO hq);clear hC hO hq)|(go_at_call 115;(with_reducible refine HA2.out.mono ?_);rintro e1 w1 ⟨rfl,er1,hC,hO,hq⟩;have HR2:=Lib.hid (HR.out w1 er1 hC hO hq);clear hC hO hq)|(go_at_call 120;(with_reducible refine HR2.out.mono ?_);rintro e1 w1 ⟨rfl,HD1⟩))
   go_end0
   exact ⟨rfl,HD1⟩
 have hw:=(show privV p=⟨#[]⟩ by unfold privV;rw [if_neg e1,if_neg e2,if_neg e3,if_neg e4])
 rw [hw] at HT
 have HM:=Lib.hid (HM.out false ⟨fun g=>(by cases g),fun g=>absurd g (by unfold okPr;rw [HP.out];omega)⟩)
 clear hw e1 e2 e3 e4
 go_enter Tryz.func121,Tryz.ntmps121
 go_wp2_with (first|(go_at_call 15;(with_reducible refine (HT.out _).mono ?_);rintro e1 w1 ⟨rfl,rfl⟩)|(go_at_call 37;(with_reducible refine HM.out.mono ?_);rintro e1 w1 ⟨rfl,er1,hC,hO,hq⟩;have HA2:=Lib.hid (HA.out w1 er1 hC hO hq);clear hC hO hq)|(go_at_call 115;(with_reducible refine HA2.out.mono ?_);rintro e1 w1 ⟨rfl,er1,hC,hO,hq⟩;have HR2:=Lib.hid (HR.out w1 er1 hC hO hq);clear hC hO hq)|(go_at_call 120;(with_reducible refine HR2.out.mono ?_);rintro e1 w1 ⟨rfl,HD1⟩))
 go_end0
 exact ⟨rfl,HD1⟩
set_option maxRecDepth 100000 in
theorem limit_any (h:Cel w B tC (ckA f m er)):Calls Tryz.prog 126 #[cP B] w (Did B f {m with li:=true} er (okLim f.li) w):=by
 obtain ⟨W1,hW1⟩:∃W1,w.setCell ⟨B,38,none⟩ (.int .i64 f.li)=W1:=⟨_,rfl⟩
 have h1:Cel W1 B tC (ckA f {m with li:=true} er):=by rw [←hW1];exact Cel.set h 38 (.int .i64 f.li)
 have ho:Oth B w W1:=by rw [←hW1];exact (Oth.refl B w).set 38 (.int .i64 f.li)
 have c17:w.cell? ⟨B,17,none⟩=some (.int .i64 f.li):=h.at_ 17
 have c38:w.cell? ⟨B,38,none⟩=some (sel m.li (.int .i64 f.li) zI):=h.at_ 38
 have f38:=h.open_ 38
 have d17:W1.cell? ⟨B,17,none⟩=some (.int .i64 f.li):=h1.at_ 17
 have HM:=Lib.hid (show ∀b,(b=true↔okLim f.li)→Calls Tryz.prog 37 #[cP B, .bool b] W1 (Did B f {m with li:=true} er (okLim f.li) w) from fun b hb=>(must_any b h1).mono fun _ _ g=>(did_pre ho g).iff hb)
 clear h h1 ho
 by_cases a1: -1≤f.li
 · have t1:decide (-1≤f.li)=true:=decide_eq_true a1
   by_cases a2:f.li≤9999
   · have t2:decide (f.li≤9999)=true:=decide_eq_true a2
     have HI:=Lib.hid (HM.out true ⟨fun _=>⟨a1,a2⟩,fun _=>rfl⟩)
     go_enter Tryz.func126,Tryz.ntmps126
     go_wp2_with (go_at_call 37;(with_reducible refine HI.out.mono ?_);rintro e1 w1 ⟨rfl,HD1⟩)
     go_end0
     exact ⟨rfl,HD1⟩
   · have t2:decide (f.li≤9999)=false:=decide_eq_false a2
     have HI:=Lib.hid (HM.out false ⟨fun g=>(by cases g),fun g=>absurd g.2 a2⟩)
     go_enter Tryz.func126,Tryz.ntmps126
     go_wp2_with (go_at_call 37;(with_reducible refine HI.out.mono ?_);rintro e1 w1 ⟨rfl,HD1⟩)
     go_end0
     exact ⟨rfl,HD1⟩
 · have t1:decide (-1≤f.li)=false:=decide_eq_false a1
   have HI:=Lib.hid (HM.out false ⟨fun g=>(by cases g),fun g=>absurd g.1 a1⟩)
   go_enter Tryz.func126,Tryz.ntmps126
   go_wp2_with (go_at_call 37;(with_reducible refine HI.out.mono ?_);rintro e1 w1 ⟨rfl,HD1⟩)
   go_end0
   exact ⟨rfl,HD1⟩
theorem key_any {l:List Bs} {A:Option Addr} {n c:Nat} (h:Cel w B tC (ckA f m er)) (hE:CkE w B) (hL:LsIn w B A n 1 (l.map sDt)) (hI:∀x∈l,tLim x):Calls Tryz.prog 191 #[cP B, .slice A n c] w (Did B f m er (okLn l 1 3 isN) w):=by
 have HI:=Lib.hid (show Calls Tryz.prog 168 #[cP B, .slice A n c, .int .i64 1, .int .i64 3, .func (.func 163) #[cP B] #[]] w (Did B f m er (okLn l 1 3 isN) w) from each_s 1 3 h hL fun x hx W er2 g1 g2=>isName_any x (hI x hx) g1 (hE.below g2.1))
 clear h hE hL hI
 go_enter Tryz.func191,Tryz.ntmps191
 go_wp2_with (go_at_call 168;(with_reducible refine HI.out.mono ?_);rintro e1 w1 ⟨rfl,HD1⟩)
 go_end0
 exact ⟨rfl,HD1⟩
set_option maxRecDepth 100000 in
theorem names_any {l:List Bs} (lo hi:Nat) (h:Cel w B tC (ckA f m er)) (hE:CkE w B) (hL:LsIn w B f.A6 f.n6 1 (l.map sDt)) (hI:∀x∈l,tLim x):Calls Tryz.prog 119 #[cP B, .int .i64 (lo:Int), .int .i64 (hi:Int)] w (Did B f {m with ns:=true} er (okLn l lo hi isN) w):=by
 obtain ⟨W1,hW1⟩:∃W1,w.setCell ⟨B,27,none⟩ (.slice f.A6 f.n6 f.a6)=W1:=⟨_,rfl⟩
 have h1:Cel W1 B tC (ckA f {m with ns:=true} er):=by rw [←hW1];exact Cel.set h 27 (.slice f.A6 f.n6 f.a6)
 have ho:Oth B w W1:=by rw [←hW1];exact (Oth.refl B w).set 27 (.slice f.A6 f.n6 f.a6)
 have c6:w.cell? ⟨B,6,none⟩=some (.slice f.A6 f.n6 f.a6):=h.at_ 6
 have c27:w.cell? ⟨B,27,none⟩=some (sel m.ns (.slice f.A6 f.n6 f.a6) zL):=h.at_ 27
 have f27:=h.open_ 27
 have d6:W1.cell? ⟨B,6,none⟩=some (.slice f.A6 f.n6 f.a6):=h1.at_ 6
 have HI:=Lib.hid (show Calls Tryz.prog 168 #[cP B, .slice f.A6 f.n6 f.a6, .int .i64 (lo:Int), .int .i64 (hi:Int), .func (.func 163) #[cP B] #[]] W1 (Did B f {m with ns:=true} er (okLn l lo hi isN) w) from (each_s lo hi h1 (hL.below ho.1) fun x hx W er2 g1 g2=>isName_any x (hI x hx) g1 (hE.below (ho.trans g2).1)).mono fun _ _ g=>did_pre ho g)
 clear h h1 ho hE hL hI
 go_enter Tryz.func119,Tryz.ntmps119
 go_wp2_with (go_at_call 168;(with_reducible refine HI.out.mono ?_);rintro e1 w1 ⟨rfl,HD1⟩)
 go_end0
 exact ⟨rfl,HD1⟩
end
end Go.Proofs.YtiaomhdmllhmmaaGreatDoor.Sm
namespace Go.Proofs.YtiaomhdmllhmmaaGreatDoor.Sm
open Go.RowKit Mem Ep Right Lx Go.ChangeShapes Go.WideShapes
set_option linter.unusedVariables false
section
variable {w w' :World} {B:Nat} {f:Fl} {m:Mk} {er:Int} {P:Prop}
theorem noEx_in {w:World} {S:Nat→Prop}:ExIn w S noEx [.int .i64 0, .int .i64 0, .int .i64 0, .int .i64 0, .string ⟨#[]⟩, .string ⟨#[]⟩, .slice none 0 0]:=by
 unfold noEx
 rw [exIn_mk]
 exact ⟨none,0,rfl,Nat.le_refl _,by decide,fun _=>rfl,by unfold KidsIn;exact row_nil⟩
set_option maxRecDepth 100000 in
set_option maxHeartbeats 2000000 in
theorem where_any {x:Ex} (hx:ExIn w (fun b=>b<B) x [.int .i64 f.ek, .int .i64 f.eo, .int .i64 f.vk, .int .i64 f.vn, .string f.vs, .string f.ns, .slice f.A8 f.n8 f.a8]) (hf:Fine x) (hl:Lim x) (h:Cel w B tC (ckA f m er)) (hE:CkE w B):Calls Tryz.prog 124 #[cP B] w (Did B f {m with wh:=true} er (okWh x) w):=by
 obtain ⟨W1,hW1⟩:∃W1,(((((((w.setCell ⟨B,29,none⟩ (.int .i64 f.ek)).setCell ⟨B,30,none⟩ (.int .i64 f.eo)).setCell ⟨B,31,none⟩ (.int .i64 f.vk)).setCell ⟨B,32,none⟩ (.int .i64 f.vn)).setCell ⟨B,33,none⟩ (.string f.vs)).setCell ⟨B,34,none⟩ (.string f.ns)).setCell ⟨B,35,none⟩ (.slice f.A8 f.n8 f.a8))=W1:=⟨_,rfl⟩
 have h1:Cel W1 B tC (ckA f {m with wh:=true} er):=by rw [←hW1];exact (Cel.set (Cel.set (Cel.set (Cel.set (Cel.set (Cel.set (Cel.set h 29 (.int .i64 f.ek)) 30 (.int .i64 f.eo)) 31 (.int .i64 f.vk)) 32 (.int .i64 f.vn)) 33 (.string f.vs)) 34 (.string f.ns)) 35 (.slice f.A8 f.n8 f.a8))
 have ho:Oth B w W1:=by rw [←hW1];exact ((((((((Oth.refl B w).set 29 (.int .i64 f.ek)).set 30 (.int .i64 f.eo)).set 31 (.int .i64 f.vk)).set 32 (.int .i64 f.vn)).set 33 (.string f.vs)).set 34 (.string f.ns)).set 35 (.slice f.A8 f.n8 f.a8))
 have c8:w.cell? ⟨B,8,none⟩=some (.int .i64 f.ek):=h.at_ 8
 have c29:w.cell? ⟨B,29,none⟩=some (sel m.wh (.int .i64 f.ek) zI):=h.at_ 29
 have f29:=h.open_ 29
 have d8:W1.cell? ⟨B,8,none⟩=some (.int .i64 f.ek):=h1.at_ 8
 have c9:w.cell? ⟨B,9,none⟩=some (.int .i64 f.eo):=h.at_ 9
 have c30:w.cell? ⟨B,30,none⟩=some (sel m.wh (.int .i64 f.eo) zI):=h.at_ 30
 have f30:=h.open_ 30
 have d9:W1.cell? ⟨B,9,none⟩=some (.int .i64 f.eo):=h1.at_ 9
 have c10:w.cell? ⟨B,10,none⟩=some (.int .i64 f.vk):=h.at_ 10
 have c31:w.cell? ⟨B,31,none⟩=some (sel m.wh (.int .i64 f.vk) zI):=h.at_ 31
 have f31:=h.open_ 31
 have d10:W1.cell? ⟨B,10,none⟩=some (.int .i64 f.vk):=h1.at_ 10
 have c11:w.cell? ⟨B,11,none⟩=some (.int .i64 f.vn):=h.at_ 11
 have c32:w.cell? ⟨B,32,none⟩=some (sel m.wh (.int .i64 f.vn) zI):=h.at_ 32
 have f32:=h.open_ 32
 have d11:W1.cell? ⟨B,11,none⟩=some (.int .i64 f.vn):=h1.at_ 11
 have c12:w.cell? ⟨B,12,none⟩=some (.string f.vs):=h.at_ 12
 have c33:w.cell? ⟨B,33,none⟩=some (sel m.wh (.string f.vs) zS):=h.at_ 33
 have f33:=h.open_ 33
 have d12:W1.cell? ⟨B,12,none⟩=some (.string f.vs):=h1.at_ 12
 have c13:w.cell? ⟨B,13,none⟩=some (.string f.ns):=h.at_ 13
 have c34:w.cell? ⟨B,34,none⟩=some (sel m.wh (.string f.ns) zS):=h.at_ 34
 have f34:=h.open_ 34
 have d13:W1.cell? ⟨B,13,none⟩=some (.string f.ns):=h1.at_ 13
 have c14:w.cell? ⟨B,14,none⟩=some (.slice f.A8 f.n8 f.a8):=h.at_ 14
 have c35:w.cell? ⟨B,35,none⟩=some (sel m.wh (.slice f.A8 f.n8 f.a8) zL):=h.at_ 35
 have f35:=h.open_ 35
 have d14:W1.cell? ⟨B,14,none⟩=some (.slice f.A8 f.n8 f.a8):=h1.at_ 14
 have hlB:=h.lt
 have hx1:ExIn W1 (fun b=>b<B) x [.int .i64 f.ek, .int .i64 f.eo, .int .i64 f.vk, .int .i64 f.vn, .string f.vs, .string f.ns, .slice f.A8 f.n8 f.a8]:=hx.below ho.1
 obtain ⟨q,hq⟩:∃q,eqB x noEx=q:=⟨_,rfl⟩
 have HS:=Lib.hid (show Calls Tryz.prog 40 #[.agg #[.int .i64 f.ek, .int .i64 f.eo, .int .i64 f.vk, .int .i64 f.vn, .string f.vs, .string f.ns, .slice f.A8 f.n8 f.a8], .agg #[.int .i64 0, .int .i64 0, .int .i64 0, .int .i64 0, .string ⟨#[]⟩, .string ⟨#[]⟩, .slice none 0 0]] W1 fun e w' =>e= .returned (.bool q)∧Below W1.heap.size W1 w' by
   rw [←hq]
   exact same_ex x noEx [.int .i64 f.ek, .int .i64 f.eo, .int .i64 f.vk, .int .i64 f.vn, .string f.vs, .string f.ns, .slice f.A8 f.n8 f.a8] [.int .i64 0, .int .i64 0, .int .i64 0, .int .i64 0, .string ⟨#[]⟩, .string ⟨#[]⟩, .slice none 0 0] W1 (hx1.to (fun b g=>Nat.lt_trans g h1.lt) fun p hp=>rfl) noEx_in)
 have HA:=Lib.hid (show ∀W2,Below W1.heap.size W1 W2→Cel W2 B tC (ckA f {m with wh:=true} er)∧Oth B w W2 from fun W2 g=>⟨h1.below g,ho.trans (Oth.of g (Nat.le_of_lt h1.lt))⟩)
 have HI:=Lib.hid (show ∀W2,Below W1.heap.size W1 W2→q=false→Calls Tryz.prog 172 #[cP B, .agg #[.int .i64 f.ek, .int .i64 f.eo, .int .i64 f.vk, .int .i64 f.vn, .string f.vs, .string f.ns, .slice f.A8 f.n8 f.a8]] W2 (Did B f {m with wh:=true} er (okWh x) w) from fun W2 g hqf=>by
   have g2:Oth B w W2:=ho.trans (Oth.of g (Nat.le_of_lt h1.lt))
   have hne:x≠noEx:=fun e=>by rw [eqB_yes e] at hq;rw [←hq] at hqf;cases hqf
   exact (isExpr_any (cs:= [.int .i64 f.ek, .int .i64 f.eo, .int .i64 f.vk, .int .i64 f.vn, .string f.vs, .string f.ns, .slice f.A8 f.n8 f.a8]) (hx1.below (g.mono (Nat.le_of_lt h1.lt))) hf hl (h1.below g) (hE.below g2.1)).mono fun _ _ d=>(did_pre g2 d).iff ⟨fun y=> .inr y,fun y=>y.resolve_left hne⟩)
 have HF:=Lib.hid (show ∀W2,Below W1.heap.size W1 W2→q=true→Did B f {m with wh:=true} er (okWh x) w (.returned (.tuple #[])) W2 from fun W2 g hqt=>by
   have g2:Oth B w W2:=ho.trans (Oth.of g (Nat.le_of_lt h1.lt))
   exact did_end (h1.below g) g2 ⟨fun y=>⟨y, .inl (eqB_iff.1 (hq.trans hqt))⟩,fun y=>y.1⟩)
 clear hx hx1 hf hl h h1 hE ho hq hlB
 cases q with
 | true=>
   go_enter Tryz.func124,Tryz.ntmps124
   go_wp2_with (go_at_call 40;(with_reducible refine HS.out.mono ?_);rintro e1 w1 ⟨rfl,hb⟩;have HD:=Lib.hid (HF.out w1 hb rfl);clear hb)
   go_end0
   exact HD.out
 | false=>
   go_enter Tryz.func124,Tryz.ntmps124
   go_wp2_with (first|(go_at_call 40;(with_reducible refine HS.out.mono ?_);rintro e1 w1 ⟨rfl,hb⟩;have HD:=Lib.hid (HI.out w1 hb rfl);have hcx:=Lib.hid (HA.out w1 hb).1;have e8:w1.cell? ⟨B,8,none⟩=some (.int .i64 f.ek):=hcx.out.at_ 8;have e9:w1.cell? ⟨B,9,none⟩=some (.int .i64 f.eo):=hcx.out.at_ 9;have e10:w1.cell? ⟨B,10,none⟩=some (.int .i64 f.vk):=hcx.out.at_ 10;have e11:w1.cell? ⟨B,11,none⟩=some (.int .i64 f.vn):=hcx.out.at_ 11;have e12:w1.cell? ⟨B,12,none⟩=some (.string f.vs):=hcx.out.at_ 12;have e13:w1.cell? ⟨B,13,none⟩=some (.string f.ns):=hcx.out.at_ 13;have e14:w1.cell? ⟨B,14,none⟩=some (.slice f.A8 f.n8 f.a8):=hcx.out.at_ 14;clear hb)|(go_at_call 172;(with_reducible refine HD.out.mono ?_);rintro e1 w2 ⟨rfl,HD1⟩))
   go_end0
   exact ⟨rfl,HD1⟩
end
end Go.Proofs.YtiaomhdmllhmmaaGreatDoor.Sm
namespace Go.Proofs.YtiaomhdmllhmmaaGreatDoor.Sm
open Go.RowKit Mem
set_option linter.unusedVariables false
theorem oth_new {p:Nat} {w a:World} (h:Oth p w a) {b:Nat} (hb:w.heap.size≤b) (hp:p≤b) (i:Nat) (v:Value):Oth p w (a.setCell ⟨b,i,none⟩ v):=
 ⟨h.1.setCell hp v,fun c hc hcp=>(Below.heap_setCell a ⟨b,i,none⟩ v c (by show c≠b;omega)).trans (h.2 c hc hcp)⟩
end Go.Proofs.YtiaomhdmllhmmaaGreatDoor.Sm
namespace Go.Proofs.YtiaomhdmllhmmaaGreatDoor.Sm
open Go.RowKit Mem Ep Right Lx Go.ChangeShapes Go.WideShapes
set_option linter.unusedVariables false
section
variable {w w' :World} {B:Nat} {f:Fl} {m:Mk} {er:Int}
set_option maxRecDepth 100000 in
set_option maxHeartbeats 4000000 in
theorem constraint_1 (nm:Bs) (cols:List Bs) (chk:Ex) (tbl:Bs) (refs:List Bs) {P Q:Option Addr} {pn pc qn qc:Nat} {ek eo vk vn:Int} {vs ns:ByteArray} {A:Option Addr} {n c:Nat} (h1:IsRow w (fun b=>b<B) 1 (cols.map sDt) (.slice P pn pc)) (h2:ExIn w (fun b=>b<B) chk [.int .i64 ek, .int .i64 eo, .int .i64 vk, .int .i64 vn, .string vs, .string ns, .slice A n c]) (h3:IsRow w (fun b=>b<B) 1 (refs.map sDt) (.slice Q qn qc))
   (hf:Fine chk) (hl:cnLim ⟨nm,1,cols,chk,tbl,refs⟩) (h:Cel w B tC (ckA f m er)) (hE:CkE w B):Calls Tryz.prog 167 #[cP B, .agg #[.string (txt nm), .int .i64 1, .slice P pn pc, .int .i64 ek, .int .i64 eo, .int .i64 vk, .int .i64 vn, .string vs, .string ns, .slice A n c, .string (txt tbl), .slice Q qn qc]] w (Did B f m er (OkCn ⟨nm,1,cols,chk,tbl,refs⟩) w):=by
 have hlB:=h.lt
 obtain ⟨W1,hW1⟩:∃W1,(w.alloc (.cells #[.string (txt nm), .int .i64 1, .slice P pn pc, .int .i64 ek, .int .i64 eo, .int .i64 vk, .int .i64 vn, .string vs, .string ns, .slice A n c, .string (txt tbl), .slice Q qn qc] 56)).alloc (.cells #[.string (txt nm), .int .i64 1, .slice none 0 0, .int .i64 0, .int .i64 0, .int .i64 0, .int .i64 0, .string ⟨#[]⟩, .string ⟨#[]⟩, .slice none 0 0, .string ⟨#[]⟩, .slice none 0 0] 56)=W1:=⟨_,rfl⟩
 have hb:Below w.heap.size w W1:=by rw [←hW1];exact al (al (Below.refl _ _) _) _
 have x1:Cel W1 w.heap.size 56 #[.string (txt nm), .int .i64 1, .slice P pn pc, .int .i64 ek, .int .i64 eo, .int .i64 vk, .int .i64 vn, .string vs, .string ns, .slice A n c, .string (txt tbl), .slice Q qn qc]:=by rw [←hW1];exact (Cel.new w _ _ rfl).alloc _
 have x2:Cel W1 (w.heap.size+1) 56 #[.string (txt nm), .int .i64 1, .slice none 0 0, .int .i64 0, .int .i64 0, .int .i64 0, .int .i64 0, .string ⟨#[]⟩, .string ⟨#[]⟩, .slice none 0 0, .string ⟨#[]⟩, .slice none 0 0]:=by rw [←hW1];exact Cel.new _ _ _ (by simp)
 have C0:=Lib.hid (h.below hb)
 have O0:=Lib.hid (show Oth B w W1 from Oth.of hb (Nat.le_of_lt hlB))
 have Y0:=Lib.hid x1
 have Z0:=Lib.hid x2
 have HE:=Lib.hid (show ∀W2,Oth B w W2→CkE W2 B from fun W2 g=>hE.below g.1)
 have H1:=Lib.hid h1
 have H2:=Lib.hid h2
 have H3:=Lib.hid h3
 have HL:=Lib.hid hl
 have HF:=Lib.hid hf
 have cx0:W1.cell? ⟨w.heap.size,0,none⟩=some (.string (txt nm)):=x1.at_ 0
 have HI:=Lib.hid (show Calls Tryz.prog 163 #[cP B, .string (txt nm)] W1 (Did B f m er (isN nm) W1) from isName_any nm hl.1 C0.out (HE.out _ O0.out))
 have HW1:=Lib.hid hW1
 clear h1 h2 h3 hf hl h hE x1 x2 hb hW1
 go_enter Tryz.func167,Tryz.ntmps167
 go_upto_region 2 with fail
 rw [HW1.out]
 go_wp2_with (go_at_call 163;(with_reducible refine HI.out.mono ?_))
 rintro e1 w1 ⟨rfl,er1,hC,hO,hq⟩
 have C1:=Lib.hid hC
 have O1:=Lib.hid (O0.out.trans hO)
 have Q1:=Lib.hid (show er1=0↔er=0∧(isN nm) by rw [hq])
 have Y1:=Lib.hid (Oth.cel hO (by omega) Y0.out)
 have Z1:=Lib.hid (Oth.cel hO (by omega) Z0.out)
 clear hC hO hq
 have a1_1:w1.cell? ⟨w.heap.size,1,none⟩=some (.int .i64 1):=Y1.out.at_ 1
 have a1_2:w1.cell? ⟨w.heap.size,2,none⟩=some (.slice P pn pc):=Y1.out.at_ 2
 have z1_2:w1.cell? ⟨w.heap.size+1,2,none⟩=some (.slice none 0 0):=Z1.out.at_ 2
 have f1_2:=Z1.out.open_ 2
 obtain ⟨w2,hw2⟩:∃W,(w1.setCell ⟨w.heap.size+1,2,none⟩ (.slice P pn pc))=W:=⟨_,rfl⟩
 have Z2:=Lib.hid (show Cel w2 (w.heap.size+1) 56 #[.string (txt nm), .int .i64 1, .slice P pn pc, .int .i64 0, .int .i64 0, .int .i64 0, .int .i64 0, .string ⟨#[]⟩, .string ⟨#[]⟩, .slice none 0 0, .string ⟨#[]⟩, .slice none 0 0] by rw [←hw2];exact (Cel.set Z1.out 2 (.slice P pn pc)))
 have Y2:=Lib.hid (show Cel w2 w.heap.size 56 #[.string (txt nm), .int .i64 1, .slice P pn pc, .int .i64 ek, .int .i64 eo, .int .i64 vk, .int .i64 vn, .string vs, .string ns, .slice A n c, .string (txt tbl), .slice Q qn qc] by rw [←hw2];exact (Cel.other Y1.out (by omega) 2 (.slice P pn pc)))
 have O2:=Lib.hid (show Oth B w w2 by rw [←hw2];exact (oth_new O1.out (by omega) (by omega) 2 (.slice P pn pc)))
 have C2:=Lib.hid (show Cel w2 B tC (ckA f m er1) by rw [←hw2];exact (Cel.other C1.out (by omega) 2 (.slice P pn pc)))
 have Q2:=Q1
 have a2_2:w2.cell? ⟨w.heap.size,2,none⟩=some (.slice P pn pc):=Y2.out.at_ 2
 have HK:=Lib.hid (show Calls Tryz.prog 191 #[cP B, .slice P pn pc] w2 (Did B f m er1 (okLn cols 1 3 isN) w2) from key_any C2.out (HE.out _ O2.out) ((isRow_ls H1.out).below O2.out.1) HL.out.2.2.1)
 go_wp2_with (go_at_call 191;(with_reducible refine HK.out.mono ?_))
 rintro e3 w3 ⟨rfl,er3,hC,hO,hq⟩
 have C3:=Lib.hid hC
 have O3:=Lib.hid (O2.out.trans hO)
 have Q3:=Lib.hid (show er3=0↔er=0∧(isN nm∧okLn cols 1 3 isN) by rw [hq,Q2.out,and_assoc])
 have Y3:=Lib.hid (Oth.cel hO (by omega) Y2.out)
 have Z3:=Lib.hid (Oth.cel hO (by omega) Z2.out)
 clear hC hO hq
 have a3_0:w3.cell? ⟨w.heap.size,0,none⟩=some (.string (txt nm)):=Y3.out.at_ 0
 have a3_1:w3.cell? ⟨w.heap.size,1,none⟩=some (.int .i64 1):=Y3.out.at_ 1
 have a3_2:w3.cell? ⟨w.heap.size,2,none⟩=some (.slice P pn pc):=Y3.out.at_ 2
 have a3_3:w3.cell? ⟨w.heap.size,3,none⟩=some (.int .i64 ek):=Y3.out.at_ 3
 have a3_4:w3.cell? ⟨w.heap.size,4,none⟩=some (.int .i64 eo):=Y3.out.at_ 4
 have a3_5:w3.cell? ⟨w.heap.size,5,none⟩=some (.int .i64 vk):=Y3.out.at_ 5
 have a3_6:w3.cell? ⟨w.heap.size,6,none⟩=some (.int .i64 vn):=Y3.out.at_ 6
 have a3_7:w3.cell? ⟨w.heap.size,7,none⟩=some (.string vs):=Y3.out.at_ 7
 have a3_8:w3.cell? ⟨w.heap.size,8,none⟩=some (.string ns):=Y3.out.at_ 8
 have a3_9:w3.cell? ⟨w.heap.size,9,none⟩=some (.slice A n c):=Y3.out.at_ 9
 have a3_10:w3.cell? ⟨w.heap.size,10,none⟩=some (.string (txt tbl)):=Y3.out.at_ 10
 have a3_11:w3.cell? ⟨w.heap.size,11,none⟩=some (.slice Q qn qc):=Y3.out.at_ 11
 have z3_0:w3.cell? ⟨w.heap.size+1,0,none⟩=some (.string (txt nm)):=Z3.out.at_ 0
 have z3_1:w3.cell? ⟨w.heap.size+1,1,none⟩=some (.int .i64 1):=Z3.out.at_ 1
 have z3_2:w3.cell? ⟨w.heap.size+1,2,none⟩=some (.slice P pn pc):=Z3.out.at_ 2
 have z3_3:w3.cell? ⟨w.heap.size+1,3,none⟩=some (.int .i64 0):=Z3.out.at_ 3
 have z3_4:w3.cell? ⟨w.heap.size+1,4,none⟩=some (.int .i64 0):=Z3.out.at_ 4
 have z3_5:w3.cell? ⟨w.heap.size+1,5,none⟩=some (.int .i64 0):=Z3.out.at_ 5
 have z3_6:w3.cell? ⟨w.heap.size+1,6,none⟩=some (.int .i64 0):=Z3.out.at_ 6
 have z3_7:w3.cell? ⟨w.heap.size+1,7,none⟩=some (.string ⟨#[]⟩):=Z3.out.at_ 7
 have z3_8:w3.cell? ⟨w.heap.size+1,8,none⟩=some (.string ⟨#[]⟩):=Z3.out.at_ 8
 have z3_9:w3.cell? ⟨w.heap.size+1,9,none⟩=some (.slice none 0 0):=Z3.out.at_ 9
 have z3_10:w3.cell? ⟨w.heap.size+1,10,none⟩=some (.string ⟨#[]⟩):=Z3.out.at_ 10
 have z3_11:w3.cell? ⟨w.heap.size+1,11,none⟩=some (.slice none 0 0):=Z3.out.at_ 11
 obtain ⟨s,hs⟩:∃s,eqB (⟨nm,1,cols,chk,tbl,refs⟩:Cn) ⟨nm,1,cols,noEx, [], []⟩=s:=⟨_,rfl⟩
 have HS:=Lib.hid (show Calls Tryz.prog 63 #[.agg #[.string (txt nm), .int .i64 1, .slice P pn pc, .int .i64 ek, .int .i64 eo, .int .i64 vk, .int .i64 vn, .string vs, .string ns, .slice A n c, .string (txt tbl), .slice Q qn qc], .agg #[.string (txt nm), .int .i64 1, .slice P pn pc, .int .i64 0, .int .i64 0, .int .i64 0, .int .i64 0, .string ⟨#[]⟩, .string ⟨#[]⟩, .slice none 0 0, .string ⟨#[]⟩, .slice none 0 0]] w3 fun e w' =>e= .returned (.bool s)∧Below w3.heap.size w3 w' by
   rw [←hs]
   exact same_cons (⟨nm,1,cols,chk,tbl,refs⟩:Cn) ⟨nm,1,cols,noEx, [], []⟩ [.string (txt nm), .int .i64 1, .slice P pn pc, .int .i64 ek, .int .i64 eo, .int .i64 vk, .int .i64 vn, .string vs, .string ns, .slice A n c, .string (txt tbl), .slice Q qn qc] [.string (txt nm), .int .i64 1, .slice P pn pc, .int .i64 0, .int .i64 0, .int .i64 0, .int .i64 0, .string ⟨#[]⟩, .string ⟨#[]⟩, .slice none 0 0, .string ⟨#[]⟩, .slice none 0 0] w3 (cn_in.2 ⟨.slice P pn pc, [.int .i64 ek, .int .i64 eo, .int .i64 vk, .int .i64 vn, .string vs, .string ns, .slice A n c], .slice Q qn qc,rfl,IsRow.to (fun b g=>Nat.lt_trans g C3.out.lt) (fun p hp=>O3.out.1.cell hp) H1.out,(DtIn.to (fun b g=>Nat.lt_trans g C3.out.lt) (fun p hp=>O3.out.1.cell hp) _ _ H2.out),IsRow.to (fun b g=>Nat.lt_trans g C3.out.lt) (fun p hp=>O3.out.1.cell hp) H3.out⟩) (cn_in.2 ⟨.slice P pn pc, [.int .i64 0, .int .i64 0, .int .i64 0, .int .i64 0, .string ⟨#[]⟩, .string ⟨#[]⟩, .slice none 0 0], .slice none 0 0,rfl,(show IsRow w3 (fun b=>b<w3.heap.size) 1 (List.map sDt cols) (.slice P pn pc) from IsRow.to (fun b g=>Nat.lt_trans g C3.out.lt) (fun p hp=>O3.out.1.cell hp) H1.out),noEx_in,(show IsRow w3 (fun b=>b<w3.heap.size) 1 (List.map sDt []) (.slice none 0 0) from ⟨none,0,rfl,Nat.le_refl _,by decide,fun _=>rfl,row_nil⟩)⟩))
 have HM9:=Lib.hid (show ∀W2,Below w3.heap.size w3 W2→Calls Tryz.prog 37 #[cP B, .bool s] W2 (Did B f m er (OkCn ⟨nm,1,cols,chk,tbl,refs⟩) w) from fun W2 hw=>(must_any s (C3.out.below hw)).mono fun _ _ g=>(did_pre2 (O3.out.trans (Oth.of hw (Nat.le_of_lt C3.out.lt))) Q3.out g).iff (⟨fun g=>okCn_iff.2 ⟨g.1.1,g.1.2,eqB_iff.1 (hs.trans g.2)⟩,fun g=>⟨⟨(okCn_iff.1 g).1,(okCn_iff.1 g).2.1⟩,hs.symm.trans (eqB_yes (okCn_iff.1 g).2.2)⟩⟩))
 clear hs
 go_wp2_with (first|(go_at_call 63;(with_reducible refine HS.out.mono ?_);rintro e9 w9 ⟨rfl,hb9⟩;have HM8:=Lib.hid (HM9.out w9 hb9);clear hb9)|(go_at_call 37;(with_reducible refine HM8.out.mono ?_);rintro e8 w8 ⟨rfl,HD1⟩))
 go_end0
 exact ⟨rfl,HD1⟩
end
end Go.Proofs.YtiaomhdmllhmmaaGreatDoor.Sm
