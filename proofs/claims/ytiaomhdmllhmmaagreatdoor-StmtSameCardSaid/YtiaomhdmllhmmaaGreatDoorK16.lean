/- Two statements are one: stmt.Same, by pointers. The region of stmt.same, 106 operations: in the text's order they stand apart: told in pie Two statements are not one: by what differs first (1). -/
import Derived.Test.YtiaomhdmllhmmaaGreatDoorK15
namespace Go.Proofs.YtiaomhdmllhmmaaGreatDoor.Sm
open Go.RowKit Mem Ep Right Go.ChangeShapes Go.WideShapes
set_option linter.unusedVariables false
theorem St.byKids {C:St→Prop} (h:∀k t n r cols cons names rows wh sets order limit priv opt kids,(∀x∈kids,C x)→C (.mk k t n r cols cons names rows wh sets order limit priv opt kids)):∀e,C e:=by
 intro e
 refine St.rec (motive_1:=C) (motive_2:=fun l=>∀x∈l,C x) ?_ ?_ ?_ e
 · intro k t n r cols cons names rows wh sets order limit priv opt kids ih
   exact h k t n r cols cons names rows wh sets order limit priv opt kids ih
 · intro x hx;simp at hx
 · intro a l ha hl x hx
   rcases List.mem_cons.1 hx with rfl|hx
   · exact ha
   · exact hl x hx
def At (w:World) (b o:Nat) (cs:List Value):Prop:=∀i v,cs[i]?=some v→w.cell? ⟨b,o+i,none⟩=some v
theorem At.on {w w' :World} {b o:Nat} {cs:List Value} (h:At w b o cs) (hb:b<w.heap.size) (hw:Below w.heap.size w w'):At w' b o cs:=fun i v hv=>(hw.cell (p:=⟨b,o+i,none⟩) hb).trans (h i v hv)
def SameP (x:St):Prop:=∀(y:St) (ba oa bb ob:Nat) (cs ds:List Value) (w:World),ba<w.heap.size→bb<w.heap.size→DtIn w (fun b=>b<w.heap.size) (stDt x) cs→DtIn w (fun b=>b<w.heap.size) (stDt y) ds→At w ba oa cs→At w bb ob ds→
 Calls Tryz.prog 22 #[.pointer (some ⟨ba,oa,none⟩), .pointer (some ⟨bb,ob,none⟩)] w fun e w' =>e= .returned (.bool (eqB x y))∧Below w.heap.size w w'
set_option maxHeartbeats 4000000 in
theorem sameLists_any {sku ttu tnu tru colsu consu namesu rowsu whu setsu ordu liu pru opu kidsu} {skv ttv tnv trv colsv consv namesv rowsv whv setsv ordv liv prv opv kidsv} {ba oa bb ob:Nat} {cs ds:List Value} {w:World} (hba:ba<w.heap.size) (hbb:bb<w.heap.size) (h1:DtIn w (fun b=>b<w.heap.size) (stDt (.mk sku ttu tnu tru colsu consu namesu rowsu whu setsu ordu liu pru opu kidsu)) cs) (h2:DtIn w (fun b=>b<w.heap.size) (stDt (.mk skv ttv tnv trv colsv consv namesv rowsv whv setsv ordv liv prv opv kidsv)) ds) (p1:At w ba oa cs) (p2:At w bb ob ds):
   Calls Tryz.prog 39 #[.pointer (some ⟨ba,oa,none⟩), .pointer (some ⟨bb,ob,none⟩)] w fun e w' =>e= .returned (.bool (eqB (colsu,consu,namesu,rowsu,setsu,ordu) (colsv,consv,namesv,rowsv,setsv,ordv)))∧Below w.heap.size w w' :=by
 obtain ⟨r4u,r5u,r6u,r7u,eu,r9u,r10u,r14u,rfl,⟨A4u,a4u,rfl,l4u,m4u, -,g4u⟩,⟨A5u,a5u,rfl,l5u,m5u, -,g5u⟩,⟨A6u,a6u,rfl,l6u,m6u, -,g6u⟩,⟨A7u,a7u,rfl,l7u,m7u, -,g7u⟩,g8u,⟨A9u,a9u,rfl,l9u,m9u, -,g9u⟩,⟨A10u,a10u,rfl,l10u,m10u, -,g10u⟩,⟨A14u,a14u,rfl,l14u,m14u, -,g14u⟩⟩:=st_in.1 h1
 obtain ⟨ku,ou,vku,vnu,vsu,nsu,Bu,mu,du,rfl⟩:=ex_form g8u
 obtain ⟨r4v,r5v,r6v,r7v,ev,r9v,r10v,r14v,rfl,⟨A4v,a4v,rfl,l4v,m4v, -,g4v⟩,⟨A5v,a5v,rfl,l5v,m5v, -,g5v⟩,⟨A6v,a6v,rfl,l6v,m6v, -,g6v⟩,⟨A7v,a7v,rfl,l7v,m7v, -,g7v⟩,g8v,⟨A9v,a9v,rfl,l9v,m9v, -,g9v⟩,⟨A10v,a10v,rfl,l10v,m10v, -,g10v⟩,⟨A14v,a14v,rfl,l14v,m14v, -,g14v⟩⟩:=st_in.1 h2
 obtain ⟨kv,ov,vkv,vnv,vsv,nsv,Bv,mv,dv,rfl⟩:=ex_form g8v
 simp only [List.length_map] at l4u l5u l6u l7u l9u l10u l14u h1 h2 p1 p2
 obtain ⟨n4u,hn4u⟩:∃n,colsu.length=n:=⟨_,rfl⟩
 obtain ⟨n4v,hn4v⟩:∃n,colsv.length=n:=⟨_,rfl⟩
 obtain ⟨n5u,hn5u⟩:∃n,consu.length=n:=⟨_,rfl⟩
 obtain ⟨n5v,hn5v⟩:∃n,consv.length=n:=⟨_,rfl⟩
 obtain ⟨n6u,hn6u⟩:∃n,namesu.length=n:=⟨_,rfl⟩
 obtain ⟨n6v,hn6v⟩:∃n,namesv.length=n:=⟨_,rfl⟩
 obtain ⟨n7u,hn7u⟩:∃n,rowsu.length=n:=⟨_,rfl⟩
 obtain ⟨n7v,hn7v⟩:∃n,rowsv.length=n:=⟨_,rfl⟩
 obtain ⟨n9u,hn9u⟩:∃n,setsu.length=n:=⟨_,rfl⟩
 obtain ⟨n9v,hn9v⟩:∃n,setsv.length=n:=⟨_,rfl⟩
 obtain ⟨n10u,hn10u⟩:∃n,ordu.length=n:=⟨_,rfl⟩
 obtain ⟨n10v,hn10v⟩:∃n,ordv.length=n:=⟨_,rfl⟩
 obtain ⟨n14u,hn14u⟩:∃n,kidsu.length=n:=⟨_,rfl⟩
 obtain ⟨n14v,hn14v⟩:∃n,kidsv.length=n:=⟨_,rfl⟩
 rw [hn4u,hn5u,hn6u,hn7u,hn9u,hn10u,hn14u] at p1
 rw [hn4v,hn5v,hn6v,hn7v,hn9v,hn10v,hn14v] at p2
 obtain ⟨q4,hq4⟩:∃q,eqB colsu colsv=q:=⟨_,rfl⟩
 have HC4:=Lib.hid (show ∀W',Below w.heap.size w W' →Calls Tryz.prog 61 #[.slice A4u n4u a4u, .slice A4v n4v a4v] W' fun e w' =>e= .returned (.bool q4)∧Below W'.heap.size W' w' from fun W' hW=>by
   rw [←hq4,←hn4u,←hn4v]
   exact equalC_any colsu colsv A4u A4v a4u a4v W' (by omega) (RowIn.to (fun b h=>Nat.lt_of_lt_of_le h hW.size) (fun p hp=>hW.cell hp) g4u) (RowIn.to (fun b h=>Nat.lt_of_lt_of_le h hW.size) (fun p hp=>hW.cell hp) g4v))
 obtain ⟨q5,hq5⟩:∃q,eqB consu consv=q:=⟨_,rfl⟩
 have HC5:=Lib.hid (show ∀W',Below w.heap.size w W' →Calls Tryz.prog 62 #[.slice A5u n5u a5u, .slice A5v n5v a5v, .func (.func 63) #[] #[]] W' fun e w' =>e= .returned (.bool q5)∧Below W'.heap.size W' w' from fun W' hW=>by
   rw [←hq5,←hn5u,←hn5v]
   exact eqCons_any consu (fun z _=>same_cons z) consv A5u A5v a5u a5v W' (by omega) (RowIn.to (fun b h=>Nat.lt_of_lt_of_le h hW.size) (fun p hp=>hW.cell hp) g5u) (RowIn.to (fun b h=>Nat.lt_of_lt_of_le h hW.size) (fun p hp=>hW.cell hp) g5v))
 obtain ⟨q6,hq6⟩:∃q,eqB namesu namesv=q:=⟨_,rfl⟩
 have HC6:=Lib.hid (show ∀W',Below w.heap.size w W' →Calls Tryz.prog 64 #[.slice A6u n6u a6u, .slice A6v n6v a6v] W' fun e w' =>e= .returned (.bool q6)∧Below W'.heap.size W' w' from fun W' hW=>by
   rw [←hq6,←hn6u,←hn6v]
   exact equalS_any namesu namesv A6u A6v a6u a6v W' (by omega) (RowIn.to (fun b h=>Nat.lt_of_lt_of_le h hW.size) (fun p hp=>hW.cell hp) g6u) (RowIn.to (fun b h=>Nat.lt_of_lt_of_le h hW.size) (fun p hp=>hW.cell hp) g6v))
 obtain ⟨q7,hq7⟩:∃q,eqB rowsu rowsv=q:=⟨_,rfl⟩
 have HC7:=Lib.hid (show ∀W',Below w.heap.size w W' →Calls Tryz.prog 65 #[.slice A7u n7u a7u, .slice A7v n7v a7v, .func (.func 66) #[] #[]] W' fun e w' =>e= .returned (.bool q7)∧Below W'.heap.size W' w' from fun W' hW=>by
   rw [←hq7,←hn7u,←hn7v]
   exact eqRows_any rowsu (fun z _=>same_row z) rowsv A7u A7v a7u a7v W' (by omega) (RowIn.to (fun b h=>Nat.lt_of_lt_of_le h hW.size) (fun p hp=>hW.cell hp) g7u) (RowIn.to (fun b h=>Nat.lt_of_lt_of_le h hW.size) (fun p hp=>hW.cell hp) g7v))
 obtain ⟨q9,hq9⟩:∃q,eqB setsu setsv=q:=⟨_,rfl⟩
 have HC9:=Lib.hid (show ∀W',Below w.heap.size w W' →Calls Tryz.prog 67 #[.slice A9u n9u a9u, .slice A9v n9v a9v, .func (.func 68) #[] #[]] W' fun e w' =>e= .returned (.bool q9)∧Below W'.heap.size W' w' from fun W' hW=>by
   rw [←hq9,←hn9u,←hn9v]
   exact eqSets_any setsu (fun z _=>same_set z) setsv A9u A9v a9u a9v W' (by omega) (RowIn.to (fun b h=>Nat.lt_of_lt_of_le h hW.size) (fun p hp=>hW.cell hp) g9u) (RowIn.to (fun b h=>Nat.lt_of_lt_of_le h hW.size) (fun p hp=>hW.cell hp) g9v))
 obtain ⟨q10,hq10⟩:∃q,eqB ordu ordv=q:=⟨_,rfl⟩
 have HC10:=Lib.hid (show ∀W',Below w.heap.size w W' →Calls Tryz.prog 69 #[.slice A10u n10u a10u, .slice A10v n10v a10v, .func (.func 70) #[] #[]] W' fun e w' =>e= .returned (.bool q10)∧Below W'.heap.size W' w' from fun W' hW=>by
   rw [←hq10,←hn10u,←hn10v]
   exact eqOrds_any ordu (fun z _=>same_order z) ordv A10u A10v a10u a10v W' (by omega) (RowIn.to (fun b h=>Nat.lt_of_lt_of_le h hW.size) (fun p hp=>hW.cell hp) g10u) (RowIn.to (fun b h=>Nat.lt_of_lt_of_le h hW.size) (fun p hp=>hW.cell hp) g10v))
 have c4:∀s:CW w,s.val.cell? ⟨ba,oa+4,none⟩=some (.slice A4u n4u a4u):=fun s=>(s.h.cell (p:=⟨ba,oa+4,none⟩) hba).trans (p1 4 _ rfl)
 have d4:∀s:CW w,s.val.cell? ⟨bb,ob+4,none⟩=some (.slice A4v n4v a4v):=fun s=>(s.h.cell (p:=⟨bb,ob+4,none⟩) hbb).trans (p2 4 _ rfl)
 have c5:∀s:CW w,s.val.cell? ⟨ba,oa+5,none⟩=some (.slice A5u n5u a5u):=fun s=>(s.h.cell (p:=⟨ba,oa+5,none⟩) hba).trans (p1 5 _ rfl)
 have d5:∀s:CW w,s.val.cell? ⟨bb,ob+5,none⟩=some (.slice A5v n5v a5v):=fun s=>(s.h.cell (p:=⟨bb,ob+5,none⟩) hbb).trans (p2 5 _ rfl)
 have c6:∀s:CW w,s.val.cell? ⟨ba,oa+6,none⟩=some (.slice A6u n6u a6u):=fun s=>(s.h.cell (p:=⟨ba,oa+6,none⟩) hba).trans (p1 6 _ rfl)
 have d6:∀s:CW w,s.val.cell? ⟨bb,ob+6,none⟩=some (.slice A6v n6v a6v):=fun s=>(s.h.cell (p:=⟨bb,ob+6,none⟩) hbb).trans (p2 6 _ rfl)
 have c7:∀s:CW w,s.val.cell? ⟨ba,oa+7,none⟩=some (.slice A7u n7u a7u):=fun s=>(s.h.cell (p:=⟨ba,oa+7,none⟩) hba).trans (p1 7 _ rfl)
 have d7:∀s:CW w,s.val.cell? ⟨bb,ob+7,none⟩=some (.slice A7v n7v a7v):=fun s=>(s.h.cell (p:=⟨bb,ob+7,none⟩) hbb).trans (p2 7 _ rfl)
 have c15:∀s:CW w,s.val.cell? ⟨ba,oa+15,none⟩=some (.slice A9u n9u a9u):=fun s=>(s.h.cell (p:=⟨ba,oa+15,none⟩) hba).trans (p1 15 _ rfl)
 have d15:∀s:CW w,s.val.cell? ⟨bb,ob+15,none⟩=some (.slice A9v n9v a9v):=fun s=>(s.h.cell (p:=⟨bb,ob+15,none⟩) hbb).trans (p2 15 _ rfl)
 have c16:∀s:CW w,s.val.cell? ⟨ba,oa+16,none⟩=some (.slice A10u n10u a10u):=fun s=>(s.h.cell (p:=⟨ba,oa+16,none⟩) hba).trans (p1 16 _ rfl)
 have d16:∀s:CW w,s.val.cell? ⟨bb,ob+16,none⟩=some (.slice A10v n10v a10v):=fun s=>(s.h.cell (p:=⟨bb,ob+16,none⟩) hbb).trans (p2 16 _ rfl)
 clear h1 h2 p1 p2 hba hbb g4u g4v g5u g5v g6u g6v g7u g7v g8u g8v g9u g9v g10u g10v g14u g14v l4u m4u l4v m4v l5u m5u l5v m5v l6u m6u l6v m6v l7u m7u l7v m7v l9u m9u l9v m9v l10u m10u l10v m10v hn4u hn4v hn5u hn5v hn6u hn6v hn7u hn7v hn9u hn9v hn10u hn10v l14u m14u l14v m14v hn14u hn14v
 by_cases e0:q4=false
 case pos=>
   subst e0
   have HF:=Lib.hid (eqB_no (a:=(colsu,consu,namesu,rowsu,setsu,ordu)) (b:=(colsv,consv,namesv,rowsv,setsv,ordv)) (fun g=>by
     simp only [Prod.mk.injEq] at g
     have e9:colsu=colsv:=g.1
     rw [eqB_yes e9] at hq4
     cases hq4)).symm
   clear hq4 hq5 hq6 hq7 hq9 hq10
   go_enter Tryz.func39,Tryz.ntmps39
   go_upto_region 1 with fail
   simp only [List.append_eq,List.cons_append,List.nil_append]
   refine wp_region_class (w₀:=w) (Below.refl _ _).drew (by kernel_rfl) (by kernel_rfl) ?_
   repeat (go_big_quiet_step (first|(go_at_call 61;exact CW.calls (HC4.out _ (CW.h _)))))
   refine wpQuiet_nil ?_
   rintro _ ⟨s,rfl⟩
   have HB:=Lib.hid s.h
   generalize s.val=W3 at HB ⊢
   go_wp2
   go_ret
   exact ⟨rb HF.out,HB.out⟩
 obtain rfl:q4=true:=by
   cases q4 with
   |false=>exact absurd rfl e0
   |true=>rfl
 clear e0
 by_cases e0:q5=false
 case pos=>
   subst e0
   have HF:=Lib.hid (eqB_no (a:=(colsu,consu,namesu,rowsu,setsu,ordu)) (b:=(colsv,consv,namesv,rowsv,setsv,ordv)) (fun g=>by
     simp only [Prod.mk.injEq] at g
     have e9:consu=consv:=g.2.1
     rw [eqB_yes e9] at hq5
     cases hq5)).symm
   clear hq4 hq5 hq6 hq7 hq9 hq10
   go_enter Tryz.func39,Tryz.ntmps39
   go_upto_region 1 with fail
   simp only [List.append_eq,List.cons_append,List.nil_append]
   refine wp_region_class (w₀:=w) (Below.refl _ _).drew (by kernel_rfl) (by kernel_rfl) ?_
   repeat (go_big_quiet_step (first|(go_at_call 61;exact CW.calls (HC4.out _ (CW.h _)))|(go_at_call 62;exact CW.calls (HC5.out _ (CW.h _)))))
   refine wpQuiet_nil ?_
   rintro _ ⟨s,rfl⟩
   have HB:=Lib.hid s.h
   generalize s.val=W3 at HB ⊢
   go_wp2
   go_ret
   exact ⟨rb HF.out,HB.out⟩
 obtain rfl:q5=true:=by
   cases q5 with
   |false=>exact absurd rfl e0
   |true=>rfl
 clear e0
 by_cases e0:q6=false
 case pos=>
   subst e0
   have HF:=Lib.hid (eqB_no (a:=(colsu,consu,namesu,rowsu,setsu,ordu)) (b:=(colsv,consv,namesv,rowsv,setsv,ordv)) (fun g=>by
     simp only [Prod.mk.injEq] at g
     have e9:namesu=namesv:=g.2.2.1
     rw [eqB_yes e9] at hq6
     cases hq6)).symm
   clear hq4 hq5 hq6 hq7 hq9 hq10
   go_enter Tryz.func39,Tryz.ntmps39
   go_upto_region 1 with fail
   simp only [List.append_eq,List.cons_append,List.nil_append]
   refine wp_region_class (w₀:=w) (Below.refl _ _).drew (by kernel_rfl) (by kernel_rfl) ?_
   repeat (go_big_quiet_step (first|(go_at_call 61;exact CW.calls (HC4.out _ (CW.h _)))|(go_at_call 62;exact CW.calls (HC5.out _ (CW.h _)))|(go_at_call 64;exact CW.calls (HC6.out _ (CW.h _)))))
   refine wpQuiet_nil ?_
   rintro _ ⟨s,rfl⟩
   have HB:=Lib.hid s.h
   generalize s.val=W3 at HB ⊢
   go_wp2
   go_ret
   exact ⟨rb HF.out,HB.out⟩
 obtain rfl:q6=true:=by
   cases q6 with
   |false=>exact absurd rfl e0
   |true=>rfl
 clear e0
 by_cases e0:q7=false
 case pos=>
   subst e0
   have HF:=Lib.hid (eqB_no (a:=(colsu,consu,namesu,rowsu,setsu,ordu)) (b:=(colsv,consv,namesv,rowsv,setsv,ordv)) (fun g=>by
     simp only [Prod.mk.injEq] at g
     have e9:rowsu=rowsv:=g.2.2.2.1
     rw [eqB_yes e9] at hq7
     cases hq7)).symm
   clear hq4 hq5 hq6 hq7 hq9 hq10
   go_enter Tryz.func39,Tryz.ntmps39
   go_upto_region 1 with fail
   simp only [List.append_eq,List.cons_append,List.nil_append]
   refine wp_region_class (w₀:=w) (Below.refl _ _).drew (by kernel_rfl) (by kernel_rfl) ?_
   repeat (go_big_quiet_step (first|(go_at_call 61;exact CW.calls (HC4.out _ (CW.h _)))|(go_at_call 62;exact CW.calls (HC5.out _ (CW.h _)))|(go_at_call 64;exact CW.calls (HC6.out _ (CW.h _)))|(go_at_call 65;exact CW.calls (HC7.out _ (CW.h _)))))
   refine wpQuiet_nil ?_
   rintro _ ⟨s,rfl⟩
   have HB:=Lib.hid s.h
   generalize s.val=W3 at HB ⊢
   go_wp2
   go_ret
   exact ⟨rb HF.out,HB.out⟩
 obtain rfl:q7=true:=by
   cases q7 with
   |false=>exact absurd rfl e0
   |true=>rfl
 clear e0
 by_cases e0:q9=false
 case pos=>
   subst e0
   have HF:=Lib.hid (eqB_no (a:=(colsu,consu,namesu,rowsu,setsu,ordu)) (b:=(colsv,consv,namesv,rowsv,setsv,ordv)) (fun g=>by
     simp only [Prod.mk.injEq] at g
     have e9:setsu=setsv:=g.2.2.2.2.1
     rw [eqB_yes e9] at hq9
     cases hq9)).symm
   clear hq4 hq5 hq6 hq7 hq9 hq10
   go_enter Tryz.func39,Tryz.ntmps39
   go_upto_region 1 with fail
   simp only [List.append_eq,List.cons_append,List.nil_append]
   refine wp_region_class (w₀:=w) (Below.refl _ _).drew (by kernel_rfl) (by kernel_rfl) ?_
   repeat (go_big_quiet_step (first|(go_at_call 61;exact CW.calls (HC4.out _ (CW.h _)))|(go_at_call 62;exact CW.calls (HC5.out _ (CW.h _)))|(go_at_call 64;exact CW.calls (HC6.out _ (CW.h _)))|(go_at_call 65;exact CW.calls (HC7.out _ (CW.h _)))|(go_at_call 67;exact CW.calls (HC9.out _ (CW.h _)))))
   refine wpQuiet_nil ?_
   rintro _ ⟨s,rfl⟩
   have HB:=Lib.hid s.h
   generalize s.val=W3 at HB ⊢
   go_wp2
   go_ret
   exact ⟨rb HF.out,HB.out⟩
 obtain rfl:q9=true:=by
   cases q9 with
   |false=>exact absurd rfl e0
   |true=>rfl
 clear e0
 by_cases e0:q10=false
 case pos=>
   subst e0
   have HF:=Lib.hid (eqB_no (a:=(colsu,consu,namesu,rowsu,setsu,ordu)) (b:=(colsv,consv,namesv,rowsv,setsv,ordv)) (fun g=>by
     simp only [Prod.mk.injEq] at g
     have e9:ordu=ordv:=g.2.2.2.2.2
     rw [eqB_yes e9] at hq10
     cases hq10)).symm
   clear hq4 hq5 hq6 hq7 hq9 hq10
   go_enter Tryz.func39,Tryz.ntmps39
   go_upto_region 1 with fail
   simp only [List.append_eq,List.cons_append,List.nil_append]
   refine wp_region_class (w₀:=w) (Below.refl _ _).drew (by kernel_rfl) (by kernel_rfl) ?_
   repeat (go_big_quiet_step (first|(go_at_call 61;exact CW.calls (HC4.out _ (CW.h _)))|(go_at_call 62;exact CW.calls (HC5.out _ (CW.h _)))|(go_at_call 64;exact CW.calls (HC6.out _ (CW.h _)))|(go_at_call 65;exact CW.calls (HC7.out _ (CW.h _)))|(go_at_call 67;exact CW.calls (HC9.out _ (CW.h _)))|(go_at_call 69;exact CW.calls (HC10.out _ (CW.h _)))))
   refine wpQuiet_nil ?_
   rintro _ ⟨s,rfl⟩
   have HB:=Lib.hid s.h
   generalize s.val=W3 at HB ⊢
   go_wp2
   go_ret
   exact ⟨rb HF.out,HB.out⟩
 obtain rfl:q10=true:=by
   cases q10 with
   |false=>exact absurd rfl e0
   |true=>rfl
 clear e0
 have HF:=Lib.hid (eqB_yes (a:=(colsu,consu,namesu,rowsu,setsu,ordu)) (b:=(colsv,consv,namesv,rowsv,setsv,ordv)) (by rw [eqB_iff.1 hq4,eqB_iff.1 hq5,eqB_iff.1 hq6,eqB_iff.1 hq7,eqB_iff.1 hq9,eqB_iff.1 hq10])).symm
 clear hq4 hq5 hq6 hq7 hq9 hq10
 go_enter Tryz.func39,Tryz.ntmps39
 go_upto_region 1 with fail
 simp only [List.append_eq,List.cons_append,List.nil_append]
 refine wp_region_class (w₀:=w) (Below.refl _ _).drew (by kernel_rfl) (by kernel_rfl) ?_
 repeat (go_big_quiet_step (first|(go_at_call 61;exact CW.calls (HC4.out _ (CW.h _)))|(go_at_call 62;exact CW.calls (HC5.out _ (CW.h _)))|(go_at_call 64;exact CW.calls (HC6.out _ (CW.h _)))|(go_at_call 65;exact CW.calls (HC7.out _ (CW.h _)))|(go_at_call 67;exact CW.calls (HC9.out _ (CW.h _)))|(go_at_call 69;exact CW.calls (HC10.out _ (CW.h _)))))
 refine wpQuiet_nil ?_
 rintro _ ⟨s,rfl⟩
 have HB:=Lib.hid s.h
 generalize s.val=W3 at HB ⊢
 go_wp2
 go_ret
 exact ⟨rb HF.out,HB.out⟩
end Go.Proofs.YtiaomhdmllhmmaaGreatDoor.Sm
namespace Go.Proofs.YtiaomhdmllhmmaaGreatDoor.Sm
open Go.RowKit Mem
noncomputable def regOps (id:Nat):Code→Option (Array Oper)
 | .seq a b=>(regOps id a).orElse fun _=>regOps id b
 | .region i ops _=>if i=id then some ops else none
 | .cond _ a b=>(regOps id a).orElse fun _=>regOps id b
 | .block _ a=>regOps id a
 | .loop a=>regOps id a
 |_=>none
section
variable {md:Region.Mode} {ops:Array Oper}
def lexPre (md:Region.Mode) (ops:Array Oper):Nat→Nat→Array Bool→Bool
 |0,_,_=>true
 |n+1,k,l=>(Region.ready md ops l).contains k && Region.free md ops l k && lexPre md ops n (k+1) (l.setIfInBounds k true)
def adv:Nat→Nat→Array Bool→Array Bool
 |0,_,l=>l
 |n+1,k,l=>adv n (k+1) (l.setIfInBounds k true)
theorem lex_join:∀{m n k:Nat} {l l' :Array Bool},lexPre md ops m k l=true→adv m k l=l' →Region.lexFrom md ops n (k+m) l' =true→Region.lexFrom md ops (n+m) k l=true
 |0,n,k,l,l',_,h,h' =>by subst h;exact h'
 | m+1,n,k,l,l',h,e,h' =>by
   simp only [lexPre,Bool.and_eq_true] at h
   rw [show n+(m+1)=n+m+1 by omega]
   simp only [Region.lexFrom,Bool.and_eq_true]
   exact ⟨h.1,lex_join (m:=m) h.2 e (by rw [show k+1+m=k+(m+1) by omega];exact h')⟩
end
def lst (n k:Nat):Array Bool:=(List.replicate k true++List.replicate (n - k) false).toArray
noncomputable def ops_same:Array Oper:=((Tryz.f22.body).bind (regOps 1)).getD #[]
theorem same_size:ops_same.size=106:=by kernel_rfl
theorem same_nosel:Region.noSelect ops_same=true:=by kernel_rfl
theorem same_x0:lexPre .any ops_same 20 0 (lst 106 0)=true:=by kernel_rfl
theorem same_v0:adv 20 0 (lst 106 0)=lst 106 20:=by kernel_rfl
theorem same_x20:lexPre .any ops_same 20 20 (lst 106 20)=true:=by kernel_rfl
theorem same_v20:adv 20 20 (lst 106 20)=lst 106 40:=by kernel_rfl
theorem same_x40:lexPre .any ops_same 20 40 (lst 106 40)=true:=by kernel_rfl
theorem same_v40:adv 20 40 (lst 106 40)=lst 106 60:=by kernel_rfl
theorem same_x60:lexPre .any ops_same 20 60 (lst 106 60)=true:=by kernel_rfl
theorem same_v60:adv 20 60 (lst 106 60)=lst 106 80:=by kernel_rfl
theorem same_x80:lexPre .any ops_same 20 80 (lst 106 80)=true:=by kernel_rfl
theorem same_v80:adv 20 80 (lst 106 80)=lst 106 100:=by kernel_rfl
theorem same_x100:lexPre .any ops_same 6 100 (lst 106 100)=true:=by kernel_rfl
theorem same_v100:adv 6 100 (lst 106 100)=lst 106 106:=by kernel_rfl
theorem same_end:Region.lexFrom .any ops_same 0 106 (lst 106 106)=true:=by kernel_rfl
theorem same_f100:Region.lexFrom .any ops_same 6 100 (lst 106 100)=true:=lex_join (m:=6) (n:=0) same_x100 same_v100 same_end
theorem same_f80:Region.lexFrom .any ops_same 26 80 (lst 106 80)=true:=lex_join (m:=20) (n:=6) same_x80 same_v80 same_f100
theorem same_f60:Region.lexFrom .any ops_same 46 60 (lst 106 60)=true:=lex_join (m:=20) (n:=26) same_x60 same_v60 same_f80
theorem same_f40:Region.lexFrom .any ops_same 66 40 (lst 106 40)=true:=lex_join (m:=20) (n:=46) same_x40 same_v40 same_f60
theorem same_f20:Region.lexFrom .any ops_same 86 20 (lst 106 20)=true:=lex_join (m:=20) (n:=66) same_x20 same_v20 same_f40
theorem same_f0:Region.lexFrom .any ops_same 106 0 (lst 106 0)=true:=lex_join (m:=20) (n:=86) same_x0 same_v0 same_f20
theorem same_lexB:Region.lexB .any ops_same=true:=by
 rw [Region.lexB,same_nosel,same_size,Bool.true_and,show Array.replicate 106 false=lst 106 0 by kernel_rfl]
 exact same_f0
end Go.Proofs.YtiaomhdmllhmmaaGreatDoor.Sm
namespace Go.Proofs.YtiaomhdmllhmmaaGreatDoor.Sm
open Go.RowKit Mem Ep Right Go.ChangeShapes Go.WideShapes
set_option linter.unusedVariables false
set_option maxHeartbeats 4000000 in
theorem same_no0 (sku liu pru:Int) (ttu tnu tru:Bs) (opu:Bool) (A4u:Option Addr) (n4u a4u:Nat) (A5u:Option Addr) (n5u a5u:Nat) (A6u:Option Addr) (n6u a6u:Nat) (A7u:Option Addr) (n7u a7u:Nat) (A9u:Option Addr) (n9u a9u:Nat) (A10u:Option Addr) (n10u a10u:Nat) (A14u:Option Addr) (n14u a14u:Nat) (ku ou vku vnu:Int) (vsu nsu:ByteArray) (Bu:Option Addr) (mu du:Nat) (skv liv prv:Int) (ttv tnv trv:Bs) (opv:Bool) (A4v:Option Addr) (n4v a4v:Nat) (A5v:Option Addr) (n5v a5v:Nat) (A6v:Option Addr) (n6v a6v:Nat) (A7v:Option Addr) (n7v a7v:Nat) (A9v:Option Addr) (n9v a9v:Nat) (A10v:Option Addr) (n10v a10v:Nat) (A14v:Option Addr) (n14v a14v:Nat) (kv ov vkv vnv:Int) (vsv nsv:ByteArray) (Bv:Option Addr) (mv dv:Nat) (ba oa bb ob:Nat) (w:World) (hba:ba<w.heap.size) (hbb:bb<w.heap.size) (p1:At w ba oa [.int .i64 sku, .string (txt ttu), .string (txt tnu), .string (txt tru), .slice A4u n4u a4u, .slice A5u n5u a5u, .slice A6u n6u a6u, .slice A7u n7u a7u, .int .i64 ku, .int .i64 ou, .int .i64 vku, .int .i64 vnu, .string vsu, .string nsu, .slice Bu mu du, .slice A9u n9u a9u, .slice A10u n10u a10u, .int .i64 liu, .int .i64 pru, .bool opu, .slice A14u n14u a14u]) (p2:At w bb ob [.int .i64 skv, .string (txt ttv), .string (txt tnv), .string (txt trv), .slice A4v n4v a4v, .slice A5v n5v a5v, .slice A6v n6v a6v, .slice A7v n7v a7v, .int .i64 kv, .int .i64 ov, .int .i64 vkv, .int .i64 vnv, .string vsv, .string nsv, .slice Bv mv dv, .slice A9v n9v a9v, .slice A10v n10v a10v, .int .i64 liv, .int .i64 prv, .bool opv, .slice A14v n14v a14v]) (e0:skv≠sku):
   Calls Tryz.prog 22 #[.pointer (some ⟨ba,oa,none⟩), .pointer (some ⟨bb,ob,none⟩)] w fun e w' =>e= .returned (.bool false)∧Below w.heap.size w w' :=by
 have c0:∀s:CW w,s.val.cell? ⟨ba,oa,none⟩=some (.int .i64 sku):=fun s=>(s.h.cell (p:=⟨ba,oa,none⟩) hba).trans (p1 0 _ rfl)
 have d0:∀s:CW w,s.val.cell? ⟨bb,ob,none⟩=some (.int .i64 skv):=fun s=>(s.h.cell (p:=⟨bb,ob,none⟩) hbb).trans (p2 0 _ rfl)
 clear p1 p2 hba hbb
 have e1:=Ne.symm e0
 have t1:(sku !=skv)=true:=bne_yes e1
 clear e0
 go_enter Tryz.func22,Tryz.ntmps22
 go_upto_region 1 with fail
 simp only [List.append_eq,List.cons_append,List.nil_append]
 refine wp_region_class (w₀:=w) (Below.refl _ _).drew (by kernel_rfl) (Eq.trans (b:=Region.lexB .any ops_same) (by kernel_rfl) same_lexB) ?_
 repeat (go_big_quiet_step (first|fail))
 refine wpQuiet_nil ?_
 rintro _ ⟨s,rfl⟩
 have HB:=Lib.hid s.h
 generalize s.val=W3 at HB ⊢
 go_wp2
 go_ret
 exact ⟨rfl,HB.out⟩
set_option maxHeartbeats 4000000 in
theorem same_no1 (sku liu pru:Int) (ttu tnu tru:Bs) (opu:Bool) (A4u:Option Addr) (n4u a4u:Nat) (A5u:Option Addr) (n5u a5u:Nat) (A6u:Option Addr) (n6u a6u:Nat) (A7u:Option Addr) (n7u a7u:Nat) (A9u:Option Addr) (n9u a9u:Nat) (A10u:Option Addr) (n10u a10u:Nat) (A14u:Option Addr) (n14u a14u:Nat) (ku ou vku vnu:Int) (vsu nsu:ByteArray) (Bu:Option Addr) (mu du:Nat) (skv liv prv:Int) (ttv tnv trv:Bs) (opv:Bool) (A4v:Option Addr) (n4v a4v:Nat) (A5v:Option Addr) (n5v a5v:Nat) (A6v:Option Addr) (n6v a6v:Nat) (A7v:Option Addr) (n7v a7v:Nat) (A9v:Option Addr) (n9v a9v:Nat) (A10v:Option Addr) (n10v a10v:Nat) (A14v:Option Addr) (n14v a14v:Nat) (kv ov vkv vnv:Int) (vsv nsv:ByteArray) (Bv:Option Addr) (mv dv:Nat) (ba oa bb ob:Nat) (w:World) (hba:ba<w.heap.size) (hbb:bb<w.heap.size) (p1:At w ba oa [.int .i64 sku, .string (txt ttu), .string (txt tnu), .string (txt tru), .slice A4u n4u a4u, .slice A5u n5u a5u, .slice A6u n6u a6u, .slice A7u n7u a7u, .int .i64 ku, .int .i64 ou, .int .i64 vku, .int .i64 vnu, .string vsu, .string nsu, .slice Bu mu du, .slice A9u n9u a9u, .slice A10u n10u a10u, .int .i64 liu, .int .i64 pru, .bool opu, .slice A14u n14u a14u]) (p2:At w bb ob [.int .i64 sku, .string (txt ttv), .string (txt tnv), .string (txt trv), .slice A4v n4v a4v, .slice A5v n5v a5v, .slice A6v n6v a6v, .slice A7v n7v a7v, .int .i64 kv, .int .i64 ov, .int .i64 vkv, .int .i64 vnv, .string vsv, .string nsv, .slice Bv mv dv, .slice A9v n9v a9v, .slice A10v n10v a10v, .int .i64 liv, .int .i64 prv, .bool opv, .slice A14v n14v a14v]) (e0:ttv≠ttu):
   Calls Tryz.prog 22 #[.pointer (some ⟨ba,oa,none⟩), .pointer (some ⟨bb,ob,none⟩)] w fun e w' =>e= .returned (.bool false)∧Below w.heap.size w w' :=by
 have c0:∀s:CW w,s.val.cell? ⟨ba,oa,none⟩=some (.int .i64 sku):=fun s=>(s.h.cell (p:=⟨ba,oa,none⟩) hba).trans (p1 0 _ rfl)
 have d0:∀s:CW w,s.val.cell? ⟨bb,ob,none⟩=some (.int .i64 sku):=fun s=>(s.h.cell (p:=⟨bb,ob,none⟩) hbb).trans (p2 0 _ rfl)
 have c1:∀s:CW w,s.val.cell? ⟨ba,oa+1,none⟩=some (.string (txt ttu)):=fun s=>(s.h.cell (p:=⟨ba,oa+1,none⟩) hba).trans (p1 1 _ rfl)
 have d1:∀s:CW w,s.val.cell? ⟨bb,ob+1,none⟩=some (.string (txt ttv)):=fun s=>(s.h.cell (p:=⟨bb,ob+1,none⟩) hbb).trans (p2 1 _ rfl)
 clear p1 p2 hba hbb
 obtain ⟨t3,t4,t5⟩:=txt_ne (Ne.symm e0)
 clear e0
 go_enter Tryz.func22,Tryz.ntmps22
 go_upto_region 1 with fail
 simp only [List.append_eq,List.cons_append,List.nil_append]
 refine wp_region_class (w₀:=w) (Below.refl _ _).drew (by kernel_rfl) (Eq.trans (b:=Region.lexB .any ops_same) (by kernel_rfl) same_lexB) ?_
 repeat (go_big_quiet_step (first|fail))
 refine wpQuiet_nil ?_
 rintro _ ⟨s,rfl⟩
 have HB:=Lib.hid s.h
 generalize s.val=W3 at HB ⊢
 go_wp2
 go_ret
 exact ⟨rfl,HB.out⟩
set_option maxHeartbeats 4000000 in
theorem same_no2 (sku liu pru:Int) (ttu tnu tru:Bs) (opu:Bool) (A4u:Option Addr) (n4u a4u:Nat) (A5u:Option Addr) (n5u a5u:Nat) (A6u:Option Addr) (n6u a6u:Nat) (A7u:Option Addr) (n7u a7u:Nat) (A9u:Option Addr) (n9u a9u:Nat) (A10u:Option Addr) (n10u a10u:Nat) (A14u:Option Addr) (n14u a14u:Nat) (ku ou vku vnu:Int) (vsu nsu:ByteArray) (Bu:Option Addr) (mu du:Nat) (skv liv prv:Int) (ttv tnv trv:Bs) (opv:Bool) (A4v:Option Addr) (n4v a4v:Nat) (A5v:Option Addr) (n5v a5v:Nat) (A6v:Option Addr) (n6v a6v:Nat) (A7v:Option Addr) (n7v a7v:Nat) (A9v:Option Addr) (n9v a9v:Nat) (A10v:Option Addr) (n10v a10v:Nat) (A14v:Option Addr) (n14v a14v:Nat) (kv ov vkv vnv:Int) (vsv nsv:ByteArray) (Bv:Option Addr) (mv dv:Nat) (ba oa bb ob:Nat) (w:World) (hba:ba<w.heap.size) (hbb:bb<w.heap.size) (p1:At w ba oa [.int .i64 sku, .string (txt ttu), .string (txt tnu), .string (txt tru), .slice A4u n4u a4u, .slice A5u n5u a5u, .slice A6u n6u a6u, .slice A7u n7u a7u, .int .i64 ku, .int .i64 ou, .int .i64 vku, .int .i64 vnu, .string vsu, .string nsu, .slice Bu mu du, .slice A9u n9u a9u, .slice A10u n10u a10u, .int .i64 liu, .int .i64 pru, .bool opu, .slice A14u n14u a14u]) (p2:At w bb ob [.int .i64 sku, .string (txt ttu), .string (txt tnv), .string (txt trv), .slice A4v n4v a4v, .slice A5v n5v a5v, .slice A6v n6v a6v, .slice A7v n7v a7v, .int .i64 kv, .int .i64 ov, .int .i64 vkv, .int .i64 vnv, .string vsv, .string nsv, .slice Bv mv dv, .slice A9v n9v a9v, .slice A10v n10v a10v, .int .i64 liv, .int .i64 prv, .bool opv, .slice A14v n14v a14v]) (e0:tnv≠tnu):
   Calls Tryz.prog 22 #[.pointer (some ⟨ba,oa,none⟩), .pointer (some ⟨bb,ob,none⟩)] w fun e w' =>e= .returned (.bool false)∧Below w.heap.size w w' :=by
 have c0:∀s:CW w,s.val.cell? ⟨ba,oa,none⟩=some (.int .i64 sku):=fun s=>(s.h.cell (p:=⟨ba,oa,none⟩) hba).trans (p1 0 _ rfl)
 have d0:∀s:CW w,s.val.cell? ⟨bb,ob,none⟩=some (.int .i64 sku):=fun s=>(s.h.cell (p:=⟨bb,ob,none⟩) hbb).trans (p2 0 _ rfl)
 have c1:∀s:CW w,s.val.cell? ⟨ba,oa+1,none⟩=some (.string (txt ttu)):=fun s=>(s.h.cell (p:=⟨ba,oa+1,none⟩) hba).trans (p1 1 _ rfl)
 have d1:∀s:CW w,s.val.cell? ⟨bb,ob+1,none⟩=some (.string (txt ttu)):=fun s=>(s.h.cell (p:=⟨bb,ob+1,none⟩) hbb).trans (p2 1 _ rfl)
 have c2:∀s:CW w,s.val.cell? ⟨ba,oa+2,none⟩=some (.string (txt tnu)):=fun s=>(s.h.cell (p:=⟨ba,oa+2,none⟩) hba).trans (p1 2 _ rfl)
 have d2:∀s:CW w,s.val.cell? ⟨bb,ob+2,none⟩=some (.string (txt tnv)):=fun s=>(s.h.cell (p:=⟨bb,ob+2,none⟩) hbb).trans (p2 2 _ rfl)
 clear p1 p2 hba hbb
 obtain ⟨t3,t4,t5⟩:=txt_ne (Ne.symm e0)
 clear e0
 go_enter Tryz.func22,Tryz.ntmps22
 go_upto_region 1 with fail
 simp only [List.append_eq,List.cons_append,List.nil_append]
 refine wp_region_class (w₀:=w) (Below.refl _ _).drew (by kernel_rfl) (Eq.trans (b:=Region.lexB .any ops_same) (by kernel_rfl) same_lexB) ?_
 repeat (go_big_quiet_step (first|fail))
 refine wpQuiet_nil ?_
 rintro _ ⟨s,rfl⟩
 have HB:=Lib.hid s.h
 generalize s.val=W3 at HB ⊢
 go_wp2
 go_ret
 exact ⟨rfl,HB.out⟩
end Go.Proofs.YtiaomhdmllhmmaaGreatDoor.Sm
