/- Are two statements one: the program's answer (stmt.same, by pointers). Are two statements one: stmt.Same. A checker of statements in memory: the statement, the copy that gets the fields of its kin A checker's smallest calls: what is kept of errors, what has to be so, names, expressions. Element j of a list of sets, orders, expressions. -/
import Derived.Test.YtiaomhdmllhmmaaGreatDoorK16
import Derived.Test.YtiaomhdmllhmmaaGreatDoorK17
import Derived.Test.YtiaomhdmllhmmaaGreatDoorK12
import Derived.Test.YtiaomhdmllhmmaaGreatDoorK06
import Derived.Test.YtiaomhdmllhmmaaGreatDoorK10
namespace Go.Proofs.YtiaomhdmllhmmaaGreatDoor.Sm
open Go.RowKit Mem Ep Right Go.ChangeShapes Go.WideShapes
set_option linter.unusedVariables false
theorem kid_at {w:World} {S:Nat→Prop} {A:Option Addr} {l:List St} {j:Nat} {x:St} (h:RowIn w S A 21 (l.map stDt) 0) (hx:l[j]?=some x):∃b o cs,A=some ⟨b,o,none⟩∧S b∧At w b (o+j*21) cs∧DtIn w S (stDt x) cs:=by
 obtain ⟨b,o,cs,h1,h2,h3,h4,h5⟩:=RowIn.get h (show (l.map stDt)[j]?=some (stDt x) by rw [List.getElem?_map,hx];rfl)
 have e:∀i,o+(0+j)*21+i=o+j*21+i:=fun i=>by omega
 exact ⟨b,o,cs,h1,h2,fun i v hv=>by have:=h4 i v hv;rwa [e] at this,h5⟩
set_option maxHeartbeats 8000000 in
theorem same_ptr:∀x:St,SameP x:=by
  refine St.byKids fun sku ttu tnu tru colsu consu namesu rowsu whu setsu ordu liu pru opu kidsu ih=>?_
  intro y ba oa bb ob cs ds w hba hbb h1 h2 p1 p2
  obtain ⟨skv,ttv,tnv,trv,colsv,consv,namesv,rowsv,whv,setsv,ordv,liv,prv,opv,kidsv⟩:=y
  obtain ⟨q1,hq1⟩:∃q,eqB (colsu,consu,namesu,rowsu,setsu,ordu) (colsv,consv,namesv,rowsv,setsv,ordv)=q:=⟨_,rfl⟩
  have HC1:=Lib.hid (show ∀W',Below w.heap.size w W' →Calls Tryz.prog 39 #[.pointer (some ⟨ba,oa,none⟩), .pointer (some ⟨bb,ob,none⟩)] W' fun e w' =>e= .returned (.bool q1)∧Below W'.heap.size W' w' from fun W' hW=>by
    rw [←hq1]
    exact sameLists_any (Nat.lt_of_lt_of_le hba hW.size) (Nat.lt_of_lt_of_le hbb hW.size) (DtIn.on h1 hW) (DtIn.on h2 hW) (p1.on hba hW) (p2.on hbb hW))
  obtain ⟨r4u,r5u,r6u,r7u,eu,r9u,r10u,r14u,rfl,⟨A4u,a4u,rfl,l4u,m4u, -,g4u⟩,⟨A5u,a5u,rfl,l5u,m5u, -,g5u⟩,⟨A6u,a6u,rfl,l6u,m6u, -,g6u⟩,⟨A7u,a7u,rfl,l7u,m7u, -,g7u⟩,g8u,⟨A9u,a9u,rfl,l9u,m9u, -,g9u⟩,⟨A10u,a10u,rfl,l10u,m10u, -,g10u⟩,⟨A14u,a14u,rfl,l14u,m14u, -,g14u⟩⟩:=st_in.1 h1
  obtain ⟨ku,ou,vku,vnu,vsu,nsu,Bu,mu,du,rfl⟩:=ex_form g8u
  obtain ⟨r4v,r5v,r6v,r7v,ev,r9v,r10v,r14v,rfl,⟨A4v,a4v,rfl,l4v,m4v, -,g4v⟩,⟨A5v,a5v,rfl,l5v,m5v, -,g5v⟩,⟨A6v,a6v,rfl,l6v,m6v, -,g6v⟩,⟨A7v,a7v,rfl,l7v,m7v, -,g7v⟩,g8v,⟨A9v,a9v,rfl,l9v,m9v, -,g9v⟩,⟨A10v,a10v,rfl,l10v,m10v, -,g10v⟩,⟨A14v,a14v,rfl,l14v,m14v, -,g14v⟩⟩:=st_in.1 h2
  obtain ⟨kv,ov,vkv,vnv,vsv,nsv,Bv,mv,dv,rfl⟩:=ex_form g8v
  simp only [List.length_map] at l4u l5u l6u l7u l9u l10u l14u h1 h2 p1 p2
  obtain ⟨n4u,hn4u⟩:∃n,colsu.length=n:=⟨_,rfl⟩
  obtain ⟨n4v,hn4v⟩:∃n,colsv.length=n:=⟨_,rfl⟩
  obtain ⟨n5u,hn5u⟩:∃n,consu.length=n:=⟨_,rfl⟩
  obtain ⟨n5v,hn5v⟩:∃n,consv.length=n:=⟨_,rfl⟩
  obtain ⟨n6u,hn6u⟩:∃n,namesu.length=n:=⟨_,rfl⟩
  obtain ⟨n6v,hn6v⟩:∃n,namesv.length=n:=⟨_,rfl⟩
  obtain ⟨n7u,hn7u⟩:∃n,rowsu.length=n:=⟨_,rfl⟩
  obtain ⟨n7v,hn7v⟩:∃n,rowsv.length=n:=⟨_,rfl⟩
  obtain ⟨n9u,hn9u⟩:∃n,setsu.length=n:=⟨_,rfl⟩
  obtain ⟨n9v,hn9v⟩:∃n,setsv.length=n:=⟨_,rfl⟩
  obtain ⟨n10u,hn10u⟩:∃n,ordu.length=n:=⟨_,rfl⟩
  obtain ⟨n10v,hn10v⟩:∃n,ordv.length=n:=⟨_,rfl⟩
  obtain ⟨n14u,hn14u⟩:∃n,kidsu.length=n:=⟨_,rfl⟩
  obtain ⟨n14v,hn14v⟩:∃n,kidsv.length=n:=⟨_,rfl⟩
  rw [hn4u,hn5u,hn6u,hn7u,hn9u,hn10u,hn14u] at p1
  rw [hn4v,hn5v,hn6v,hn7v,hn9v,hn10v,hn14v] at p2
  obtain ⟨q2,hq2⟩:∃q,eqB whu whv=q:=⟨_,rfl⟩
  have HC2:=Lib.hid (show ∀W',Below w.heap.size w W' →Calls Tryz.prog 40 #[.agg #[.int .i64 ku, .int .i64 ou, .int .i64 vku, .int .i64 vnu, .string vsu, .string nsu, .slice Bu mu du], .agg #[.int .i64 kv, .int .i64 ov, .int .i64 vkv, .int .i64 vnv, .string vsv, .string nsv, .slice Bv mv dv]] W' fun e w' =>e= .returned (.bool q2)∧Below W'.heap.size W' w' from fun W' hW=>by
    rw [←hq2]
    exact same_ex whu whv _ _ W' (DtIn.on g8u hW) (DtIn.on g8v hW))
  by_cases e:sku=skv
  case neg=>
    rw [eqB_no (a:=((.mk sku ttu tnu tru colsu consu namesu rowsu whu setsu ordu liu pru opu kidsu):St)) (b:=(.mk skv ttv tnv trv colsv consv namesv rowsv whv setsv ordv liv prv opv kidsv)) (fun g=>e (by injection g))]
    exact same_no0 sku liu pru ttu tnu tru opu A4u n4u a4u A5u n5u a5u A6u n6u a6u A7u n7u a7u A9u n9u a9u A10u n10u a10u A14u n14u a14u ku ou vku vnu vsu nsu Bu mu du skv liv prv ttv tnv trv opv A4v n4v a4v A5v n5v a5v A6v n6v a6v A7v n7v a7v A9v n9v a9v A10v n10v a10v A14v n14v a14v kv ov vkv vnv vsv nsv Bv mv dv ba oa bb ob w hba hbb p1 p2 (fun h=>e h.symm)
  subst e
  by_cases e:ttu=ttv
  case neg=>
    rw [eqB_no (a:=((.mk sku ttu tnu tru colsu consu namesu rowsu whu setsu ordu liu pru opu kidsu):St)) (b:=(.mk sku ttv tnv trv colsv consv namesv rowsv whv setsv ordv liv prv opv kidsv)) (fun g=>e (by injection g))]
    exact same_no1 sku liu pru ttu tnu tru opu A4u n4u a4u A5u n5u a5u A6u n6u a6u A7u n7u a7u A9u n9u a9u A10u n10u a10u A14u n14u a14u ku ou vku vnu vsu nsu Bu mu du sku liv prv ttv tnv trv opv A4v n4v a4v A5v n5v a5v A6v n6v a6v A7v n7v a7v A9v n9v a9v A10v n10v a10v A14v n14v a14v kv ov vkv vnv vsv nsv Bv mv dv ba oa bb ob w hba hbb p1 p2 (fun h=>e h.symm)
  subst e
  by_cases e:tnu=tnv
  case neg=>
    rw [eqB_no (a:=((.mk sku ttu tnu tru colsu consu namesu rowsu whu setsu ordu liu pru opu kidsu):St)) (b:=(.mk sku ttu tnv trv colsv consv namesv rowsv whv setsv ordv liv prv opv kidsv)) (fun g=>e (by injection g))]
    exact same_no2 sku liu pru ttu tnu tru opu A4u n4u a4u A5u n5u a5u A6u n6u a6u A7u n7u a7u A9u n9u a9u A10u n10u a10u A14u n14u a14u ku ou vku vnu vsu nsu Bu mu du sku liv prv ttu tnv trv opv A4v n4v a4v A5v n5v a5v A6v n6v a6v A7v n7v a7v A9v n9v a9v A10v n10v a10v A14v n14v a14v kv ov vkv vnv vsv nsv Bv mv dv ba oa bb ob w hba hbb p1 p2 (fun h=>e h.symm)
  subst e
  by_cases e:tru=trv
  case neg=>
    rw [eqB_no (a:=((.mk sku ttu tnu tru colsu consu namesu rowsu whu setsu ordu liu pru opu kidsu):St)) (b:=(.mk sku ttu tnu trv colsv consv namesv rowsv whv setsv ordv liv prv opv kidsv)) (fun g=>e (by injection g))]
    exact same_no3 sku liu pru ttu tnu tru opu A4u n4u a4u A5u n5u a5u A6u n6u a6u A7u n7u a7u A9u n9u a9u A10u n10u a10u A14u n14u a14u ku ou vku vnu vsu nsu Bu mu du sku liv prv ttu tnu trv opv A4v n4v a4v A5v n5v a5v A6v n6v a6v A7v n7v a7v A9v n9v a9v A10v n10v a10v A14v n14v a14v kv ov vkv vnv vsv nsv Bv mv dv ba oa bb ob w hba hbb p1 p2 (fun h=>e h.symm)
  subst e
  by_cases e:liu=liv
  case neg=>
    rw [eqB_no (a:=((.mk sku ttu tnu tru colsu consu namesu rowsu whu setsu ordu liu pru opu kidsu):St)) (b:=(.mk sku ttu tnu tru colsv consv namesv rowsv whv setsv ordv liv prv opv kidsv)) (fun g=>e (by injection g))]
    exact same_no4 sku liu pru ttu tnu tru opu A4u n4u a4u A5u n5u a5u A6u n6u a6u A7u n7u a7u A9u n9u a9u A10u n10u a10u A14u n14u a14u ku ou vku vnu vsu nsu Bu mu du sku liv prv ttu tnu tru opv A4v n4v a4v A5v n5v a5v A6v n6v a6v A7v n7v a7v A9v n9v a9v A10v n10v a10v A14v n14v a14v kv ov vkv vnv vsv nsv Bv mv dv ba oa bb ob w hba hbb p1 p2 (fun h=>e h.symm)
  subst e
  by_cases e:pru=prv
  case neg=>
    rw [eqB_no (a:=((.mk sku ttu tnu tru colsu consu namesu rowsu whu setsu ordu liu pru opu kidsu):St)) (b:=(.mk sku ttu tnu tru colsv consv namesv rowsv whv setsv ordv liu prv opv kidsv)) (fun g=>e (by injection g))]
    exact same_no5 sku liu pru ttu tnu tru opu A4u n4u a4u A5u n5u a5u A6u n6u a6u A7u n7u a7u A9u n9u a9u A10u n10u a10u A14u n14u a14u ku ou vku vnu vsu nsu Bu mu du sku liu prv ttu tnu tru opv A4v n4v a4v A5v n5v a5v A6v n6v a6v A7v n7v a7v A9v n9v a9v A10v n10v a10v A14v n14v a14v kv ov vkv vnv vsv nsv Bv mv dv ba oa bb ob w hba hbb p1 p2 (fun h=>e h.symm)
  subst e
  by_cases e:opu=opv
  case neg=>
    rw [eqB_no (a:=((.mk sku ttu tnu tru colsu consu namesu rowsu whu setsu ordu liu pru opu kidsu):St)) (b:=(.mk sku ttu tnu tru colsv consv namesv rowsv whv setsv ordv liu pru opv kidsv)) (fun g=>e (by injection g))]
    exact same_no6 sku liu pru ttu tnu tru opu A4u n4u a4u A5u n5u a5u A6u n6u a6u A7u n7u a7u A9u n9u a9u A10u n10u a10u A14u n14u a14u ku ou vku vnu vsu nsu Bu mu du sku liu pru ttu tnu tru opv A4v n4v a4v A5v n5v a5v A6v n6v a6v A7v n7v a7v A9v n9v a9v A10v n10v a10v A14v n14v a14v kv ov vkv vnv vsv nsv Bv mv dv ba oa bb ob w hba hbb p1 p2 (fun h=>e h.symm)
  subst e
  by_cases e:n14u=n14v
  case neg=>
    rw [eqB_no (a:=((.mk sku ttu tnu tru colsu consu namesu rowsu whu setsu ordu liu pru opu kidsu):St)) (b:=(.mk sku ttu tnu tru colsv consv namesv rowsv whv setsv ordv liu pru opu kidsv)) (fun g=>e (by rw [←hn14u,←hn14v];injection g with g0 g1 g2 g3 g4 g5 g6 g7 g8 g9 g10 g11 g12 g13 g14;rw [g14]))]
    exact same_no7 sku liu pru ttu tnu tru opu A4u n4u a4u A5u n5u a5u A6u n6u a6u A7u n7u a7u A9u n9u a9u A10u n10u a10u A14u n14u a14u ku ou vku vnu vsu nsu Bu mu du sku liu pru ttu tnu tru opu A4v n4v a4v A5v n5v a5v A6v n6v a6v A7v n7v a7v A9v n9v a9v A10v n10v a10v A14v n14v a14v kv ov vkv vnv vsv nsv Bv mv dv ba oa bb ob w hba hbb p1 p2 (fun h=>e h.symm)
  subst e
  by_cases e:q1=false
  case pos=>
    subst e
    rw [eqB_no (a:=((.mk sku ttu tnu tru colsu consu namesu rowsu whu setsu ordu liu pru opu kidsu):St)) (b:=(.mk sku ttu tnu tru colsv consv namesv rowsv whv setsv ordv liu pru opu kidsv)) (fun g=>by
      have e9:(colsu,consu,namesu,rowsu,setsu,ordu)=(colsv,consv,namesv,rowsv,setsv,ordv):=by cases g;rfl
      rw [eqB_yes e9] at hq1
      cases hq1)]
    exact same_no8 sku liu pru ttu tnu tru opu A4u n4u a4u A5u n5u a5u A6u n6u a6u A7u n7u a7u A9u n9u a9u A10u n10u a10u A14u n14u a14u ku ou vku vnu vsu nsu Bu mu du sku liu pru ttu tnu tru opu A4v n4v a4v A5v n5v a5v A6v n6v a6v A7v n7v a7v A9v n9v a9v A10v n10v a10v A14v n14u a14v kv ov vkv vnv vsv nsv Bv mv dv ba oa bb ob w hba hbb p1 p2 HC1
  obtain rfl:q1=true:=by
    cases q1 with
    |false=>exact absurd rfl e
    |true=>rfl
  clear e
  by_cases e:q2=false
  case pos=>
    subst e
    rw [eqB_no (a:=((.mk sku ttu tnu tru colsu consu namesu rowsu whu setsu ordu liu pru opu kidsu):St)) (b:=(.mk sku ttu tnu tru colsv consv namesv rowsv whv setsv ordv liu pru opu kidsv)) (fun g=>by
      have e9:whu=whv:=by cases g;rfl
      rw [eqB_yes e9] at hq2
      cases hq2)]
    exact same_no9 sku liu pru ttu tnu tru opu A4u n4u a4u A5u n5u a5u A6u n6u a6u A7u n7u a7u A9u n9u a9u A10u n10u a10u A14u n14u a14u ku ou vku vnu vsu nsu Bu mu du sku liu pru ttu tnu tru opu A4v n4v a4v A5v n5v a5v A6v n6v a6v A7v n7v a7v A9v n9v a9v A10v n10v a10v A14v n14u a14v kv ov vkv vnv vsv nsv Bv mv dv ba oa bb ob w hba hbb p1 p2 HC1 HC2
  obtain rfl:q2=true:=by
    cases q2 with
    |false=>exact absurd rfl e
    |true=>rfl
  clear e
  have hT:=eqB_iff.1 hq1
  simp only [Prod.mk.injEq] at hT
  obtain ⟨t1,t2,t3,t4,t5,t6⟩:=hT
  have t7:=eqB_iff.1 hq2
  have HE:=Lib.hid (show kidsu=kidsv→eqB ((.mk sku ttu tnu tru colsu consu namesu rowsu whu setsu ordu liu pru opu kidsu):St) (.mk sku ttu tnu tru colsv consv namesv rowsv whv setsv ordv liu pru opu kidsv)=true from fun g=>eqB_yes (by rw [t1,t2,t3,t4,t5,t6,t7,g]))
  have HF:=Lib.hid (show kidsu≠kidsv→eqB ((.mk sku ttu tnu tru colsu consu namesu rowsu whu setsu ordu liu pru opu kidsu):St) (.mk sku ttu tnu tru colsv consv namesv rowsv whv setsv ordv liu pru opu kidsv)=false from fun g=>eqB_no (fun e=>g (by injection e)))
  obtain ⟨z,hz⟩:∃z,eqB ((.mk sku ttu tnu tru colsu consu namesu rowsu whu setsu ordu liu pru opu kidsu):St) (.mk sku ttu tnu tru colsv consv namesv rowsv whv setsv ordv liu pru opu kidsv)=z:=⟨_,rfl⟩
  rw [hz] at HE HF
  rw [hz]
  have HK:=Lib.hid g14u
  have HM:=Lib.hid g14v
  have HN:=Lib.hid hn14u
  have HN2:=Lib.hid hn14v
  have HI:=Lib.hid ih
  have hmx:n14u≤2 ^ 63 - 1:=by have:=m14u;unfold maxLen at this;omega
  have c0:∀s:CW w,s.val.cell? ⟨ba,oa,none⟩=some (.int .i64 sku):=fun s=>(s.h.cell (p:=⟨ba,oa,none⟩) hba).trans (p1 0 _ rfl)
  have d0:∀s:CW w,s.val.cell? ⟨bb,ob,none⟩=some (.int .i64 sku):=fun s=>(s.h.cell (p:=⟨bb,ob,none⟩) hbb).trans (p2 0 _ rfl)
  have c1:∀s:CW w,s.val.cell? ⟨ba,oa+1,none⟩=some (.string (txt ttu)):=fun s=>(s.h.cell (p:=⟨ba,oa+1,none⟩) hba).trans (p1 1 _ rfl)
  have d1:∀s:CW w,s.val.cell? ⟨bb,ob+1,none⟩=some (.string (txt ttu)):=fun s=>(s.h.cell (p:=⟨bb,ob+1,none⟩) hbb).trans (p2 1 _ rfl)
  have c2:∀s:CW w,s.val.cell? ⟨ba,oa+2,none⟩=some (.string (txt tnu)):=fun s=>(s.h.cell (p:=⟨ba,oa+2,none⟩) hba).trans (p1 2 _ rfl)
  have d2:∀s:CW w,s.val.cell? ⟨bb,ob+2,none⟩=some (.string (txt tnu)):=fun s=>(s.h.cell (p:=⟨bb,ob+2,none⟩) hbb).trans (p2 2 _ rfl)
  have c3:∀s:CW w,s.val.cell? ⟨ba,oa+3,none⟩=some (.string (txt tru)):=fun s=>(s.h.cell (p:=⟨ba,oa+3,none⟩) hba).trans (p1 3 _ rfl)
  have d3:∀s:CW w,s.val.cell? ⟨bb,ob+3,none⟩=some (.string (txt tru)):=fun s=>(s.h.cell (p:=⟨bb,ob+3,none⟩) hbb).trans (p2 3 _ rfl)
  have c17:∀s:CW w,s.val.cell? ⟨ba,oa+17,none⟩=some (.int .i64 liu):=fun s=>(s.h.cell (p:=⟨ba,oa+17,none⟩) hba).trans (p1 17 _ rfl)
  have d17:∀s:CW w,s.val.cell? ⟨bb,ob+17,none⟩=some (.int .i64 liu):=fun s=>(s.h.cell (p:=⟨bb,ob+17,none⟩) hbb).trans (p2 17 _ rfl)
  have c18:∀s:CW w,s.val.cell? ⟨ba,oa+18,none⟩=some (.int .i64 pru):=fun s=>(s.h.cell (p:=⟨ba,oa+18,none⟩) hba).trans (p1 18 _ rfl)
  have d18:∀s:CW w,s.val.cell? ⟨bb,ob+18,none⟩=some (.int .i64 pru):=fun s=>(s.h.cell (p:=⟨bb,ob+18,none⟩) hbb).trans (p2 18 _ rfl)
  have c19:∀s:CW w,s.val.cell? ⟨ba,oa+19,none⟩=some (.bool opu):=fun s=>(s.h.cell (p:=⟨ba,oa+19,none⟩) hba).trans (p1 19 _ rfl)
  have d19:∀s:CW w,s.val.cell? ⟨bb,ob+19,none⟩=some (.bool opu):=fun s=>(s.h.cell (p:=⟨bb,ob+19,none⟩) hbb).trans (p2 19 _ rfl)
  have c20:∀s:CW w,s.val.cell? ⟨ba,oa+20,none⟩=some (.slice A14u n14u a14u):=fun s=>(s.h.cell (p:=⟨ba,oa+20,none⟩) hba).trans (p1 20 _ rfl)
  have d20:∀s:CW w,s.val.cell? ⟨bb,ob+20,none⟩=some (.slice A14v n14u a14v):=fun s=>(s.h.cell (p:=⟨bb,ob+20,none⟩) hbb).trans (p2 20 _ rfl)
  have c8:∀s:CW w,s.val.cell? ⟨ba,oa+8,none⟩=some (.int .i64 ku):=fun s=>(s.h.cell (p:=⟨ba,oa+8,none⟩) hba).trans (p1 8 _ rfl)
  have d8:∀s:CW w,s.val.cell? ⟨bb,ob+8,none⟩=some (.int .i64 kv):=fun s=>(s.h.cell (p:=⟨bb,ob+8,none⟩) hbb).trans (p2 8 _ rfl)
  have c9:∀s:CW w,s.val.cell? ⟨ba,oa+9,none⟩=some (.int .i64 ou):=fun s=>(s.h.cell (p:=⟨ba,oa+9,none⟩) hba).trans (p1 9 _ rfl)
  have d9:∀s:CW w,s.val.cell? ⟨bb,ob+9,none⟩=some (.int .i64 ov):=fun s=>(s.h.cell (p:=⟨bb,ob+9,none⟩) hbb).trans (p2 9 _ rfl)
  have c10:∀s:CW w,s.val.cell? ⟨ba,oa+10,none⟩=some (.int .i64 vku):=fun s=>(s.h.cell (p:=⟨ba,oa+10,none⟩) hba).trans (p1 10 _ rfl)
  have d10:∀s:CW w,s.val.cell? ⟨bb,ob+10,none⟩=some (.int .i64 vkv):=fun s=>(s.h.cell (p:=⟨bb,ob+10,none⟩) hbb).trans (p2 10 _ rfl)
  have c11:∀s:CW w,s.val.cell? ⟨ba,oa+11,none⟩=some (.int .i64 vnu):=fun s=>(s.h.cell (p:=⟨ba,oa+11,none⟩) hba).trans (p1 11 _ rfl)
  have d11:∀s:CW w,s.val.cell? ⟨bb,ob+11,none⟩=some (.int .i64 vnv):=fun s=>(s.h.cell (p:=⟨bb,ob+11,none⟩) hbb).trans (p2 11 _ rfl)
  have c12:∀s:CW w,s.val.cell? ⟨ba,oa+12,none⟩=some (.string vsu):=fun s=>(s.h.cell (p:=⟨ba,oa+12,none⟩) hba).trans (p1 12 _ rfl)
  have d12:∀s:CW w,s.val.cell? ⟨bb,ob+12,none⟩=some (.string vsv):=fun s=>(s.h.cell (p:=⟨bb,ob+12,none⟩) hbb).trans (p2 12 _ rfl)
  have c13:∀s:CW w,s.val.cell? ⟨ba,oa+13,none⟩=some (.string nsu):=fun s=>(s.h.cell (p:=⟨ba,oa+13,none⟩) hba).trans (p1 13 _ rfl)
  have d13:∀s:CW w,s.val.cell? ⟨bb,ob+13,none⟩=some (.string nsv):=fun s=>(s.h.cell (p:=⟨bb,ob+13,none⟩) hbb).trans (p2 13 _ rfl)
  have c14:∀s:CW w,s.val.cell? ⟨ba,oa+14,none⟩=some (.slice Bu mu du):=fun s=>(s.h.cell (p:=⟨ba,oa+14,none⟩) hba).trans (p1 14 _ rfl)
  have d14:∀s:CW w,s.val.cell? ⟨bb,ob+14,none⟩=some (.slice Bv mv dv):=fun s=>(s.h.cell (p:=⟨bb,ob+14,none⟩) hbb).trans (p2 14 _ rfl)
  clear h1 h2 p1 p2 hba hbb g4u g4v g5u g5v g6u g6v g7u g7v g8u g8v g9u g9v g10u g10v g14u g14v l4u m4u l4v m4v l5u m5u l5v m5v l6u m6u l6v m6v l7u m7u l7v m7v l9u m9u l9v m9v l10u m10u l10v m10v hn4u hn4v hn5u hn5v hn6u hn6v hn7u hn7v hn9u hn9v hn10u hn10v l14u m14u l14v m14v hn14u hn14v ih hq1 hq2 hz t1 t2 t3 t4 t5 t6 t7
  go_enter Tryz.func22,Tryz.ntmps22
  go_upto_region 1 with fail
  simp only [List.append_eq,List.cons_append,List.nil_append]
  refine wp_region_class (w₀:=w) (Below.refl _ _).drew (by kernel_rfl) (Eq.trans (b:=Region.lexB .any ops_same) (by kernel_rfl) same_lexB) ?_
  repeat (go_big_quiet_step (first|(go_at_call 39;exact CW.calls (HC1.out _ (CW.h _)))|(go_at_call 40;exact CW.calls (HC2.out _ (CW.h _)))))
  refine wpQuiet_nil ?_
  rintro _ ⟨s,rfl⟩
  have HB:=Lib.hid s.h
  generalize s.val=W3 at HB ⊢
  have y20:W3.cell? ⟨ba,oa+20,none⟩=some (.slice A14u n14u a14u):=c20 ⟨W3,HB.out⟩
  go_wp2
  go_loopw [117] (fun i wr=>∃j:Nat,j≤n14u∧i= .int .i64 (j:Int)∧Hid (kidsu.take j=kidsv.take j)∧Hid (Below w.heap.size w wr)) (fun i _=>n14u+1 - (intOf i).toNat)
  case atStart=>exact ⟨0,Nat.zero_le _,rfl,Lib.hid (by rw [List.take_zero,List.take_zero]),HB⟩
  case round=>
    obtain ⟨j,hj,rfl,HL,HB⟩:=hrel
    by_cases hlt:j<n14u
    · obtain ⟨x,hx⟩:=some_at HN.out hlt
      obtain ⟨y,hy⟩:=some_at HN2.out hlt
      obtain ⟨b1,z1,cs1,rfl,hb1,at1,in1⟩:=kid_at HK.out hx
      obtain ⟨b2,z2,ds1,rfl,hb2,at2,in2⟩:=kid_at HM.out hy
      obtain ⟨q,hq⟩:∃q,eqB x y=q:=⟨_,rfl⟩
      have HKC:=Lib.hid (show ∀W',Below w.heap.size w W' →Calls Tryz.prog 22 #[.pointer (some ⟨b1,z1+j*21,none⟩), .pointer (some ⟨b2,z2+j*21,none⟩)] W' fun e w' =>e= .returned (.bool q)∧Below W'.heap.size W' w' from fun W' hW=>by
        rw [←hq]
        exact HI.out x (List.mem_of_getElem? hx) y b1 (z1+j*21) b2 (z2+j*21) cs1 ds1 W' (Nat.lt_of_lt_of_le hb1 hW.size) (Nat.lt_of_lt_of_le hb2 hW.size) (DtIn.on in1 hW) (DtIn.on in2 hW) (at1.on hb1 hW) (at2.on hb2 hW))
      have HTK:=Lib.hid (show q=true→kidsu.take (j+1)=kidsv.take (j+1) from fun e=>by
        have hxy:x=y:=eqB_iff.1 (hq.trans e)
        exact take_on hx (hxy▸hy) HL.out)
      have HFF:=Lib.hid (show q=false→z=false from fun e=>HF.out (ne_at hx hy (fun g=>by rw [eqB_yes g] at hq;rw [e] at hq;cases hq)))
      have tl:decide ((j:Int)<(n14u:Int))=true:=decide_eq_true (by omega)
      have hlt' :(j:Int)<(n14u:Int):=by omega
      have hlt2:(0:Int)≤(j:Int):=by omega
      clear hx hy hq at1 at2 in1 in2 hb1 hb2 c0 d0 c1 d1 c2 d2 c3 d3 c17 d17 c18 d18 c19 d19 c8 d8 c9 d9 c10 d10 c11 d11 c12 d12 c13 d13 c14 d14
      cases q with
      | true=>
        go_wp2
        refine wp_region_class (w₀:=w) HB.out.drew (by kernel_rfl) (by kernel_rfl) ?_
        repeat (go_big_quiet_step ((go_at_call 22;exact CW.calls (HKC.out _ (CW.h _)))))
        refine wpQuiet_nil ?_
        rintro _ ⟨s,rfl⟩
        have HB2:=Lib.hid s.h
        generalize s.val=W4 at HB2 ⊢
        go_wp2
        go_roundw
        case rel=>exact ⟨j+1,by omega,by go_num,Lib.hid (HTK.out (by first|rfl|trivial)),HB2⟩
        case measure=>simp [intOf];omega
      | false=>
        go_wp2
        refine wp_region_class (w₀:=w) HB.out.drew (by kernel_rfl) (by kernel_rfl) ?_
        repeat (go_big_quiet_step ((go_at_call 22;exact CW.calls (HKC.out _ (CW.h _)))))
        refine wpQuiet_nil ?_
        rintro _ ⟨s,rfl⟩
        have HB2:=Lib.hid s.h
        generalize s.val=W4 at HB2 ⊢
        go_wp2
        go_ret
        exact ⟨rb (HFF.out (by first|rfl|trivial)).symm,HB2.out⟩
    · have tl:decide ((j:Int)<(n14u:Int))=false:=decide_eq_false (by omega)
      obtain rfl:j=n14u:=by omega
      have HG:=Lib.hid (HE.out (take_all_eq HN.out HN2.out HL.out))
      go_wp2
      go_ret
      exact ⟨rb HG.out.symm,HB.out⟩
end Go.Proofs.YtiaomhdmllhmmaaGreatDoor.Sm
namespace Go.Proofs.YtiaomhdmllhmmaaGreatDoor.Sm
open Go.RowKit Mem Ep Right Go.ChangeShapes Go.WideShapes
set_option linter.unusedVariables false
theorem at_cel {W:World} {B:Nat} {t:TypeId} {l:List Value} (h:Cel W B t l.toArray):At W B 0 l:=fun i v hv=>by
 rw [Nat.zero_add,h.at_ i]
 simpa using hv
set_option maxHeartbeats 4000000 in
theorem stSame_any (x:St):SameD 10 stDt x:=fun y cs ds w h1 h2=>by
 obtain ⟨sku,ttu,tnu,tru,P1u,p1u,q1u,P2u,p2u,q2u,P3u,p3u,q3u,P4u,p4u,q4u,ku,ou,vku,vnu,vsu,nsu,Au,nu,cu,P5u,p5u,q5u,P6u,p6u,q6u,liu,pru,opu,P7u,p7u,q7u,rfl⟩:=st_form h1
 obtain ⟨skv,ttv,tnv,trv,P1v,p1v,q1v,P2v,p2v,q2v,P3v,p3v,q3v,P4v,p4v,q4v,kv,ov,vkv,vnv,vsv,nsv,Av,nv,cv,P5v,p5v,q5v,P6v,p6v,q6v,liv,prv,opv,P7v,p7v,q7v,rfl⟩:=st_form h2
 show Calls Tryz.prog 10 #[.agg #[.int .i64 sku, .string ttu, .string tnu, .string tru, .slice P1u p1u q1u, .slice P2u p2u q2u, .slice P3u p3u q3u, .slice P4u p4u q4u, .int .i64 ku, .int .i64 ou, .int .i64 vku, .int .i64 vnu, .string vsu, .string nsu, .slice Au nu cu, .slice P5u p5u q5u, .slice P6u p6u q6u, .int .i64 liu, .int .i64 pru, .bool opu, .slice P7u p7u q7u], .agg #[.int .i64 skv, .string ttv, .string tnv, .string trv, .slice P1v p1v q1v, .slice P2v p2v q2v, .slice P3v p3v q3v, .slice P4v p4v q4v, .int .i64 kv, .int .i64 ov, .int .i64 vkv, .int .i64 vnv, .string vsv, .string nsv, .slice Av nv cv, .slice P5v p5v q5v, .slice P6v p6v q6v, .int .i64 liv, .int .i64 prv, .bool opv, .slice P7v p7v q7v]] w _
 obtain ⟨q,hq⟩:∃q,eqB x y=q:=⟨_,rfl⟩
 rw [hq]
 obtain ⟨W,hW⟩:∃W,(w.alloc (.cells #[.int .i64 sku, .string ttu, .string tnu, .string tru, .slice P1u p1u q1u, .slice P2u p2u q2u, .slice P3u p3u q3u, .slice P4u p4u q4u, .int .i64 ku, .int .i64 ou, .int .i64 vku, .int .i64 vnu, .string vsu, .string nsu, .slice Au nu cu, .slice P5u p5u q5u, .slice P6u p6u q6u, .int .i64 liu, .int .i64 pru, .bool opu, .slice P7u p7u q7u] 35)).alloc (.cells #[.int .i64 skv, .string ttv, .string tnv, .string trv, .slice P1v p1v q1v, .slice P2v p2v q2v, .slice P3v p3v q3v, .slice P4v p4v q4v, .int .i64 kv, .int .i64 ov, .int .i64 vkv, .int .i64 vnv, .string vsv, .string nsv, .slice Av nv cv, .slice P5v p5v q5v, .slice P6v p6v q6v, .int .i64 liv, .int .i64 prv, .bool opv, .slice P7v p7v q7v] 35)=W:=⟨_,rfl⟩
 have hb:Below w.heap.size w W:=by rw [←hW];exact al (al (Below.refl _ _) _) _
 have hs1:w.heap.size<W.heap.size:=by rw [←hW];simp;omega
 have hs2:w.heap.size+1<W.heap.size:=by rw [←hW];simp
 have x1:Cel W w.heap.size 35 #[.int .i64 sku, .string ttu, .string tnu, .string tru, .slice P1u p1u q1u, .slice P2u p2u q2u, .slice P3u p3u q3u, .slice P4u p4u q4u, .int .i64 ku, .int .i64 ou, .int .i64 vku, .int .i64 vnu, .string vsu, .string nsu, .slice Au nu cu, .slice P5u p5u q5u, .slice P6u p6u q6u, .int .i64 liu, .int .i64 pru, .bool opu, .slice P7u p7u q7u]:=by rw [←hW];exact (Cel.new w _ _ rfl).alloc _
 have x2:Cel W (w.heap.size+1) 35 #[.int .i64 skv, .string ttv, .string tnv, .string trv, .slice P1v p1v q1v, .slice P2v p2v q2v, .slice P3v p3v q3v, .slice P4v p4v q4v, .int .i64 kv, .int .i64 ov, .int .i64 vkv, .int .i64 vnv, .string vsv, .string nsv, .slice Av nv cv, .slice P5v p5v q5v, .slice P6v p6v q6v, .int .i64 liv, .int .i64 prv, .bool opv, .slice P7v p7v q7v]:=by rw [←hW];exact Cel.new _ _ _ (by simp)
 have HB:=Lib.hid hb
 have HC:=Lib.hid (show Calls Tryz.prog 22 #[.pointer (some ⟨w.heap.size,0,none⟩), .pointer (some ⟨w.heap.size+1,0,none⟩)] W fun e w' =>e= .returned (.bool q)∧Below W.heap.size W w' from by
   rw [←hq]
   exact same_ptr x y _ 0 _ 0 _ _ W hs1 hs2 (DtIn.on h1 hb) (DtIn.on h2 hb) (at_cel x1) (at_cel x2))
 clear h1 h2 x1 x2 hb hs1 hs2 hq
 go_enter Tryz.func10,Tryz.ntmps10
 go_wp2_with (go_at_call 22;(with_reducible refine HC.out.mono ?_);rintro e' w2 ⟨rfl,hb2⟩;have HB2:=Lib.hid (Mem.on HB.out hb2);clear hb2)
 go_ret
 exact ⟨rfl,HB2.out⟩
end Go.Proofs.YtiaomhdmllhmmaaGreatDoor.Sm
namespace Go.Proofs.YtiaomhdmllhmmaaGreatDoor.Sm
open Go.RowKit Mem Ep Right Lx Go.ChangeShapes Go.WideShapes
set_option linter.unusedVariables false
abbrev tC:TypeId:=91
abbrev cP (B:Nat):Value:= .pointer (some ⟨B,0,none⟩)
def sel (b:Bool) (x y:Value):Value:=cond b x y
abbrev zS:Value:= .string ⟨#[]⟩
abbrev zI:Value:= .int .i64 0
abbrev zL:Value:= .slice none 0 0
structure Fl where
 sk:Int
 tt:Bs
 tn:Bs
 tr:Bs
 A4:Option Addr
 n4:Nat
 a4:Nat
 A5:Option Addr
 n5:Nat
 a5:Nat
 A6:Option Addr
 n6:Nat
 a6:Nat
 A7:Option Addr
 n7:Nat
 a7:Nat
 ek:Int
 eo:Int
 vk:Int
 vn:Int
 vs:ByteArray
 ns:ByteArray
 A8:Option Addr
 n8:Nat
 a8:Nat
 A9:Option Addr
 n9:Nat
 a9:Nat
 A10:Option Addr
 n10:Nat
 a10:Nat
 li:Int
 pr:Int
 op:Bool
 A14:Option Addr
 n14:Nat
 a14:Nat
def Fl.cells (f:Fl):List Value:= [.int .i64 f.sk, .string (txt f.tt), .string (txt f.tn), .string (txt f.tr), .slice f.A4 f.n4 f.a4, .slice f.A5 f.n5 f.a5, .slice f.A6 f.n6 f.a6, .slice f.A7 f.n7 f.a7, .int .i64 f.ek, .int .i64 f.eo, .int .i64 f.vk, .int .i64 f.vn, .string f.vs, .string f.ns, .slice f.A8 f.n8 f.a8, .slice f.A9 f.n9 f.a9, .slice f.A10 f.n10 f.a10, .int .i64 f.li, .int .i64 f.pr, .bool f.op, .slice f.A14 f.n14 f.a14]
def Fl.kept (f:Fl) (m:Mk):List Value:= [.int .i64 f.sk,sel m.t (.string (txt f.tt)) zS,sel m.n (.string (txt f.tn)) zS,sel m.r (.string (txt f.tr)) zS,sel m.co (.slice f.A4 f.n4 f.a4) zL,sel m.cn (.slice f.A5 f.n5 f.a5) zL,sel m.ns (.slice f.A6 f.n6 f.a6) zL,sel m.rw_ (.slice f.A7 f.n7 f.a7) zL,sel m.wh (.int .i64 f.ek) zI,sel m.wh (.int .i64 f.eo) zI,sel m.wh (.int .i64 f.vk) zI,sel m.wh (.int .i64 f.vn) zI,sel m.wh (.string f.vs) zS,sel m.wh (.string f.ns) zS,sel m.wh (.slice f.A8 f.n8 f.a8) zL,sel m.se (.slice f.A9 f.n9 f.a9) zL,sel m.od (.slice f.A10 f.n10 f.a10) zL,sel m.li (.int .i64 f.li) zI,sel m.pr (.int .i64 f.pr) zI,sel m.op (.bool f.op) (.bool false),sel m.kd (.slice f.A14 f.n14 f.a14) zL]
def ckA (f:Fl) (m:Mk) (er:Int):Array Value:= #[.int .i64 f.sk, .string (txt f.tt), .string (txt f.tn), .string (txt f.tr), .slice f.A4 f.n4 f.a4, .slice f.A5 f.n5 f.a5, .slice f.A6 f.n6 f.a6, .slice f.A7 f.n7 f.a7, .int .i64 f.ek, .int .i64 f.eo, .int .i64 f.vk, .int .i64 f.vn, .string f.vs, .string f.ns, .slice f.A8 f.n8 f.a8, .slice f.A9 f.n9 f.a9, .slice f.A10 f.n10 f.a10, .int .i64 f.li, .int .i64 f.pr, .bool f.op, .slice f.A14 f.n14 f.a14, .int .i64 f.sk,sel m.t (.string (txt f.tt)) zS,sel m.n (.string (txt f.tn)) zS,sel m.r (.string (txt f.tr)) zS,sel m.co (.slice f.A4 f.n4 f.a4) zL,sel m.cn (.slice f.A5 f.n5 f.a5) zL,sel m.ns (.slice f.A6 f.n6 f.a6) zL,sel m.rw_ (.slice f.A7 f.n7 f.a7) zL,sel m.wh (.int .i64 f.ek) zI,sel m.wh (.int .i64 f.eo) zI,sel m.wh (.int .i64 f.vk) zI,sel m.wh (.int .i64 f.vn) zI,sel m.wh (.string f.vs) zS,sel m.wh (.string f.ns) zS,sel m.wh (.slice f.A8 f.n8 f.a8) zL,sel m.se (.slice f.A9 f.n9 f.a9) zL,sel m.od (.slice f.A10 f.n10 f.a10) zL,sel m.li (.int .i64 f.li) zI,sel m.pr (.int .i64 f.pr) zI,sel m.op (.bool f.op) (.bool false),sel m.kd (.slice f.A14 f.n14 f.a14) zL, .int .i64 er]
theorem txt_inj {l m:List UInt8} (h:txt l=txt m):l=m:=by
 injection h with h
 simpa using h
def FlIn (w:World) (B:Nat) (f:Fl) (x:St):Prop:=DtIn w (fun b=>b<B) (stDt x) f.cells
def LsIn (w:World) (B:Nat) (A:Option Addr) (n k:Nat) (l:List Dt):Prop:=n=l.length∧n≤maxLen∧RowIn w (fun b=>b<B) A k l 0
theorem isRow_ls {w:World} {B k:Nat} {xs:List Dt} {A:Option Addr} {n c:Nat} (h:IsRow w (fun b=>b<B) k xs (.slice A n c)):LsIn w B A n k xs:=by
 obtain ⟨A',c',e,h1,h2,h3,h4⟩:=h
 injection e with e1 e2 e3
 subst e1 e2 e3
 exact ⟨rfl,Nat.le_trans h1 h2,h4⟩
theorem FlIn.below {w w' :World} {B:Nat} {f:Fl} {x:St} (h:FlIn w B f x) (hb:Below B w w'):FlIn w' B f x:=DtIn.below h hb
theorem LsIn.below {w w' :World} {B n k:Nat} {A:Option Addr} {l:List Dt} (h:LsIn w B A n k l) (hb:Below B w w'):LsIn w' B A n k l:=⟨h.1,h.2.1,RowIn.to (fun b h=>h) (fun p hp=>hb.cell hp) h.2.2⟩
set_option maxHeartbeats 1000000 in
theorem FlIn.all {w:World} {B:Nat} {f:Fl} {k:Int} {t n r:Bs} {cols:List Co} {cons:List Cn} {names:List Bs} {rows:List (List Ex)} {wh:Ex} {sets:List (Bs × Ex)} {order:List (Ex × Bool)} {limit priv:Int} {opt:Bool} {kids:List St}
   (h:FlIn w B f (.mk k t n r cols cons names rows wh sets order limit priv opt kids)):
   (f.sk=k∧f.tt=t∧f.tn=n∧f.tr=r∧f.li=limit∧f.pr=priv∧f.op=opt)∧LsIn w B f.A4 f.n4 3 (cols.map coDt)∧LsIn w B f.A5 f.n5 12 (cons.map cnDt)∧LsIn w B f.A6 f.n6 1 (names.map sDt)∧LsIn w B f.A7 f.n7 1 (rows.map exsDt)∧
   ExIn w (fun b=>b<B) wh [.int .i64 f.ek, .int .i64 f.eo, .int .i64 f.vk, .int .i64 f.vn, .string f.vs, .string f.ns, .slice f.A8 f.n8 f.a8]∧LsIn w B f.A9 f.n9 8 (sets.map seDt)∧LsIn w B f.A10 f.n10 8 (order.map orDt)∧LsIn w B f.A14 f.n14 21 (kids.map stDt):=by
 obtain ⟨u4,u5,u6,u7,e,u9,u10,u14,hc,g4,g5,g6,g7,g8,g9,g10,g14⟩:=st_in.1 h
 obtain ⟨b0,b1,b2,b3,b4,b5,b6,b7,b8,rfl⟩:=ex_form g8
 unfold Fl.cells at hc
 simp only [List.cons_append,List.nil_append,List.cons.injEq,Value.int.injEq,Value.string.injEq,Value.slice.injEq,Value.bool.injEq,true_and,and_true] at hc
 obtain ⟨e0,e1,e2,e3,e4,e5,e6,e7,e8,e9,e10,e11,e12,e13,⟨e14,e15,e16⟩,e17,e18,e19,e20,e21,e22⟩:=hc
 subst e4 e5 e6 e7 e8 e9 e10 e11 e12 e13 e14 e15 e16 e17 e18 e22
 exact ⟨⟨e0,txt_inj e1,txt_inj e2,txt_inj e3,e19,e20,e21⟩,isRow_ls g4,isRow_ls g5,isRow_ls g6,isRow_ls g7,g8,isRow_ls g9,isRow_ls g10,isRow_ls g14⟩
def Did (B:Nat) (f:Fl) (m:Mk) (er:Int) (P:Prop) (w:World) (e:Ending) (w' :World):Prop:=e= .returned (.tuple #[])∧∃er' :Int,Cel w' B tC (ckA f m er')∧Oth B w w' ∧(er' =0↔er=0∧P)
def CkE (w:World) (B:Nat):Prop:=Signs w∧0<B
theorem CkE.below {w w' :World} {B:Nat} (h:CkE w B) (hb:Below B w w'):CkE w' B:=⟨h.1.below hb h.2,h.2⟩
end Go.Proofs.YtiaomhdmllhmmaaGreatDoor.Sm
namespace Go.Proofs.YtiaomhdmllhmmaaGreatDoor.Sm
open Go.RowKit Mem Ep Right Lx Go.ChangeShapes Go.WideShapes
set_option linter.unusedVariables false
section
variable {w w' :World} {B:Nat} {f:Fl} {m:Mk} {er:Int} {P:Prop}
theorem Did.iff {Q:Prop} {e:Ending} (h:Did B f m er P w e w') (hq:P↔Q):Did B f m er Q w e w' :=by
 obtain ⟨h1,er',h2,h3,h4⟩:=h
 exact ⟨h1,er',h2,h3,by rw [h4,hq]⟩
theorem did_end {er' :Int} (h:Cel w' B tC (ckA f m er')) (ho:Oth B w w') (hq:er' =0↔er=0∧P):Did B f m er P w (.returned (.tuple #[])) w' :=⟨rfl,er',h,ho,hq⟩
set_option maxRecDepth 100000 in
theorem note_any (e:Int) (h:Cel w B tC (ckA f m er)):Calls Tryz.prog 60 #[cP B, .int .i64 e] w (Did B f m er (e=0) w):=by
 by_cases h0:e=0
 · subst h0
   have HD:=Lib.hid (did_end (er:=er) (P:=(0:Int)=0) h (Oth.refl B w) (by simp))
   clear h
   go_enter Tryz.func60,Tryz.ntmps60
   go_wp2
   go_end0
   exact HD.out
 · have c42:w.cell? ⟨B,42,none⟩=some (.int .i64 er):=h.at_ 42
   have f42:=h.open_ 42
   have t0:(e !=0)=true:=bne_yes h0
   by_cases h2:er=2
   · subst h2
     have HD:=Lib.hid (did_end (er:=2) (P:=e=0) h (Oth.refl B w) (by simp [h0]))
     clear h
     go_enter Tryz.func60,Tryz.ntmps60
     go_wp2
     go_end0
     exact HD.out
   · have t2:(er !=2)=true:=bne_yes h2
     have HD:=Lib.hid (did_end (er:=er) (er' :=e) (P:=e=0) (f:=f) (m:=m) (Cel.set h 42 (.int .i64 e)) ((Oth.refl B w).set 42 (.int .i64 e)) (by simp [h0]))
     clear h
     go_enter Tryz.func60,Tryz.ntmps60
     go_wp2
     go_end0
     exact HD.out
theorem must_any (b:Bool) (h:Cel w B tC (ckA f m er)):Calls Tryz.prog 37 #[cP B, .bool b] w (Did B f m er (b=true) w):=by
 cases b with
 | true=>
   have HD:=Lib.hid (did_end (er:=er) (P:=true=true) h (Oth.refl B w) (by simp))
   clear h
   go_enter Tryz.func37,Tryz.ntmps37
   go_wp2
   go_end0
   exact HD.out
 | false=>
   have HN:=Lib.hid (show Calls Tryz.prog 60 #[cP B, .int .i64 2] w (Did B f m er (false=true) w) from (note_any 2 h).mono fun _ _ g=>g.iff (by simp))
   clear h
   go_enter Tryz.func37,Tryz.ntmps37
   go_wp2_with (go_at_call 60;(with_reducible refine HN.out.mono ?_);rintro e1 w1 ⟨rfl,HD1⟩)
   go_end0
   exact ⟨rfl,HD1⟩
theorem lexName_any (s:ByteArray) (hs:s.size≤1000000) (h:Signs w):Calls Tryz.prog 187 #[.string s] w fun e w' =>e= .returned (.bool (decide (kindOf s.data.toList=1)))∧w=w' :=by
 obtain ⟨b,hb⟩:∃b,decide (kindOf s.data.toList=1)=b:=⟨_,rfl⟩
 have HI:=Lib.hid (show Calls Tryz.prog 199 #[.int .i64 1, .string s] w fun e w' =>e= .returned (.bool b)∧w=w' by
   refine (isToken_int 1 s hs w h).mono ?_
   rintro e w' ⟨rfl,rfl⟩
   refine ⟨?_,rfl⟩
   rw [←hb]
   congr 2
   by_cases g:kindOf s.data.toList=1
   · rw [g];rfl
   · rw [decide_eq_false g]
     refine decide_eq_false fun hh=>g ?_
     have:=hh.2
     omega)
 rw [hb]
 clear hb h hs
 go_enter Tryz.func187,Tryz.ntmps187
 go_wp2_with (go_at_call 199;(with_reducible refine HI.out.mono ?_);rintro e1 w1 ⟨rfl,rfl⟩)
 go_ret
 exact ⟨rfl,rfl⟩
theorem isName_any (l:Bs) (hl:tLim l) (h:Cel w B tC (ckA f m er)) (hE:CkE w B):Calls Tryz.prog 163 #[cP B, .string (txt l)] w (Did B f m er (isN l) w):=by
 obtain ⟨b,hb⟩:∃b,decide (kindOf (txt l).data.toList=1)=b:=⟨_,rfl⟩
 have hq:b=true↔isN l:=by
   rw [←hb,decide_eq_true_iff]
   unfold isN
   rw [show (txt l).data.toList=l by simp [txt]]
 have HI:=Lib.hid (show Calls Tryz.prog 187 #[.string (txt l)] w fun e w' =>e= .returned (.bool b)∧w=w' by
   rw [←hb]
   exact lexName_any (txt l) (by unfold tLim at hl;simpa [txt,ByteArray.size] using hl) hE.1)
 have HM:=Lib.hid (show Calls Tryz.prog 37 #[cP B, .bool b] w (Did B f m er (isN l) w) from (must_any b h).mono fun _ _ g=>g.iff hq)
 clear hb hq h hE hl
 go_enter Tryz.func163,Tryz.ntmps163
 go_wp2_with (first|(go_at_call 187;(with_reducible refine HI.out.mono ?_);rintro e1 w1 ⟨rfl,rfl⟩)|(go_at_call 37;(with_reducible refine HM.out.mono ?_);rintro e1 w1 ⟨rfl,HD1⟩))
 go_end0
 exact ⟨rfl,HD1⟩
end
end Go.Proofs.YtiaomhdmllhmmaaGreatDoor.Sm
namespace Go.Proofs.YtiaomhdmllhmmaaGreatDoor.Sm
open Go.RowKit Mem Ep Right Go.ChangeShapes Go.WideShapes
set_option linter.unusedVariables false
theorem se_at2 {w:World} {S:Nat→Prop} {A' :Option Addr} {l:List (Bs × Ex)} {j:Nat} {x:Bs × Ex} (h:RowIn w S A' 8 (l.map seDt) 0) (hx:l[j]?=some x):∃(b' o' :Nat) (k o vk vn:Int) (vs ns:ByteArray) (A:Option Addr) (n c:Nat),A' =some ⟨b',o',none⟩∧S b' ∧At w b' (o' +j*8) [.string (txt x.1), .int .i64 k, .int .i64 o, .int .i64 vk, .int .i64 vn, .string vs, .string ns, .slice A n c]∧ExIn w S x.2 [.int .i64 k, .int .i64 o, .int .i64 vk, .int .i64 vn, .string vs, .string ns, .slice A n c]:=by
 obtain ⟨b',o',cs,h1,h2,h3,h4,h5⟩:=RowIn.get h (show (l.map seDt)[j]?=some (seDt x) by rw [List.getElem?_map,hx];rfl)
 obtain ⟨e,rfl,h6⟩:=se_in.1 h5
 obtain ⟨k,o,vk,vn,vs,ns,A,n,c,rfl⟩:=ex_form h6
 have e:∀i,o' +(0+j)*8+i=o' +j*8+i:=fun i=>by omega
 exact ⟨b',o',k,o,vk,vn,vs,ns,A,n,c,h1,h2,fun i v hv=>by have:=h4 i v hv;rwa [e] at this,h6⟩
theorem or_at2 {w:World} {S:Nat→Prop} {A' :Option Addr} {l:List (Ex × Bool)} {j:Nat} {x:Ex × Bool} (h:RowIn w S A' 8 (l.map orDt) 0) (hx:l[j]?=some x):∃(b' o' :Nat) (k o vk vn:Int) (vs ns:ByteArray) (A:Option Addr) (n c:Nat),A' =some ⟨b',o',none⟩∧S b' ∧At w b' (o' +j*8) [.int .i64 k, .int .i64 o, .int .i64 vk, .int .i64 vn, .string vs, .string ns, .slice A n c, .bool x.2]∧ExIn w S x.1 [.int .i64 k, .int .i64 o, .int .i64 vk, .int .i64 vn, .string vs, .string ns, .slice A n c]:=by
 obtain ⟨b',o',cs,h1,h2,h3,h4,h5⟩:=RowIn.get h (show (l.map orDt)[j]?=some (orDt x) by rw [List.getElem?_map,hx];rfl)
 obtain ⟨e,rfl,h6⟩:=or_in.1 h5
 obtain ⟨k,o,vk,vn,vs,ns,A,n,c,rfl⟩:=ex_form h6
 have e:∀i,o' +(0+j)*8+i=o' +j*8+i:=fun i=>by omega
 exact ⟨b',o',k,o,vk,vn,vs,ns,A,n,c,h1,h2,fun i v hv=>by have:=h4 i v hv;rwa [e] at this,h6⟩
theorem ex_at2 {w:World} {S:Nat→Prop} {A' :Option Addr} {l:List Ex} {j:Nat} {x:Ex} (h:RowIn w S A' 7 (l.map exDt) 0) (hx:l[j]?=some x):∃(b' o' :Nat) (k o vk vn:Int) (vs ns:ByteArray) (A:Option Addr) (n c:Nat),A' =some ⟨b',o',none⟩∧S b' ∧At w b' (o' +j*7) [.int .i64 k, .int .i64 o, .int .i64 vk, .int .i64 vn, .string vs, .string ns, .slice A n c]∧ExIn w S x [.int .i64 k, .int .i64 o, .int .i64 vk, .int .i64 vn, .string vs, .string ns, .slice A n c]:=by
 obtain ⟨b',o',cs,h1,h2,h3,h4,h5⟩:=RowIn.get h (show (l.map exDt)[j]?=some (exDt x) by rw [List.getElem?_map,hx];rfl)
 obtain ⟨k,o,vk,vn,vs,ns,A,n,c,rfl⟩:=ex_form h5
 have e:∀i,o' +(0+j)*7+i=o' +j*7+i:=fun i=>by omega
 exact ⟨b',o',k,o,vk,vn,vs,ns,A,n,c,h1,h2,fun i v hv=>by have:=h4 i v hv;rwa [e] at this,h5⟩
end Go.Proofs.YtiaomhdmllhmmaaGreatDoor.Sm
