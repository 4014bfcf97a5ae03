/- stmt.Check: whether a statement may be. What a writer knows of a statement. -/
import Derived.Test.YtiaomhdmllhmmaaGreatDoorJ28
import Derived.Test.YtiaomhdmllhmmaaGreatDoorJ33
import Derived.Test.YtiaomhdmllhmmaaGreatDoorJ34
import Derived.Test.YtiaomhdmllhmmaaGreatDoorJ35
import Derived.Test.YtiaomhdmllhmmaaGreatDoorJ32
namespace Go.Proofs.YtiaomhdmllhmmaaGreatDoor.Sm
open Go.RowKit Mem Ep Right Lx Go.ChangeShapes Go.WideShapes
set_option linter.unusedVariables false
section
variable {w w' :World} {B:Nat} {f:Fl} {m:Mk} {er:Int}
theorem ofTable_any {k:Int} {t n r:Bs} {cols:List Co} {cons:List Cn} {names:List Bs} {rows:List (List Ex)} {wh:Ex} {sets:List (Bs × Ex)} {order:List (Ex × Bool)} {limit priv:Int} {opt:Bool} {kids:List St} (hk:k≤9) (hx:CkX w B f k t n r cols cons names rows wh sets order limit priv opt kids) (h:Cel w B tC (ckA f m0 er)):Calls Tryz.prog 56 #[cP B] w (Did B f (mOf k) er (pOf k (.mk k t n r cols cons names rows wh sets order limit priv opt kids)) w):=by
 by_cases k1:k=1
 · subst k1;exact ofTable_1 hx h
 by_cases k2:k=2
 · subst k2;exact ofTable_2 hx h
 by_cases k3:k=3
 · subst k3;exact ofTable_3 hx h
 by_cases k4:k=4
 · subst k4;exact ofTable_4 hx h
 by_cases k5:k=5
 · subst k5;exact ofTable_5 hx h
 by_cases k6:k=6
 · subst k6;exact ofTable_6 hx h
 by_cases k7:k=7
 · subst k7;exact ofTable_7 hx h
 by_cases k8:k=8
 · subst k8;exact ofTable_8 hx h
 by_cases k9:k=9
 · subst k9;exact ofTable_9 hx h
 exact ofTable_lo (by omega) hx h
theorem ofRole_any {k:Int} {t n r:Bs} {cols:List Co} {cons:List Cn} {names:List Bs} {rows:List (List Ex)} {wh:Ex} {sets:List (Bs × Ex)} {order:List (Ex × Bool)} {limit priv:Int} {opt:Bool} {kids:List St} (hk:10≤k∧k≤15) (hx:CkX w B f k t n r cols cons names rows wh sets order limit priv opt kids) (h:Cel w B tC (ckA f m0 er)):Calls Tryz.prog 57 #[cP B] w (Did B f (mOf k) er (pOf k (.mk k t n r cols cons names rows wh sets order limit priv opt kids)) w):=by
 by_cases k10:k=10
 · subst k10;exact ofRole_10 hx h
 by_cases k11:k=11
 · subst k11;exact ofRole_11 hx h
 by_cases k12:k=12
 · subst k12;exact ofRole_12 hx h
 by_cases k13:k=13
 · subst k13;exact ofRole_13 hx h
 by_cases k14:k=14
 · subst k14;exact ofRole_14 hx h
 by_cases k15:k=15
 · subst k15;exact ofRole_15 hx h
 omega
theorem ofRows_any {k:Int} {t n r:Bs} {cols:List Co} {cons:List Cn} {names:List Bs} {rows:List (List Ex)} {wh:Ex} {sets:List (Bs × Ex)} {order:List (Ex × Bool)} {limit priv:Int} {opt:Bool} {kids:List St} (hk:16≤k∧k≤19) (hx:CkX w B f k t n r cols cons names rows wh sets order limit priv opt kids) (h:Cel w B tC (ckA f m0 er)):Calls Tryz.prog 58 #[cP B] w (Did B f (mOf k) er (pOf k (.mk k t n r cols cons names rows wh sets order limit priv opt kids)) w):=by
 by_cases k16:k=16
 · subst k16;exact ofRows_16 hx h
 by_cases k17:k=17
 · subst k17;exact ofRows_17 hx h
 by_cases k18:k=18
 · subst k18;exact ofRows_18 hx h
 by_cases k19:k=19
 · subst k19;exact ofRows_19 hx h
 omega
theorem ofPlan_any {k:Int} {t n r:Bs} {cols:List Co} {cons:List Cn} {names:List Bs} {rows:List (List Ex)} {wh:Ex} {sets:List (Bs × Ex)} {order:List (Ex × Bool)} {limit priv:Int} {opt:Bool} {kids:List St} (hk:20≤k) (hx:CkX w B f k t n r cols cons names rows wh sets order limit priv opt kids) (h:Cel w B tC (ckA f m0 er)):Calls Tryz.prog 59 #[cP B] w (Did B f (mOf k) er (pOf k (.mk k t n r cols cons names rows wh sets order limit priv opt kids)) w):=by
 by_cases k20:k=20
 · subst k20;exact ofPlan_20 hx h
 by_cases k21:k=21
 · subst k21;exact ofPlan_21 hx h
 by_cases k22:k=22
 · subst k22;exact ofPlan_22 hx h
 exact ofPlan_hi (by omega) hx h
set_option maxRecDepth 100000 in
theorem fields_any {k:Int} {t n r:Bs} {cols:List Co} {cons:List Cn} {names:List Bs} {rows:List (List Ex)} {wh:Ex} {sets:List (Bs × Ex)} {order:List (Ex × Bool)} {limit priv:Int} {opt:Bool} {kids:List St} (hx:CkX w B f k t n r cols cons names rows wh sets order limit priv opt kids) (h:Cel w B tC (ckA f m0 er)):Calls Tryz.prog 36 #[cP B] w (Did B f (mOf k) er (pOf k (.mk k t n r cols cons names rows wh sets order limit priv opt kids)) w):=by
 have k0:w.cell? ⟨B,0,none⟩=some (.int .i64 k):=(show w.cell? ⟨B,0,none⟩=some (.int .i64 f.sk) from h.at_ 0).trans (by rw [hx.all.all.1.1])
 by_cases a1:k≤9
 · have t1:decide (k≤9)=true:=decide_eq_true a1
   have HI:=Lib.hid (ofTable_any a1 hx h)
   clear h hx
   go_enter Tryz.func36,Tryz.ntmps36
   go_wp2_with (go_at_call 56;(with_reducible refine HI.out.mono ?_);rintro e1 w1 ⟨rfl,HD1⟩)
   go_end0
   exact ⟨rfl,HD1⟩
 have t1:decide (k≤9)=false:=decide_eq_false a1
 by_cases a2:k≤15
 · have t2:decide (k≤15)=true:=decide_eq_true a2
   have HI:=Lib.hid (ofRole_any ⟨by omega,a2⟩ hx h)
   clear h hx
   go_enter Tryz.func36,Tryz.ntmps36
   go_wp2_with (go_at_call 57;(with_reducible refine HI.out.mono ?_);rintro e1 w1 ⟨rfl,HD1⟩)
   go_end0
   exact ⟨rfl,HD1⟩
 have t2:decide (k≤15)=false:=decide_eq_false a2
 by_cases a3:k≤19
 · have t3:decide (k≤19)=true:=decide_eq_true a3
   have HI:=Lib.hid (ofRows_any ⟨by omega,a3⟩ hx h)
   clear h hx
   go_enter Tryz.func36,Tryz.ntmps36
   go_wp2_with (go_at_call 58;(with_reducible refine HI.out.mono ?_);rintro e1 w1 ⟨rfl,HD1⟩)
   go_end0
   exact ⟨rfl,HD1⟩
 have t3:decide (k≤19)=false:=decide_eq_false a3
 have HI:=Lib.hid (ofPlan_any (by omega) hx h)
 clear h hx
 go_enter Tryz.func36,Tryz.ntmps36
 go_wp2_with (go_at_call 59;(with_reducible refine HI.out.mono ?_);rintro e1 w1 ⟨rfl,HD1⟩)
 go_end0
 exact ⟨rfl,HD1⟩
end
theorem ckA_one (f:Fl):(ckA f m0 0).all (·.oneCell')=true:=by simp [ckA,sel,m0,Value.oneCell']
set_option maxRecDepth 100000 in
set_option maxHeartbeats 8000000 in
theorem check_st:∀x:St,CheckC x:=by
  refine St.byKids fun k t n r cols cons names rows wh sets order limit priv opt kids ih=>?_
  intro cs w hx hS hf hl
  obtain ⟨f,rfl⟩:=fl_of hx
  obtain ⟨x,hxx⟩:∃x,St.mk k t n r cols cons names rows wh sets order limit priv opt kids=x:=⟨_,rfl⟩
  show Calls Tryz.prog 20 #[.agg #[.int .i64 f.sk, .string (txt f.tt), .string (txt f.tn), .string (txt f.tr), .slice f.A4 f.n4 f.a4, .slice f.A5 f.n5 f.a5, .slice f.A6 f.n6 f.a6, .slice f.A7 f.n7 f.a7, .int .i64 f.ek, .int .i64 f.eo, .int .i64 f.vk, .int .i64 f.vn, .string f.vs, .string f.ns, .slice f.A8 f.n8 f.a8, .slice f.A9 f.n9 f.a9, .slice f.A10 f.n10 f.a10, .int .i64 f.li, .int .i64 f.pr, .bool f.op, .slice f.A14 f.n14 f.a14]] w _
  obtain ⟨W0,hW0⟩:∃W,w.alloc (.cells #[.int .i64 f.sk, .string (txt f.tt), .string (txt f.tn), .string (txt f.tr), .slice f.A4 f.n4 f.a4, .slice f.A5 f.n5 f.a5, .slice f.A6 f.n6 f.a6, .slice f.A7 f.n7 f.a7, .int .i64 f.ek, .int .i64 f.eo, .int .i64 f.vk, .int .i64 f.vn, .string f.vs, .string f.ns, .slice f.A8 f.n8 f.a8, .slice f.A9 f.n9 f.a9, .slice f.A10 f.n10 f.a10, .int .i64 f.li, .int .i64 f.pr, .bool f.op, .slice f.A14 f.n14 f.a14] tSt)=W:=⟨_,rfl⟩
  obtain ⟨W1,hW1⟩:∃W,W0.alloc (.cells (ckA f m0 0) tC)=W:=⟨_,rfl⟩
  have hs0:W0.heap.size=w.heap.size+1:=by rw [←hW0];simp
  have hb0:Below w.heap.size w W0:=by rw [←hW0];exact al (Below.refl _ _) _
  have hb:Below w.heap.size w W1:=by rw [←hW1];exact al hb0 _
  have x0:Cel W0 w.heap.size tSt f.cells.toArray:=by rw [←hW0];exact Cel.new w _ _ rfl
  have y0:W0.cell? ⟨w.heap.size,0,none⟩=some (.int .i64 f.sk):=x0.at_ 0
  have h1:Cel W1 W0.heap.size tC (ckA f m0 0):=by rw [←hW1];exact Cel.new W0 _ _ rfl
  have hB:0<W0.heap.size:=by have:=hS.lt;omega
  have hf1:FlIn W1 W0.heap.size f (.mk k t n r cols cons names rows wh sets order limit priv opt kids):=DtIn.to (w:=w) (w' :=W1) (S:=fun b=>b<w.heap.size) (S' :=fun b=>b<W0.heap.size) (fun b g=>by omega) (fun p hp=>hb.cell hp) _ _ hx
  have HX1:CkX W1 W0.heap.size f k t n r cols cons names rows wh sets order limit priv opt kids:=⟨⟨hS.below hb hS.lt,hB⟩,hf1,hf,hl,ih⟩
  have HF:=Lib.hid (show Calls Tryz.prog 36 #[cP W0.heap.size] W1 (Did W0.heap.size f (mOf k) 0 (pOf k x) W1) from by rw [←hxx];exact fields_any HX1 h1)
  obtain ⟨M,hM⟩:∃M,mOf k=M:=⟨_,rfl⟩
  have HZ:=Lib.hid (show ∀w1 er1,Cel w1 W0.heap.size tC (ckA f M er1)→Oth W0.heap.size W1 w1→(er1=0↔(0:Int)=0∧pOf k x)→∃s:Bool,
      Calls Tryz.prog 10 #[.agg f.cells.toArray, .agg (f.kept M).toArray] w1 (fun e w' =>e= .returned (.bool s)∧Below w1.heap.size w1 w')∧
      ∀w2,Below w1.heap.size w1 w2→Calls Tryz.prog 37 #[cP W0.heap.size, .bool s] w2 (fun e w' =>e= .returned (.tuple #[])∧∃q:Int,w'.cell? ⟨W0.heap.size,42,none⟩=some (.int .i64 q)∧(q=0↔OkS x)∧Below w.heap.size w w') from fun w1 er1 g1 g2 g3=>by
    refine ⟨eqB x (keep M x),?_,?_⟩
    · have g4:DtIn w1 (fun b=>b<w1.heap.size) (stDt x) f.cells:=by
        rw [←hxx]
        exact DtIn.to (w:=W1) (w' :=w1) (S:=fun b=>b<W0.heap.size) (S' :=fun b=>b<w1.heap.size) (fun b g=>Nat.lt_trans g g1.lt) (fun p hp=>g2.1.cell hp) _ _ hf1
      exact stSame_any x (keep M x) f.cells (f.kept M) w1 g4 (keep_in M g4)
    · intro w2 hw
      refine (must_any _ (g1.below hw)).mono fun e w' d=>?_
      obtain ⟨rfl,q,d1,d2,d3⟩:=d
      refine ⟨rfl,q,d1.at_ 42,?_,?_⟩
      · rw [d3,g3,eqB_iff,ok_iff,←hxx,←hM]
        exact ⟨fun g=>⟨g.1.2,g.2⟩,fun g=>⟨⟨rfl,g.1⟩,g.2⟩⟩
      · have b1:Below w.heap.size w w1:=hb.trans (g2.1.mono (by omega))
        have b2:Below w.heap.size w w2:=b1.trans (hw.mono b1.size)
        exact b2.trans (d2.1.mono (by omega)))
  rw [hM] at HF
  have HS0:=Lib.hid hs0
  have HX0:=Lib.hid x0
  clear hs0 hb0 hb x0 h1 hB hf1 HX1 hx hS hf hl ih hM
  have HW0:=Lib.hid hW0
  have HXX:=Lib.hid hxx
  clear hxx
  have HW1:=Lib.hid hW1
  clear hW1
  go_enter Tryz.func20,Tryz.ntmps20
  go_wp2_with (first|(refine load_stmt rfl _ rfl w.heap.size 0 rfl [.int .i64 f.sk, .string (txt f.tt), .string (txt f.tn), .string (txt f.tr), .slice f.A4 f.n4 f.a4, .slice f.A5 f.n5 f.a5, .slice f.A6 f.n6 f.a6, .slice f.A7 f.n7 f.a7, .int .i64 f.ek, .int .i64 f.eo, .int .i64 f.vk, .int .i64 f.vn, .string f.vs, .string f.ns, .slice f.A8 f.n8 f.a8, .slice f.A9 f.n9 f.a9, .slice f.A10 f.n10 f.a10, .int .i64 f.li, .int .i64 f.pr, .bool f.op, .slice f.A14 f.n14 f.a14] (at_cel HX0.out) rfl ?_)|(refine wpList_store_new rfl tC _ _ rfl W0 _ (ckA f m0 0) rfl rfl checker_size rfl (ckA_one f) ?_;rw [HW1.out])|(go_at_call 36;(with_reducible refine HF.out.mono ?_);rintro e1 w1 ⟨rfl,er1,hC,hO,hq⟩;obtain ⟨s,HSM,HMU⟩:=HZ.out w1 er1 hC hO hq;have HSM:=Lib.hid HSM;have HMU:=Lib.hid HMU;have HA1:=Lib.hid (ck_from hC);have HA2:=Lib.hid (ck_kept hC);clear hC hO hq)|(refine load_stmt rfl _ rfl W0.heap.size 0 rfl f.cells HA1.out rfl ?_)|(refine load_stmt rfl _ rfl W0.heap.size 21 rfl (f.kept M) HA2.out rfl ?_)|(go_at_call 10;(with_reducible refine HSM.out.mono ?_);rintro e2 w2 ⟨rfl,hb2⟩;have HM2:=Lib.hid (HMU.out w2 hb2);clear hb2)|(go_at_call 37;(with_reducible refine HM2.out.mono ?_);rintro e3 w3 ⟨rfl,q,z0,z1,z2⟩;have HQ:=Lib.hid z1;have HBL:=Lib.hid z2;clear z1 z2))
  go_ret
  exact ⟨q,rfl,by rw [HXX.out];exact HQ.out,HBL.out⟩
end Go.Proofs.YtiaomhdmllhmmaaGreatDoor.Sm
namespace Go.Proofs.YtiaomhdmllhmmaaGreatDoor.Sm
open Go.RowKit Mem Ep Right Lx Go.ChangeShapes Go.WideShapes
set_option linter.unusedVariables false
def ExOf (cons:List Cn) (rows:List (List Ex)) (wh:Ex) (sets:List (Bs × Ex)) (order:List (Ex × Bool)) (e:Ex):Prop:=(∃x∈cons,e=x.chk) ∨ (∃x∈rows,e∈x) ∨ e=wh ∨ (∃x∈sets,e=x.2) ∨ (∃x∈order,e=x.1)
structure WX (w:World) (b:Nat) (f:Fl) (k:Int) (t n r:Bs) (cols:List Co) (cons:List Cn) (names:List Bs) (rows:List (List Ex)) (wh:Ex) (sets:List (Bs × Ex)) (order:List (Ex × Bool)) (limit priv:Int) (opt:Bool) (kids:List St):Prop where
 env:WrE w b
 all:FlIn w b f (.mk k t n r cols cons names rows wh sets order limit priv opt kids)
 exs:∀e,ExOf cons rows wh sets order e→Lo e→ExW w b e
section
variable {w w' :World} {b:Nat} {f:Fl} {k:Int} {t n r:Bs} {cols:List Co} {cons:List Cn} {names:List Bs} {rows:List (List Ex)} {wh:Ex} {sets:List (Bs × Ex)} {order:List (Ex × Bool)} {limit priv:Int} {opt:Bool} {kids:List St}
theorem WX.to (h:WX w b f k t n r cols cons names rows wh sets order limit priv opt kids) (hr:Wr b w w'):WX w' b f k t n r cols cons names rows wh sets order limit priv opt kids:=⟨h.env.below hr.1,h.all.below hr.1,fun e he hl=>(h.exs e he hl).to hr⟩
theorem FlIn.nms {B:Nat} (h:FlIn w B f (.mk k t n r cols cons names rows wh sets order limit priv opt kids)):IsRow w (fun b=>b<B) 1 (names.map sDt) (.slice f.A6 f.n6 f.a6):=by
 obtain ⟨u4,u5,u6,u7,e,u9,u10,u14,hc,g4,g5,g6,g7,g8,g9,g10,g14⟩:=st_in.1 h
 obtain ⟨b0,b1,b2,b3,b4,b5,b6,b7,b8,rfl⟩:=ex_form g8
 unfold Fl.cells at hc
 simp only [List.cons_append,List.nil_append,List.cons.injEq] at hc
 obtain ⟨-, -, -, -, -, -,e6, -⟩:=hc
 rw [e6]
 exact g6
end
def csP (l:List Cn):List Pc:=l.flatMap fun x=>C 44::none::cnP x
theorem sep_cs:∀(a:List (List Pc)) (l:List Cn),a≠ []→sep (a++l.map cnP)=sep a++csP l
 |a, [],h=>by rw [List.map_nil,List.append_nil];show sep a=sep a++ [];rw [List.append_nil]
 | a,x::l,h=>by
   have hh:=sep_cs (a++ [cnP x]) l (by simp)
   rw [List.append_assoc,List.singleton_append] at hh
   rw [List.map_cons,hh,sep_snoc a _ h]
   show _=sep a++((C 44::none::cnP x)++csP l)
   rw [List.append_assoc]
theorem tcs_on {l:List Cn} {j:Nat} {x:Cn} (hx:l[j]?=some x):tx (csP (l.take (j+1)))=tx (csP (l.take j))++([44,32]++tx (cnP x)):=by
 rw [List.take_add_one,hx]
 unfold csP
 rw [List.flatMap_append,tx_app]
 show _++tx ((C 44::none::cnP x)++ [])=_
 rw [List.append_nil]
 rfl
theorem tcs_le {l:List Cn} {j:Nat}:(tx (csP (l.take j))).length≤(tx (csP l)).length:=by
 conv=>rhs;rw [←List.take_append_drop j l]
 unfold csP
 rw [List.flatMap_append,tx_app,List.length_append]
 omega
end Go.Proofs.YtiaomhdmllhmmaaGreatDoor.Sm
