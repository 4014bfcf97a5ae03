/- Two statements are not one: by what differs first (2). Two statements are not one: by what differs first (3). Two statements are not one: by what differs first (4). -/
import Derived.Test.YtiaomhdmllhmmaaGreatDoorK16
namespace Go.Proofs.YtiaomhdmllhmmaaGreatDoor.Sm
open Go.RowKit Mem Ep Right Go.ChangeShapes Go.WideShapes
set_option linter.unusedVariables false
set_option maxHeartbeats 4000000 in
theorem same_no3 (sku liu pru:Int) (ttu tnu tru:Bs) (opu:Bool) (A4u:Option Addr) (n4u a4u:Nat) (A5u:Option Addr) (n5u a5u:Nat) (A6u:Option Addr) (n6u a6u:Nat) (A7u:Option Addr) (n7u a7u:Nat) (A9u:Option Addr) (n9u a9u:Nat) (A10u:Option Addr) (n10u a10u:Nat) (A14u:Option Addr) (n14u a14u:Nat) (ku ou vku vnu:Int) (vsu nsu:ByteArray) (Bu:Option Addr) (mu du:Nat) (skv liv prv:Int) (ttv tnv trv:Bs) (opv:Bool) (A4v:Option Addr) (n4v a4v:Nat) (A5v:Option Addr) (n5v a5v:Nat) (A6v:Option Addr) (n6v a6v:Nat) (A7v:Option Addr) (n7v a7v:Nat) (A9v:Option Addr) (n9v a9v:Nat) (A10v:Option Addr) (n10v a10v:Nat) (A14v:Option Addr) (n14v a14v:Nat) (kv ov vkv vnv:Int) (vsv nsv:ByteArray) (Bv:Option Addr) (mv dv:Nat) (ba oa bb ob:Nat) (w:World) (hba:ba<w.heap.size) (hbb:bb<w.heap.size) (p1:At w ba oa [.int .i64 sku, .string (txt ttu), .string (txt tnu), .string (txt tru), .slice A4u n4u a4u, .slice A5u n5u a5u, .slice A6u n6u a6u, .slice A7u n7u a7u, .int .i64 ku, .int .i64 ou, .int .i64 vku, .int .i64 vnu, .string vsu, .string nsu, .slice Bu mu du, .slice A9u n9u a9u, .slice A10u n10u a10u, .int .i64 liu, .int .i64 pru, .bool opu, .slice A14u n14u a14u]) (p2:At w bb ob [.int .i64 sku, .string (txt ttu), .string (txt tnu), .string (txt trv), .slice A4v n4v a4v, .slice A5v n5v a5v, .slice A6v n6v a6v, .slice A7v n7v a7v, .int .i64 kv, .int .i64 ov, .int .i64 vkv, .int .i64 vnv, .string vsv, .string nsv, .slice Bv mv dv, .slice A9v n9v a9v, .slice A10v n10v a10v, .int .i64 liv, .int .i64 prv, .bool opv, .slice A14v n14v a14v]) (e0:trv≠tru):
   Calls Tryz.prog 22 #[.pointer (some ⟨ba,oa,none⟩), .pointer (some ⟨bb,ob,none⟩)] w fun e w' =>e= .returned (.bool false)∧Below w.heap.size w w' :=by
 have c0:∀s:CW w,s.val.cell? ⟨ba,oa,none⟩=some (.int .i64 sku):=fun s=>(s.h.cell (p:=⟨ba,oa,none⟩) hba).trans (p1 0 _ rfl)
 have d0:∀s:CW w,s.val.cell? ⟨bb,ob,none⟩=some (.int .i64 sku):=fun s=>(s.h.cell (p:=⟨bb,ob,none⟩) hbb).trans (p2 0 _ rfl)
 have c1:∀s:CW w,s.val.cell? ⟨ba,oa+1,none⟩=some (.string (txt ttu)):=fun s=>(s.h.cell (p:=⟨ba,oa+1,none⟩) hba).trans (p1 1 _ rfl)
 have d1:∀s:CW w,s.val.cell? ⟨bb,ob+1,none⟩=some (.string (txt ttu)):=fun s=>(s.h.cell (p:=⟨bb,ob+1,none⟩) hbb).trans (p2 1 _ rfl)
 have c2:∀s:CW w,s.val.cell? ⟨ba,oa+2,none⟩=some (.string (txt tnu)):=fun s=>(s.h.cell (p:=⟨ba,oa+2,none⟩) hba).trans (p1 2 _ rfl)
 have d2:∀s:CW w,s.val.cell? ⟨bb,ob+2,none⟩=some (.string (txt tnu)):=fun s=>(s.h.cell (p:=⟨bb,ob+2,none⟩) hbb).trans (p2 2 _ rfl)
 have c3:∀s:CW w,s.val.cell? ⟨ba,oa+3,none⟩=some (.string (txt tru)):=fun s=>(s.h.cell (p:=⟨ba,oa+3,none⟩) hba).trans (p1 3 _ rfl)
 have d3:∀s:CW w,s.val.cell? ⟨bb,ob+3,none⟩=some (.string (txt trv)):=fun s=>(s.h.cell (p:=⟨bb,ob+3,none⟩) hbb).trans (p2 3 _ rfl)
 clear p1 p2 hba hbb
 obtain ⟨t3,t4,t5⟩:=txt_ne (Ne.symm e0)
 clear e0
 go_enter Tryz.func22,Tryz.ntmps22
 go_upto_region 1 with fail
 simp only [List.append_eq,List.cons_append,List.nil_append]
 refine wp_region_class (w₀:=w) (Below.refl _ _).drew (by kernel_rfl) (Eq.trans (b:=Region.lexB .any ops_same) (by kernel_rfl) same_lexB) ?_
 repeat (go_big_quiet_step (first|fail))
 refine wpQuiet_nil ?_
 rintro _ ⟨s,rfl⟩
 have HB:=Lib.hid s.h
 generalize s.val=W3 at HB ⊢
 go_wp2
 go_ret
 exact ⟨rfl,HB.out⟩
set_option maxHeartbeats 4000000 in
theorem same_no4 (sku liu pru:Int) (ttu tnu tru:Bs) (opu:Bool) (A4u:Option Addr) (n4u a4u:Nat) (A5u:Option Addr) (n5u a5u:Nat) (A6u:Option Addr) (n6u a6u:Nat) (A7u:Option Addr) (n7u a7u:Nat) (A9u:Option Addr) (n9u a9u:Nat) (A10u:Option Addr) (n10u a10u:Nat) (A14u:Option Addr) (n14u a14u:Nat) (ku ou vku vnu:Int) (vsu nsu:ByteArray) (Bu:Option Addr) (mu du:Nat) (skv liv prv:Int) (ttv tnv trv:Bs) (opv:Bool) (A4v:Option Addr) (n4v a4v:Nat) (A5v:Option Addr) (n5v a5v:Nat) (A6v:Option Addr) (n6v a6v:Nat) (A7v:Option Addr) (n7v a7v:Nat) (A9v:Option Addr) (n9v a9v:Nat) (A10v:Option Addr) (n10v a10v:Nat) (A14v:Option Addr) (n14v a14v:Nat) (kv ov vkv vnv:Int) (vsv nsv:ByteArray) (Bv:Option Addr) (mv dv:Nat) (ba oa bb ob:Nat) (w:World) (hba:ba<w.heap.size) (hbb:bb<w.heap.size) (p1:At w ba oa [.int .i64 sku, .string (txt ttu), .string (txt tnu), .string (txt tru), .slice A4u n4u a4u, .slice A5u n5u a5u, .slice A6u n6u a6u, .slice A7u n7u a7u, .int .i64 ku, .int .i64 ou, .int .i64 vku, .int .i64 vnu, .string vsu, .string nsu, .slice Bu mu du, .slice A9u n9u a9u, .slice A10u n10u a10u, .int .i64 liu, .int .i64 pru, .bool opu, .slice A14u n14u a14u]) (p2:At w bb ob [.int .i64 sku, .string (txt ttu), .string (txt tnu), .string (txt tru), .slice A4v n4v a4v, .slice A5v n5v a5v, .slice A6v n6v a6v, .slice A7v n7v a7v, .int .i64 kv, .int .i64 ov, .int .i64 vkv, .int .i64 vnv, .string vsv, .string nsv, .slice Bv mv dv, .slice A9v n9v a9v, .slice A10v n10v a10v, .int .i64 liv, .int .i64 prv, .bool opv, .slice A14v n14v a14v]) (e0:liv≠liu):
   Calls Tryz.prog 22 #[.pointer (some ⟨ba,oa,none⟩), .pointer (some ⟨bb,ob,none⟩)] w fun e w' =>e= .returned (.bool false)∧Below w.heap.size w w' :=by
 have c0:∀s:CW w,s.val.cell? ⟨ba,oa,none⟩=some (.int .i64 sku):=fun s=>(s.h.cell (p:=⟨ba,oa,none⟩) hba).trans (p1 0 _ rfl)
 have d0:∀s:CW w,s.val.cell? ⟨bb,ob,none⟩=some (.int .i64 sku):=fun s=>(s.h.cell (p:=⟨bb,ob,none⟩) hbb).trans (p2 0 _ rfl)
 have c1:∀s:CW w,s.val.cell? ⟨ba,oa+1,none⟩=some (.string (txt ttu)):=fun s=>(s.h.cell (p:=⟨ba,oa+1,none⟩) hba).trans (p1 1 _ rfl)
 have d1:∀s:CW w,s.val.cell? ⟨bb,ob+1,none⟩=some (.string (txt ttu)):=fun s=>(s.h.cell (p:=⟨bb,ob+1,none⟩) hbb).trans (p2 1 _ rfl)
 have c2:∀s:CW w,s.val.cell? ⟨ba,oa+2,none⟩=some (.string (txt tnu)):=fun s=>(s.h.cell (p:=⟨ba,oa+2,none⟩) hba).trans (p1 2 _ rfl)
 have d2:∀s:CW w,s.val.cell? ⟨bb,ob+2,none⟩=some (.string (txt tnu)):=fun s=>(s.h.cell (p:=⟨bb,ob+2,none⟩) hbb).trans (p2 2 _ rfl)
 have c3:∀s:CW w,s.val.cell? ⟨ba,oa+3,none⟩=some (.string (txt tru)):=fun s=>(s.h.cell (p:=⟨ba,oa+3,none⟩) hba).trans (p1 3 _ rfl)
 have d3:∀s:CW w,s.val.cell? ⟨bb,ob+3,none⟩=some (.string (txt tru)):=fun s=>(s.h.cell (p:=⟨bb,ob+3,none⟩) hbb).trans (p2 3 _ rfl)
 have c17:∀s:CW w,s.val.cell? ⟨ba,oa+17,none⟩=some (.int .i64 liu):=fun s=>(s.h.cell (p:=⟨ba,oa+17,none⟩) hba).trans (p1 17 _ rfl)
 have d17:∀s:CW w,s.val.cell? ⟨bb,ob+17,none⟩=some (.int .i64 liv):=fun s=>(s.h.cell (p:=⟨bb,ob+17,none⟩) hbb).trans (p2 17 _ rfl)
 clear p1 p2 hba hbb
 have e1:=Ne.symm e0
 have t1:(liu !=liv)=true:=bne_yes e1
 clear e0
 go_enter Tryz.func22,Tryz.ntmps22
 go_upto_region 1 with fail
 simp only [List.append_eq,List.cons_append,List.nil_append]
 refine wp_region_class (w₀:=w) (Below.refl _ _).drew (by kernel_rfl) (Eq.trans (b:=Region.lexB .any ops_same) (by kernel_rfl) same_lexB) ?_
 repeat (go_big_quiet_step (first|fail))
 refine wpQuiet_nil ?_
 rintro _ ⟨s,rfl⟩
 have HB:=Lib.hid s.h
 generalize s.val=W3 at HB ⊢
 go_wp2
 go_ret
 exact ⟨rfl,HB.out⟩
set_option maxHeartbeats 4000000 in
theorem same_no5 (sku liu pru:Int) (ttu tnu tru:Bs) (opu:Bool) (A4u:Option Addr) (n4u a4u:Nat) (A5u:Option Addr) (n5u a5u:Nat) (A6u:Option Addr) (n6u a6u:Nat) (A7u:Option Addr) (n7u a7u:Nat) (A9u:Option Addr) (n9u a9u:Nat) (A10u:Option Addr) (n10u a10u:Nat) (A14u:Option Addr) (n14u a14u:Nat) (ku ou vku vnu:Int) (vsu nsu:ByteArray) (Bu:Option Addr) (mu du:Nat) (skv liv prv:Int) (ttv tnv trv:Bs) (opv:Bool) (A4v:Option Addr) (n4v a4v:Nat) (A5v:Option Addr) (n5v a5v:Nat) (A6v:Option Addr) (n6v a6v:Nat) (A7v:Option Addr) (n7v a7v:Nat) (A9v:Option Addr) (n9v a9v:Nat) (A10v:Option Addr) (n10v a10v:Nat) (A14v:Option Addr) (n14v a14v:Nat) (kv ov vkv vnv:Int) (vsv nsv:ByteArray) (Bv:Option Addr) (mv dv:Nat) (ba oa bb ob:Nat) (w:World) (hba:ba<w.heap.size) (hbb:bb<w.heap.size) (p1:At w ba oa [.int .i64 sku, .string (txt ttu), .string (txt tnu), .string (txt tru), .slice A4u n4u a4u, .slice A5u n5u a5u, .slice A6u n6u a6u, .slice A7u n7u a7u, .int .i64 ku, .int .i64 ou, .int .i64 vku, .int .i64 vnu, .string vsu, .string nsu, .slice Bu mu du, .slice A9u n9u a9u, .slice A10u n10u a10u, .int .i64 liu, .int .i64 pru, .bool opu, .slice A14u n14u a14u]) (p2:At w bb ob [.int .i64 sku, .string (txt ttu), .string (txt tnu), .string (txt tru), .slice A4v n4v a4v, .slice A5v n5v a5v, .slice A6v n6v a6v, .slice A7v n7v a7v, .int .i64 kv, .int .i64 ov, .int .i64 vkv, .int .i64 vnv, .string vsv, .string nsv, .slice Bv mv dv, .slice A9v n9v a9v, .slice A10v n10v a10v, .int .i64 liu, .int .i64 prv, .bool opv, .slice A14v n14v a14v]) (e0:prv≠pru):
   Calls Tryz.prog 22 #[.pointer (some ⟨ba,oa,none⟩), .pointer (some ⟨bb,ob,none⟩)] w fun e w' =>e= .returned (.bool false)∧Below w.heap.size w w' :=by
 have c0:∀s:CW w,s.val.cell? ⟨ba,oa,none⟩=some (.int .i64 sku):=fun s=>(s.h.cell (p:=⟨ba,oa,none⟩) hba).trans (p1 0 _ rfl)
 have d0:∀s:CW w,s.val.cell? ⟨bb,ob,none⟩=some (.int .i64 sku):=fun s=>(s.h.cell (p:=⟨bb,ob,none⟩) hbb).trans (p2 0 _ rfl)
 have c1:∀s:CW w,s.val.cell? ⟨ba,oa+1,none⟩=some (.string (txt ttu)):=fun s=>(s.h.cell (p:=⟨ba,oa+1,none⟩) hba).trans (p1 1 _ rfl)
 have d1:∀s:CW w,s.val.cell? ⟨bb,ob+1,none⟩=some (.string (txt ttu)):=fun s=>(s.h.cell (p:=⟨bb,ob+1,none⟩) hbb).trans (p2 1 _ rfl)
 have c2:∀s:CW w,s.val.cell? ⟨ba,oa+2,none⟩=some (.string (txt tnu)):=fun s=>(s.h.cell (p:=⟨ba,oa+2,none⟩) hba).trans (p1 2 _ rfl)
 have d2:∀s:CW w,s.val.cell? ⟨bb,ob+2,none⟩=some (.string (txt tnu)):=fun s=>(s.h.cell (p:=⟨bb,ob+2,none⟩) hbb).trans (p2 2 _ rfl)
 have c3:∀s:CW w,s.val.cell? ⟨ba,oa+3,none⟩=some (.string (txt tru)):=fun s=>(s.h.cell (p:=⟨ba,oa+3,none⟩) hba).trans (p1 3 _ rfl)
 have d3:∀s:CW w,s.val.cell? ⟨bb,ob+3,none⟩=some (.string (txt tru)):=fun s=>(s.h.cell (p:=⟨bb,ob+3,none⟩) hbb).trans (p2 3 _ rfl)
 have c17:∀s:CW w,s.val.cell? ⟨ba,oa+17,none⟩=some (.int .i64 liu):=fun s=>(s.h.cell (p:=⟨ba,oa+17,none⟩) hba).trans (p1 17 _ rfl)
 have d17:∀s:CW w,s.val.cell? ⟨bb,ob+17,none⟩=some (.int .i64 liu):=fun s=>(s.h.cell (p:=⟨bb,ob+17,none⟩) hbb).trans (p2 17 _ rfl)
 have c18:∀s:CW w,s.val.cell? ⟨ba,oa+18,none⟩=some (.int .i64 pru):=fun s=>(s.h.cell (p:=⟨ba,oa+18,none⟩) hba).trans (p1 18 _ rfl)
 have d18:∀s:CW w,s.val.cell? ⟨bb,ob+18,none⟩=some (.int .i64 prv):=fun s=>(s.h.cell (p:=⟨bb,ob+18,none⟩) hbb).trans (p2 18 _ rfl)
 clear p1 p2 hba hbb
 have e1:=Ne.symm e0
 have t1:(pru !=prv)=true:=bne_yes e1
 clear e0
 go_enter Tryz.func22,Tryz.ntmps22
 go_upto_region 1 with fail
 simp only [List.append_eq,List.cons_append,List.nil_append]
 refine wp_region_class (w₀:=w) (Below.refl _ _).drew (by kernel_rfl) (Eq.trans (b:=Region.lexB .any ops_same) (by kernel_rfl) same_lexB) ?_
 repeat (go_big_quiet_step (first|fail))
 refine wpQuiet_nil ?_
 rintro _ ⟨s,rfl⟩
 have HB:=Lib.hid s.h
 generalize s.val=W3 at HB ⊢
 go_wp2
 go_ret
 exact ⟨rfl,HB.out⟩
end Go.Proofs.YtiaomhdmllhmmaaGreatDoor.Sm
namespace Go.Proofs.YtiaomhdmllhmmaaGreatDoor.Sm
open Go.RowKit Mem Ep Right Go.ChangeShapes Go.WideShapes
set_option linter.unusedVariables false
set_option maxHeartbeats 4000000 in
theorem same_no6 (sku liu pru:Int) (ttu tnu tru:Bs) (opu:Bool) (A4u:Option Addr) (n4u a4u:Nat) (A5u:Option Addr) (n5u a5u:Nat) (A6u:Option Addr) (n6u a6u:Nat) (A7u:Option Addr) (n7u a7u:Nat) (A9u:Option Addr) (n9u a9u:Nat) (A10u:Option Addr) (n10u a10u:Nat) (A14u:Option Addr) (n14u a14u:Nat) (ku ou vku vnu:Int) (vsu nsu:ByteArray) (Bu:Option Addr) (mu du:Nat) (skv liv prv:Int) (ttv tnv trv:Bs) (opv:Bool) (A4v:Option Addr) (n4v a4v:Nat) (A5v:Option Addr) (n5v a5v:Nat) (A6v:Option Addr) (n6v a6v:Nat) (A7v:Option Addr) (n7v a7v:Nat) (A9v:Option Addr) (n9v a9v:Nat) (A10v:Option Addr) (n10v a10v:Nat) (A14v:Option Addr) (n14v a14v:Nat) (kv ov vkv vnv:Int) (vsv nsv:ByteArray) (Bv:Option Addr) (mv dv:Nat) (ba oa bb ob:Nat) (w:World) (hba:ba<w.heap.size) (hbb:bb<w.heap.size) (p1:At w ba oa [.int .i64 sku, .string (txt ttu), .string (txt tnu), .string (txt tru), .slice A4u n4u a4u, .slice A5u n5u a5u, .slice A6u n6u a6u, .slice A7u n7u a7u, .int .i64 ku, .int .i64 ou, .int .i64 vku, .int .i64 vnu, .string vsu, .string nsu, .slice Bu mu du, .slice A9u n9u a9u, .slice A10u n10u a10u, .int .i64 liu, .int .i64 pru, .bool opu, .slice A14u n14u a14u]) (p2:At w bb ob [.int .i64 sku, .string (txt ttu), .string (txt tnu), .string (txt tru), .slice A4v n4v a4v, .slice A5v n5v a5v, .slice A6v n6v a6v, .slice A7v n7v a7v, .int .i64 kv, .int .i64 ov, .int .i64 vkv, .int .i64 vnv, .string vsv, .string nsv, .slice Bv mv dv, .slice A9v n9v a9v, .slice A10v n10v a10v, .int .i64 liu, .int .i64 pru, .bool opv, .slice A14v n14v a14v]) (e0:opv≠opu):
   Calls Tryz.prog 22 #[.pointer (some ⟨ba,oa,none⟩), .pointer (some ⟨bb,ob,none⟩)] w fun e w' =>e= .returned (.bool false)∧Below w.heap.size w w' :=by
 have c0:∀s:CW w,s.val.cell? ⟨ba,oa,none⟩=some (.int .i64 sku):=fun s=>(s.h.cell (p:=⟨ba,oa,none⟩) hba).trans (p1 0 _ rfl)
 have d0:∀s:CW w,s.val.cell? ⟨bb,ob,none⟩=some (.int .i64 sku):=fun s=>(s.h.cell (p:=⟨bb,ob,none⟩) hbb).trans (p2 0 _ rfl)
 have c1:∀s:CW w,s.val.cell? ⟨ba,oa+1,none⟩=some (.string (txt ttu)):=fun s=>(s.h.cell (p:=⟨ba,oa+1,none⟩) hba).trans (p1 1 _ rfl)
 have d1:∀s:CW w,s.val.cell? ⟨bb,ob+1,none⟩=some (.string (txt ttu)):=fun s=>(s.h.cell (p:=⟨bb,ob+1,none⟩) hbb).trans (p2 1 _ rfl)
 have c2:∀s:CW w,s.val.cell? ⟨ba,oa+2,none⟩=some (.string (txt tnu)):=fun s=>(s.h.cell (p:=⟨ba,oa+2,none⟩) hba).trans (p1 2 _ rfl)
 have d2:∀s:CW w,s.val.cell? ⟨bb,ob+2,none⟩=some (.string (txt tnu)):=fun s=>(s.h.cell (p:=⟨bb,ob+2,none⟩) hbb).trans (p2 2 _ rfl)
 have c3:∀s:CW w,s.val.cell? ⟨ba,oa+3,none⟩=some (.string (txt tru)):=fun s=>(s.h.cell (p:=⟨ba,oa+3,none⟩) hba).trans (p1 3 _ rfl)
 have d3:∀s:CW w,s.val.cell? ⟨bb,ob+3,none⟩=some (.string (txt tru)):=fun s=>(s.h.cell (p:=⟨bb,ob+3,none⟩) hbb).trans (p2 3 _ rfl)
 have c17:∀s:CW w,s.val.cell? ⟨ba,oa+17,none⟩=some (.int .i64 liu):=fun s=>(s.h.cell (p:=⟨ba,oa+17,none⟩) hba).trans (p1 17 _ rfl)
 have d17:∀s:CW w,s.val.cell? ⟨bb,ob+17,none⟩=some (.int .i64 liu):=fun s=>(s.h.cell (p:=⟨bb,ob+17,none⟩) hbb).trans (p2 17 _ rfl)
 have c18:∀s:CW w,s.val.cell? ⟨ba,oa+18,none⟩=some (.int .i64 pru):=fun s=>(s.h.cell (p:=⟨ba,oa+18,none⟩) hba).trans (p1 18 _ rfl)
 have d18:∀s:CW w,s.val.cell? ⟨bb,ob+18,none⟩=some (.int .i64 pru):=fun s=>(s.h.cell (p:=⟨bb,ob+18,none⟩) hbb).trans (p2 18 _ rfl)
 have c19:∀s:CW w,s.val.cell? ⟨ba,oa+19,none⟩=some (.bool opu):=fun s=>(s.h.cell (p:=⟨ba,oa+19,none⟩) hba).trans (p1 19 _ rfl)
 have d19:∀s:CW w,s.val.cell? ⟨bb,ob+19,none⟩=some (.bool opv):=fun s=>(s.h.cell (p:=⟨bb,ob+19,none⟩) hbb).trans (p2 19 _ rfl)
 clear p1 p2 hba hbb
 obtain ⟨rfl,rfl⟩|⟨rfl,rfl⟩:(opu=true∧opv=false) ∨ (opu=false∧opv=true):=by cases opu<;>cases opv<;>simp_all
 · clear e0
   go_enter Tryz.func22,Tryz.ntmps22
   go_upto_region 1 with fail
   simp only [List.append_eq,List.cons_append,List.nil_append]
   refine wp_region_class (w₀:=w) (Below.refl _ _).drew (by kernel_rfl) (Eq.trans (b:=Region.lexB .any ops_same) (by kernel_rfl) same_lexB) ?_
   repeat (go_big_quiet_step (first|fail))
   refine wpQuiet_nil ?_
   rintro _ ⟨s,rfl⟩
   have HB:=Lib.hid s.h
   generalize s.val=W3 at HB ⊢
   go_wp2
   go_ret
   exact ⟨rfl,HB.out⟩
 · clear e0
   go_enter Tryz.func22,Tryz.ntmps22
   go_upto_region 1 with fail
   simp only [List.append_eq,List.cons_append,List.nil_append]
   refine wp_region_class (w₀:=w) (Below.refl _ _).drew (by kernel_rfl) (Eq.trans (b:=Region.lexB .any ops_same) (by kernel_rfl) same_lexB) ?_
   repeat (go_big_quiet_step (first|fail))
   refine wpQuiet_nil ?_
   rintro _ ⟨s,rfl⟩
   have HB:=Lib.hid s.h
   generalize s.val=W3 at HB ⊢
   go_wp2
   go_ret
   exact ⟨rfl,HB.out⟩
set_option maxHeartbeats 4000000 in
theorem same_no7 (sku liu pru:Int) (ttu tnu tru:Bs) (opu:Bool) (A4u:Option Addr) (n4u a4u:Nat) (A5u:Option Addr) (n5u a5u:Nat) (A6u:Option Addr) (n6u a6u:Nat) (A7u:Option Addr) (n7u a7u:Nat) (A9u:Option Addr) (n9u a9u:Nat) (A10u:Option Addr) (n10u a10u:Nat) (A14u:Option Addr) (n14u a14u:Nat) (ku ou vku vnu:Int) (vsu nsu:ByteArray) (Bu:Option Addr) (mu du:Nat) (skv liv prv:Int) (ttv tnv trv:Bs) (opv:Bool) (A4v:Option Addr) (n4v a4v:Nat) (A5v:Option Addr) (n5v a5v:Nat) (A6v:Option Addr) (n6v a6v:Nat) (A7v:Option Addr) (n7v a7v:Nat) (A9v:Option Addr) (n9v a9v:Nat) (A10v:Option Addr) (n10v a10v:Nat) (A14v:Option Addr) (n14v a14v:Nat) (kv ov vkv vnv:Int) (vsv nsv:ByteArray) (Bv:Option Addr) (mv dv:Nat) (ba oa bb ob:Nat) (w:World) (hba:ba<w.heap.size) (hbb:bb<w.heap.size) (p1:At w ba oa [.int .i64 sku, .string (txt ttu), .string (txt tnu), .string (txt tru), .slice A4u n4u a4u, .slice A5u n5u a5u, .slice A6u n6u a6u, .slice A7u n7u a7u, .int .i64 ku, .int .i64 ou, .int .i64 vku, .int .i64 vnu, .string vsu, .string nsu, .slice Bu mu du, .slice A9u n9u a9u, .slice A10u n10u a10u, .int .i64 liu, .int .i64 pru, .bool opu, .slice A14u n14u a14u]) (p2:At w bb ob [.int .i64 sku, .string (txt ttu), .string (txt tnu), .string (txt tru), .slice A4v n4v a4v, .slice A5v n5v a5v, .slice A6v n6v a6v, .slice A7v n7v a7v, .int .i64 kv, .int .i64 ov, .int .i64 vkv, .int .i64 vnv, .string vsv, .string nsv, .slice Bv mv dv, .slice A9v n9v a9v, .slice A10v n10v a10v, .int .i64 liu, .int .i64 pru, .bool opu, .slice A14v n14v a14v]) (e0:n14v≠n14u):
   Calls Tryz.prog 22 #[.pointer (some ⟨ba,oa,none⟩), .pointer (some ⟨bb,ob,none⟩)] w fun e w' =>e= .returned (.bool false)∧Below w.heap.size w w' :=by
 have c0:∀s:CW w,s.val.cell? ⟨ba,oa,none⟩=some (.int .i64 sku):=fun s=>(s.h.cell (p:=⟨ba,oa,none⟩) hba).trans (p1 0 _ rfl)
 have d0:∀s:CW w,s.val.cell? ⟨bb,ob,none⟩=some (.int .i64 sku):=fun s=>(s.h.cell (p:=⟨bb,ob,none⟩) hbb).trans (p2 0 _ rfl)
 have c1:∀s:CW w,s.val.cell? ⟨ba,oa+1,none⟩=some (.string (txt ttu)):=fun s=>(s.h.cell (p:=⟨ba,oa+1,none⟩) hba).trans (p1 1 _ rfl)
 have d1:∀s:CW w,s.val.cell? ⟨bb,ob+1,none⟩=some (.string (txt ttu)):=fun s=>(s.h.cell (p:=⟨bb,ob+1,none⟩) hbb).trans (p2 1 _ rfl)
 have c2:∀s:CW w,s.val.cell? ⟨ba,oa+2,none⟩=some (.string (txt tnu)):=fun s=>(s.h.cell (p:=⟨ba,oa+2,none⟩) hba).trans (p1 2 _ rfl)
 have d2:∀s:CW w,s.val.cell? ⟨bb,ob+2,none⟩=some (.string (txt tnu)):=fun s=>(s.h.cell (p:=⟨bb,ob+2,none⟩) hbb).trans (p2 2 _ rfl)
 have c3:∀s:CW w,s.val.cell? ⟨ba,oa+3,none⟩=some (.string (txt tru)):=fun s=>(s.h.cell (p:=⟨ba,oa+3,none⟩) hba).trans (p1 3 _ rfl)
 have d3:∀s:CW w,s.val.cell? ⟨bb,ob+3,none⟩=some (.string (txt tru)):=fun s=>(s.h.cell (p:=⟨bb,ob+3,none⟩) hbb).trans (p2 3 _ rfl)
 have c17:∀s:CW w,s.val.cell? ⟨ba,oa+17,none⟩=some (.int .i64 liu):=fun s=>(s.h.cell (p:=⟨ba,oa+17,none⟩) hba).trans (p1 17 _ rfl)
 have d17:∀s:CW w,s.val.cell? ⟨bb,ob+17,none⟩=some (.int .i64 liu):=fun s=>(s.h.cell (p:=⟨bb,ob+17,none⟩) hbb).trans (p2 17 _ rfl)
 have c18:∀s:CW w,s.val.cell? ⟨ba,oa+18,none⟩=some (.int .i64 pru):=fun s=>(s.h.cell (p:=⟨ba,oa+18,none⟩) hba).trans (p1 18 _ rfl)
 have d18:∀s:CW w,s.val.cell? ⟨bb,ob+18,none⟩=some (.int .i64 pru):=fun s=>(s.h.cell (p:=⟨bb,ob+18,none⟩) hbb).trans (p2 18 _ rfl)
 have c19:∀s:CW w,s.val.cell? ⟨ba,oa+19,none⟩=some (.bool opu):=fun s=>(s.h.cell (p:=⟨ba,oa+19,none⟩) hba).trans (p1 19 _ rfl)
 have d19:∀s:CW w,s.val.cell? ⟨bb,ob+19,none⟩=some (.bool opu):=fun s=>(s.h.cell (p:=⟨bb,ob+19,none⟩) hbb).trans (p2 19 _ rfl)
 have c20:∀s:CW w,s.val.cell? ⟨ba,oa+20,none⟩=some (.slice A14u n14u a14u):=fun s=>(s.h.cell (p:=⟨ba,oa+20,none⟩) hba).trans (p1 20 _ rfl)
 have d20:∀s:CW w,s.val.cell? ⟨bb,ob+20,none⟩=some (.slice A14v n14v a14v):=fun s=>(s.h.cell (p:=⟨bb,ob+20,none⟩) hbb).trans (p2 20 _ rfl)
 clear p1 p2 hba hbb
 have t1:((n14u:Int) !=(n14v:Int))=true:=bne_yes (by omega)
 clear e0
 go_enter Tryz.func22,Tryz.ntmps22
 go_upto_region 1 with fail
 simp only [List.append_eq,List.cons_append,List.nil_append]
 refine wp_region_class (w₀:=w) (Below.refl _ _).drew (by kernel_rfl) (Eq.trans (b:=Region.lexB .any ops_same) (by kernel_rfl) same_lexB) ?_
 repeat (go_big_quiet_step (first|fail))
 refine wpQuiet_nil ?_
 rintro _ ⟨s,rfl⟩
 have HB:=Lib.hid s.h
 generalize s.val=W3 at HB ⊢
 go_wp2
 go_ret
 exact ⟨rfl,HB.out⟩
end Go.Proofs.YtiaomhdmllhmmaaGreatDoor.Sm
namespace Go.Proofs.YtiaomhdmllhmmaaGreatDoor.Sm
open Go.RowKit Mem Ep Right Go.ChangeShapes Go.WideShapes
set_option linter.unusedVariables false
set_option maxHeartbeats 4000000 in
theorem same_no8 (sku liu pru:Int) (ttu tnu tru:Bs) (opu:Bool) (A4u:Option Addr) (n4u a4u:Nat) (A5u:Option Addr) (n5u a5u:Nat) (A6u:Option Addr) (n6u a6u:Nat) (A7u:Option Addr) (n7u a7u:Nat) (A9u:Option Addr) (n9u a9u:Nat) (A10u:Option Addr) (n10u a10u:Nat) (A14u:Option Addr) (n14u a14u:Nat) (ku ou vku vnu:Int) (vsu nsu:ByteArray) (Bu:Option Addr) (mu du:Nat) (skv liv prv:Int) (ttv tnv trv:Bs) (opv:Bool) (A4v:Option Addr) (n4v a4v:Nat) (A5v:Option Addr) (n5v a5v:Nat) (A6v:Option Addr) (n6v a6v:Nat) (A7v:Option Addr) (n7v a7v:Nat) (A9v:Option Addr) (n9v a9v:Nat) (A10v:Option Addr) (n10v a10v:Nat) (A14v:Option Addr) (n14v a14v:Nat) (kv ov vkv vnv:Int) (vsv nsv:ByteArray) (Bv:Option Addr) (mv dv:Nat) (ba oa bb ob:Nat) (w:World) (hba:ba<w.heap.size) (hbb:bb<w.heap.size) (p1:At w ba oa [.int .i64 sku, .string (txt ttu), .string (txt tnu), .string (txt tru), .slice A4u n4u a4u, .slice A5u n5u a5u, .slice A6u n6u a6u, .slice A7u n7u a7u, .int .i64 ku, .int .i64 ou, .int .i64 vku, .int .i64 vnu, .string vsu, .string nsu, .slice Bu mu du, .slice A9u n9u a9u, .slice A10u n10u a10u, .int .i64 liu, .int .i64 pru, .bool opu, .slice A14u n14u a14u]) (p2:At w bb ob [.int .i64 sku, .string (txt ttu), .string (txt tnu), .string (txt tru), .slice A4v n4v a4v, .slice A5v n5v a5v, .slice A6v n6v a6v, .slice A7v n7v a7v, .int .i64 kv, .int .i64 ov, .int .i64 vkv, .int .i64 vnv, .string vsv, .string nsv, .slice Bv mv dv, .slice A9v n9v a9v, .slice A10v n10v a10v, .int .i64 liu, .int .i64 pru, .bool opu, .slice A14v n14u a14v]) (HC1:Hid (∀W',Below w.heap.size w W' →Calls Tryz.prog 39 #[.pointer (some ⟨ba,oa,none⟩), .pointer (some ⟨bb,ob,none⟩)] W' fun e w' =>e= .returned (.bool false)∧Below W'.heap.size W' w')):
   Calls Tryz.prog 22 #[.pointer (some ⟨ba,oa,none⟩), .pointer (some ⟨bb,ob,none⟩)] w fun e w' =>e= .returned (.bool false)∧Below w.heap.size w w' :=by
 have c0:∀s:CW w,s.val.cell? ⟨ba,oa,none⟩=some (.int .i64 sku):=fun s=>(s.h.cell (p:=⟨ba,oa,none⟩) hba).trans (p1 0 _ rfl)
 have d0:∀s:CW w,s.val.cell? ⟨bb,ob,none⟩=some (.int .i64 sku):=fun s=>(s.h.cell (p:=⟨bb,ob,none⟩) hbb).trans (p2 0 _ rfl)
 have c1:∀s:CW w,s.val.cell? ⟨ba,oa+1,none⟩=some (.string (txt ttu)):=fun s=>(s.h.cell (p:=⟨ba,oa+1,none⟩) hba).trans (p1 1 _ rfl)
 have d1:∀s:CW w,s.val.cell? ⟨bb,ob+1,none⟩=some (.string (txt ttu)):=fun s=>(s.h.cell (p:=⟨bb,ob+1,none⟩) hbb).trans (p2 1 _ rfl)
 have c2:∀s:CW w,s.val.cell? ⟨ba,oa+2,none⟩=some (.string (txt tnu)):=fun s=>(s.h.cell (p:=⟨ba,oa+2,none⟩) hba).trans (p1 2 _ rfl)
 have d2:∀s:CW w,s.val.cell? ⟨bb,ob+2,none⟩=some (.string (txt tnu)):=fun s=>(s.h.cell (p:=⟨bb,ob+2,none⟩) hbb).trans (p2 2 _ rfl)
 have c3:∀s:CW w,s.val.cell? ⟨ba,oa+3,none⟩=some (.string (txt tru)):=fun s=>(s.h.cell (p:=⟨ba,oa+3,none⟩) hba).trans (p1 3 _ rfl)
 have d3:∀s:CW w,s.val.cell? ⟨bb,ob+3,none⟩=some (.string (txt tru)):=fun s=>(s.h.cell (p:=⟨bb,ob+3,none⟩) hbb).trans (p2 3 _ rfl)
 have c17:∀s:CW w,s.val.cell? ⟨ba,oa+17,none⟩=some (.int .i64 liu):=fun s=>(s.h.cell (p:=⟨ba,oa+17,none⟩) hba).trans (p1 17 _ rfl)
 have d17:∀s:CW w,s.val.cell? ⟨bb,ob+17,none⟩=some (.int .i64 liu):=fun s=>(s.h.cell (p:=⟨bb,ob+17,none⟩) hbb).trans (p2 17 _ rfl)
 have c18:∀s:CW w,s.val.cell? ⟨ba,oa+18,none⟩=some (.int .i64 pru):=fun s=>(s.h.cell (p:=⟨ba,oa+18,none⟩) hba).trans (p1 18 _ rfl)
 have d18:∀s:CW w,s.val.cell? ⟨bb,ob+18,none⟩=some (.int .i64 pru):=fun s=>(s.h.cell (p:=⟨bb,ob+18,none⟩) hbb).trans (p2 18 _ rfl)
 have c19:∀s:CW w,s.val.cell? ⟨ba,oa+19,none⟩=some (.bool opu):=fun s=>(s.h.cell (p:=⟨ba,oa+19,none⟩) hba).trans (p1 19 _ rfl)
 have d19:∀s:CW w,s.val.cell? ⟨bb,ob+19,none⟩=some (.bool opu):=fun s=>(s.h.cell (p:=⟨bb,ob+19,none⟩) hbb).trans (p2 19 _ rfl)
 have c20:∀s:CW w,s.val.cell? ⟨ba,oa+20,none⟩=some (.slice A14u n14u a14u):=fun s=>(s.h.cell (p:=⟨ba,oa+20,none⟩) hba).trans (p1 20 _ rfl)
 have d20:∀s:CW w,s.val.cell? ⟨bb,ob+20,none⟩=some (.slice A14v n14u a14v):=fun s=>(s.h.cell (p:=⟨bb,ob+20,none⟩) hbb).trans (p2 20 _ rfl)
 clear p1 p2 hba hbb
 go_enter Tryz.func22,Tryz.ntmps22
 go_upto_region 1 with fail
 simp only [List.append_eq,List.cons_append,List.nil_append]
 refine wp_region_class (w₀:=w) (Below.refl _ _).drew (by kernel_rfl) (Eq.trans (b:=Region.lexB .any ops_same) (by kernel_rfl) same_lexB) ?_
 repeat (go_big_quiet_step (first|(go_at_call 39;exact CW.calls (HC1.out _ (CW.h _)))))
 refine wpQuiet_nil ?_
 rintro _ ⟨s,rfl⟩
 have HB:=Lib.hid s.h
 generalize s.val=W3 at HB ⊢
 go_wp2
 go_ret
 exact ⟨rfl,HB.out⟩
set_option maxHeartbeats 4000000 in
theorem same_no9 (sku liu pru:Int) (ttu tnu tru:Bs) (opu:Bool) (A4u:Option Addr) (n4u a4u:Nat) (A5u:Option Addr) (n5u a5u:Nat) (A6u:Option Addr) (n6u a6u:Nat) (A7u:Option Addr) (n7u a7u:Nat) (A9u:Option Addr) (n9u a9u:Nat) (A10u:Option Addr) (n10u a10u:Nat) (A14u:Option Addr) (n14u a14u:Nat) (ku ou vku vnu:Int) (vsu nsu:ByteArray) (Bu:Option Addr) (mu du:Nat) (skv liv prv:Int) (ttv tnv trv:Bs) (opv:Bool) (A4v:Option Addr) (n4v a4v:Nat) (A5v:Option Addr) (n5v a5v:Nat) (A6v:Option Addr) (n6v a6v:Nat) (A7v:Option Addr) (n7v a7v:Nat) (A9v:Option Addr) (n9v a9v:Nat) (A10v:Option Addr) (n10v a10v:Nat) (A14v:Option Addr) (n14v a14v:Nat) (kv ov vkv vnv:Int) (vsv nsv:ByteArray) (Bv:Option Addr) (mv dv:Nat) (ba oa bb ob:Nat) (w:World) (hba:ba<w.heap.size) (hbb:bb<w.heap.size) (p1:At w ba oa [.int .i64 sku, .string (txt ttu), .string (txt tnu), .string (txt tru), .slice A4u n4u a4u, .slice A5u n5u a5u, .slice A6u n6u a6u, .slice A7u n7u a7u, .int .i64 ku, .int .i64 ou, .int .i64 vku, .int .i64 vnu, .string vsu, .string nsu, .slice Bu mu du, .slice A9u n9u a9u, .slice A10u n10u a10u, .int .i64 liu, .int .i64 pru, .bool opu, .slice A14u n14u a14u]) (p2:At w bb ob [.int .i64 sku, .string (txt ttu), .string (txt tnu), .string (txt tru), .slice A4v n4v a4v, .slice A5v n5v a5v, .slice A6v n6v a6v, .slice A7v n7v a7v, .int .i64 kv, .int .i64 ov, .int .i64 vkv, .int .i64 vnv, .string vsv, .string nsv, .slice Bv mv dv, .slice A9v n9v a9v, .slice A10v n10v a10v, .int .i64 liu, .int .i64 pru, .bool opu, .slice A14v n14u a14v]) (HC1:Hid (∀W',Below w.heap.size w W' →Calls Tryz.prog 39 #[.pointer (some ⟨ba,oa,none⟩), .pointer (some ⟨bb,ob,none⟩)] W' fun e w' =>e= .returned (.bool true)∧Below W'.heap.size W' w')) (HC2:Hid (∀W',Below w.heap.size w W' →Calls Tryz.prog 40 #[.agg #[.int .i64 ku, .int .i64 ou, .int .i64 vku, .int .i64 vnu, .string vsu, .string nsu, .slice Bu mu du], .agg #[.int .i64 kv, .int .i64 ov, .int .i64 vkv, .int .i64 vnv, .string vsv, .string nsv, .slice Bv mv dv]] W' fun e w' =>e= .returned (.bool false)∧Below W'.heap.size W' w')):
   Calls Tryz.prog 22 #[.pointer (some ⟨ba,oa,none⟩), .pointer (some ⟨bb,ob,none⟩)] w fun e w' =>e= .returned (.bool false)∧Below w.heap.size w w' :=by
 have c0:∀s:CW w,s.val.cell? ⟨ba,oa,none⟩=some (.int .i64 sku):=fun s=>(s.h.cell (p:=⟨ba,oa,none⟩) hba).trans (p1 0 _ rfl)
 have d0:∀s:CW w,s.val.cell? ⟨bb,ob,none⟩=some (.int .i64 sku):=fun s=>(s.h.cell (p:=⟨bb,ob,none⟩) hbb).trans (p2 0 _ rfl)
 have c1:∀s:CW w,s.val.cell? ⟨ba,oa+1,none⟩=some (.string (txt ttu)):=fun s=>(s.h.cell (p:=⟨ba,oa+1,none⟩) hba).trans (p1 1 _ rfl)
 have d1:∀s:CW w,s.val.cell? ⟨bb,ob+1,none⟩=some (.string (txt ttu)):=fun s=>(s.h.cell (p:=⟨bb,ob+1,none⟩) hbb).trans (p2 1 _ rfl)
 have c2:∀s:CW w,s.val.cell? ⟨ba,oa+2,none⟩=some (.string (txt tnu)):=fun s=>(s.h.cell (p:=⟨ba,oa+2,none⟩) hba).trans (p1 2 _ rfl)
 have d2:∀s:CW w,s.val.cell? ⟨bb,ob+2,none⟩=some (.string (txt tnu)):=fun s=>(s.h.cell (p:=⟨bb,ob+2,none⟩) hbb).trans (p2 2 _ rfl)
 have c3:∀s:CW w,s.val.cell? ⟨ba,oa+3,none⟩=some (.string (txt tru)):=fun s=>(s.h.cell (p:=⟨ba,oa+3,none⟩) hba).trans (p1 3 _ rfl)
 have d3:∀s:CW w,s.val.cell? ⟨bb,ob+3,none⟩=some (.string (txt tru)):=fun s=>(s.h.cell (p:=⟨bb,ob+3,none⟩) hbb).trans (p2 3 _ rfl)
 have c17:∀s:CW w,s.val.cell? ⟨ba,oa+17,none⟩=some (.int .i64 liu):=fun s=>(s.h.cell (p:=⟨ba,oa+17,none⟩) hba).trans (p1 17 _ rfl)
 have d17:∀s:CW w,s.val.cell? ⟨bb,ob+17,none⟩=some (.int .i64 liu):=fun s=>(s.h.cell (p:=⟨bb,ob+17,none⟩) hbb).trans (p2 17 _ rfl)
 have c18:∀s:CW w,s.val.cell? ⟨ba,oa+18,none⟩=some (.int .i64 pru):=fun s=>(s.h.cell (p:=⟨ba,oa+18,none⟩) hba).trans (p1 18 _ rfl)
 have d18:∀s:CW w,s.val.cell? ⟨bb,ob+18,none⟩=some (.int .i64 pru):=fun s=>(s.h.cell (p:=⟨bb,ob+18,none⟩) hbb).trans (p2 18 _ rfl)
 have c19:∀s:CW w,s.val.cell? ⟨ba,oa+19,none⟩=some (.bool opu):=fun s=>(s.h.cell (p:=⟨ba,oa+19,none⟩) hba).trans (p1 19 _ rfl)
 have d19:∀s:CW w,s.val.cell? ⟨bb,ob+19,none⟩=some (.bool opu):=fun s=>(s.h.cell (p:=⟨bb,ob+19,none⟩) hbb).trans (p2 19 _ rfl)
 have c20:∀s:CW w,s.val.cell? ⟨ba,oa+20,none⟩=some (.slice A14u n14u a14u):=fun s=>(s.h.cell (p:=⟨ba,oa+20,none⟩) hba).trans (p1 20 _ rfl)
 have d20:∀s:CW w,s.val.cell? ⟨bb,ob+20,none⟩=some (.slice A14v n14u a14v):=fun s=>(s.h.cell (p:=⟨bb,ob+20,none⟩) hbb).trans (p2 20 _ rfl)
 have c8:∀s:CW w,s.val.cell? ⟨ba,oa+8,none⟩=some (.int .i64 ku):=fun s=>(s.h.cell (p:=⟨ba,oa+8,none⟩) hba).trans (p1 8 _ rfl)
 have d8:∀s:CW w,s.val.cell? ⟨bb,ob+8,none⟩=some (.int .i64 kv):=fun s=>(s.h.cell (p:=⟨bb,ob+8,none⟩) hbb).trans (p2 8 _ rfl)
 have c9:∀s:CW w,s.val.cell? ⟨ba,oa+9,none⟩=some (.int .i64 ou):=fun s=>(s.h.cell (p:=⟨ba,oa+9,none⟩) hba).trans (p1 9 _ rfl)
 have d9:∀s:CW w,s.val.cell? ⟨bb,ob+9,none⟩=some (.int .i64 ov):=fun s=>(s.h.cell (p:=⟨bb,ob+9,none⟩) hbb).trans (p2 9 _ rfl)
 have c10:∀s:CW w,s.val.cell? ⟨ba,oa+10,none⟩=some (.int .i64 vku):=fun s=>(s.h.cell (p:=⟨ba,oa+10,none⟩) hba).trans (p1 10 _ rfl)
 have d10:∀s:CW w,s.val.cell? ⟨bb,ob+10,none⟩=some (.int .i64 vkv):=fun s=>(s.h.cell (p:=⟨bb,ob+10,none⟩) hbb).trans (p2 10 _ rfl)
 have c11:∀s:CW w,s.val.cell? ⟨ba,oa+11,none⟩=some (.int .i64 vnu):=fun s=>(s.h.cell (p:=⟨ba,oa+11,none⟩) hba).trans (p1 11 _ rfl)
 have d11:∀s:CW w,s.val.cell? ⟨bb,ob+11,none⟩=some (.int .i64 vnv):=fun s=>(s.h.cell (p:=⟨bb,ob+11,none⟩) hbb).trans (p2 11 _ rfl)
 have c12:∀s:CW w,s.val.cell? ⟨ba,oa+12,none⟩=some (.string vsu):=fun s=>(s.h.cell (p:=⟨ba,oa+12,none⟩) hba).trans (p1 12 _ rfl)
 have d12:∀s:CW w,s.val.cell? ⟨bb,ob+12,none⟩=some (.string vsv):=fun s=>(s.h.cell (p:=⟨bb,ob+12,none⟩) hbb).trans (p2 12 _ rfl)
 have c13:∀s:CW w,s.val.cell? ⟨ba,oa+13,none⟩=some (.string nsu):=fun s=>(s.h.cell (p:=⟨ba,oa+13,none⟩) hba).trans (p1 13 _ rfl)
 have d13:∀s:CW w,s.val.cell? ⟨bb,ob+13,none⟩=some (.string nsv):=fun s=>(s.h.cell (p:=⟨bb,ob+13,none⟩) hbb).trans (p2 13 _ rfl)
 have c14:∀s:CW w,s.val.cell? ⟨ba,oa+14,none⟩=some (.slice Bu mu du):=fun s=>(s.h.cell (p:=⟨ba,oa+14,none⟩) hba).trans (p1 14 _ rfl)
 have d14:∀s:CW w,s.val.cell? ⟨bb,ob+14,none⟩=some (.slice Bv mv dv):=fun s=>(s.h.cell (p:=⟨bb,ob+14,none⟩) hbb).trans (p2 14 _ rfl)
 clear p1 p2 hba hbb
 go_enter Tryz.func22,Tryz.ntmps22
 go_upto_region 1 with fail
 simp only [List.append_eq,List.cons_append,List.nil_append]
 refine wp_region_class (w₀:=w) (Below.refl _ _).drew (by kernel_rfl) (Eq.trans (b:=Region.lexB .any ops_same) (by kernel_rfl) same_lexB) ?_
 repeat (go_big_quiet_step (first|(go_at_call 39;exact CW.calls (HC1.out _ (CW.h _)))|(go_at_call 40;exact CW.calls (HC2.out _ (CW.h _)))))
 refine wpQuiet_nil ?_
 rintro _ ⟨s,rfl⟩
 have HB:=Lib.hid s.h
 generalize s.val=W3 at HB ⊢
 go_wp2
 go_ret
 exact ⟨rfl,HB.out⟩
end Go.Proofs.YtiaomhdmllhmmaaGreatDoor.Sm
