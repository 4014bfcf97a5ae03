/- The document's own answer that two statements are not one: by what differs first (1). -/
import Derived.Test.YtiaomhdmllhmmaaGreatDoorK43
namespace Go.Proofs.YtiaomhdmllhmmaaGreatDoor.Sm
open Go.RowKit Mem Ep Right Go.ChangeShapes Go.WideShapes
set_option linter.unusedVariables false
set_option maxRecDepth 100000 in
set_option maxHeartbeats 4000000 in
theorem refSame_no0 (sku liu pru:Int) (ttu tnu tru:Bs) (opu:Bool) (A4u:Option Addr) (n4u a4u:Nat) (A5u:Option Addr) (n5u a5u:Nat) (A6u:Option Addr) (n6u a6u:Nat) (A7u:Option Addr) (n7u a7u:Nat) (A9u:Option Addr) (n9u a9u:Nat) (A10u:Option Addr) (n10u a10u:Nat) (A14u:Option Addr) (n14u a14u:Nat) (ku ou vku vnu:Int) (vsu nsu:ByteArray) (Bu:Option Addr) (mu du:Nat) (skv liv prv:Int) (ttv tnv trv:Bs) (opv:Bool) (A4v:Option Addr) (n4v a4v:Nat) (A5v:Option Addr) (n5v a5v:Nat) (A6v:Option Addr) (n6v a6v:Nat) (A7v:Option Addr) (n7v a7v:Nat) (A9v:Option Addr) (n9v a9v:Nat) (A10v:Option Addr) (n10v a10v:Nat) (A14v:Option Addr) (n14v a14v:Nat) (kv ov vkv vnv:Int) (vsv nsv:ByteArray) (Bv:Option Addr) (mv dv:Nat) (w:World) (e0:skv≠sku):
   Calls Tryz.prog 11 #[.agg #[.int .i64 sku, .string (txt ttu), .string (txt tnu), .string (txt tru), .slice A4u n4u a4u, .slice A5u n5u a5u, .slice A6u n6u a6u, .slice A7u n7u a7u, .int .i64 ku, .int .i64 ou, .int .i64 vku, .int .i64 vnu, .string vsu, .string nsu, .slice Bu mu du, .slice A9u n9u a9u, .slice A10u n10u a10u, .int .i64 liu, .int .i64 pru, .bool opu, .slice A14u n14u a14u], .agg #[.int .i64 skv, .string (txt ttv), .string (txt tnv), .string (txt trv), .slice A4v n4v a4v, .slice A5v n5v a5v, .slice A6v n6v a6v, .slice A7v n7v a7v, .int .i64 kv, .int .i64 ov, .int .i64 vkv, .int .i64 vnv, .string vsv, .string nsv, .slice Bv mv dv, .slice A9v n9v a9v, .slice A10v n10v a10v, .int .i64 liv, .int .i64 prv, .bool opv, .slice A14v n14v a14v]] w fun e w' =>e= .returned (.bool false)∧Below w.heap.size w w' :=by
 obtain ⟨W,hW⟩:∃W,(w.alloc (.cells #[.int .i64 sku, .string (txt ttu), .string (txt tnu), .string (txt tru), .slice A4u n4u a4u, .slice A5u n5u a5u, .slice A6u n6u a6u, .slice A7u n7u a7u, .int .i64 ku, .int .i64 ou, .int .i64 vku, .int .i64 vnu, .string vsu, .string nsu, .slice Bu mu du, .slice A9u n9u a9u, .slice A10u n10u a10u, .int .i64 liu, .int .i64 pru, .bool opu, .slice A14u n14u a14u] 35)).alloc (.cells #[.int .i64 skv, .string (txt ttv), .string (txt tnv), .string (txt trv), .slice A4v n4v a4v, .slice A5v n5v a5v, .slice A6v n6v a6v, .slice A7v n7v a7v, .int .i64 kv, .int .i64 ov, .int .i64 vkv, .int .i64 vnv, .string vsv, .string nsv, .slice Bv mv dv, .slice A9v n9v a9v, .slice A10v n10v a10v, .int .i64 liv, .int .i64 prv, .bool opv, .slice A14v n14v a14v] 35)=W:=⟨_,rfl⟩
 have hb:Below w.heap.size w W:=by rw [←hW];exact al (al (Below.refl _ _) _) _
 have hs1:w.heap.size<W.heap.size:=by rw [←hW];simp;omega
 have hs2:w.heap.size+1<W.heap.size:=by rw [←hW];simp
 have x1:Cel W w.heap.size 35 #[.int .i64 sku, .string (txt ttu), .string (txt tnu), .string (txt tru), .slice A4u n4u a4u, .slice A5u n5u a5u, .slice A6u n6u a6u, .slice A7u n7u a7u, .int .i64 ku, .int .i64 ou, .int .i64 vku, .int .i64 vnu, .string vsu, .string nsu, .slice Bu mu du, .slice A9u n9u a9u, .slice A10u n10u a10u, .int .i64 liu, .int .i64 pru, .bool opu, .slice A14u n14u a14u]:=by rw [←hW];exact (Cel.new w _ _ rfl).alloc _
 have x2:Cel W (w.heap.size+1) 35 #[.int .i64 skv, .string (txt ttv), .string (txt tnv), .string (txt trv), .slice A4v n4v a4v, .slice A5v n5v a5v, .slice A6v n6v a6v, .slice A7v n7v a7v, .int .i64 kv, .int .i64 ov, .int .i64 vkv, .int .i64 vnv, .string vsv, .string nsv, .slice Bv mv dv, .slice A9v n9v a9v, .slice A10v n10v a10v, .int .i64 liv, .int .i64 prv, .bool opv, .slice A14v n14v a14v]:=by rw [←hW];exact Cel.new _ _ _ (by simp)
 have HB:=Lib.hid hb
 have HY:=Lib.hid (Below.refl W.heap.size W)
 have HS1:=Lib.hid hs1
 have HS2:=Lib.hid hs2
 have X1:=Lib.hid x1
 have X2:=Lib.hid x2
 have c0:=x1.at_ 0
 have d0:=x2.at_ 0
 clear x1 x2 hb hs1 hs2
 have e1:=Ne.symm e0
 have t1:(sku !=skv)=true:=bne_yes e1
 clear e0
 go_enter Tryz.func11,Tryz.ntmps11
 go_wp2
 go_ret
 exact ⟨rfl,HB.out⟩
set_option maxRecDepth 100000 in
set_option maxHeartbeats 4000000 in
theorem refSame_no1 (sku liu pru:Int) (ttu tnu tru:Bs) (opu:Bool) (A4u:Option Addr) (n4u a4u:Nat) (A5u:Option Addr) (n5u a5u:Nat) (A6u:Option Addr) (n6u a6u:Nat) (A7u:Option Addr) (n7u a7u:Nat) (A9u:Option Addr) (n9u a9u:Nat) (A10u:Option Addr) (n10u a10u:Nat) (A14u:Option Addr) (n14u a14u:Nat) (ku ou vku vnu:Int) (vsu nsu:ByteArray) (Bu:Option Addr) (mu du:Nat) (skv liv prv:Int) (ttv tnv trv:Bs) (opv:Bool) (A4v:Option Addr) (n4v a4v:Nat) (A5v:Option Addr) (n5v a5v:Nat) (A6v:Option Addr) (n6v a6v:Nat) (A7v:Option Addr) (n7v a7v:Nat) (A9v:Option Addr) (n9v a9v:Nat) (A10v:Option Addr) (n10v a10v:Nat) (A14v:Option Addr) (n14v a14v:Nat) (kv ov vkv vnv:Int) (vsv nsv:ByteArray) (Bv:Option Addr) (mv dv:Nat) (w:World) (e0:ttv≠ttu):
   Calls Tryz.prog 11 #[.agg #[.int .i64 sku, .string (txt ttu), .string (txt tnu), .string (txt tru), .slice A4u n4u a4u, .slice A5u n5u a5u, .slice A6u n6u a6u, .slice A7u n7u a7u, .int .i64 ku, .int .i64 ou, .int .i64 vku, .int .i64 vnu, .string vsu, .string nsu, .slice Bu mu du, .slice A9u n9u a9u, .slice A10u n10u a10u, .int .i64 liu, .int .i64 pru, .bool opu, .slice A14u n14u a14u], .agg #[.int .i64 sku, .string (txt ttv), .string (txt tnv), .string (txt trv), .slice A4v n4v a4v, .slice A5v n5v a5v, .slice A6v n6v a6v, .slice A7v n7v a7v, .int .i64 kv, .int .i64 ov, .int .i64 vkv, .int .i64 vnv, .string vsv, .string nsv, .slice Bv mv dv, .slice A9v n9v a9v, .slice A10v n10v a10v, .int .i64 liv, .int .i64 prv, .bool opv, .slice A14v n14v a14v]] w fun e w' =>e= .returned (.bool false)∧Below w.heap.size w w' :=by
 obtain ⟨W,hW⟩:∃W,(w.alloc (.cells #[.int .i64 sku, .string (txt ttu), .string (txt tnu), .string (txt tru), .slice A4u n4u a4u, .slice A5u n5u a5u, .slice A6u n6u a6u, .slice A7u n7u a7u, .int .i64 ku, .int .i64 ou, .int .i64 vku, .int .i64 vnu, .string vsu, .string nsu, .slice Bu mu du, .slice A9u n9u a9u, .slice A10u n10u a10u, .int .i64 liu, .int .i64 pru, .bool opu, .slice A14u n14u a14u] 35)).alloc (.cells #[.int .i64 sku, .string (txt ttv), .string (txt tnv), .string (txt trv), .slice A4v n4v a4v, .slice A5v n5v a5v, .slice A6v n6v a6v, .slice A7v n7v a7v, .int .i64 kv, .int .i64 ov, .int .i64 vkv, .int .i64 vnv, .string vsv, .string nsv, .slice Bv mv dv, .slice A9v n9v a9v, .slice A10v n10v a10v, .int .i64 liv, .int .i64 prv, .bool opv, .slice A14v n14v a14v] 35)=W:=⟨_,rfl⟩
 have hb:Below w.heap.size w W:=by rw [←hW];exact al (al (Below.refl _ _) _) _
 have hs1:w.heap.size<W.heap.size:=by rw [←hW];simp;omega
 have hs2:w.heap.size+1<W.heap.size:=by rw [←hW];simp
 have x1:Cel W w.heap.size 35 #[.int .i64 sku, .string (txt ttu), .string (txt tnu), .string (txt tru), .slice A4u n4u a4u, .slice A5u n5u a5u, .slice A6u n6u a6u, .slice A7u n7u a7u, .int .i64 ku, .int .i64 ou, .int .i64 vku, .int .i64 vnu, .string vsu, .string nsu, .slice Bu mu du, .slice A9u n9u a9u, .slice A10u n10u a10u, .int .i64 liu, .int .i64 pru, .bool opu, .slice A14u n14u a14u]:=by rw [←hW];exact (Cel.new w _ _ rfl).alloc _
 have x2:Cel W (w.heap.size+1) 35 #[.int .i64 sku, .string (txt ttv), .string (txt tnv), .string (txt trv), .slice A4v n4v a4v, .slice A5v n5v a5v, .slice A6v n6v a6v, .slice A7v n7v a7v, .int .i64 kv, .int .i64 ov, .int .i64 vkv, .int .i64 vnv, .string vsv, .string nsv, .slice Bv mv dv, .slice A9v n9v a9v, .slice A10v n10v a10v, .int .i64 liv, .int .i64 prv, .bool opv, .slice A14v n14v a14v]:=by rw [←hW];exact Cel.new _ _ _ (by simp)
 have HB:=Lib.hid hb
 have HY:=Lib.hid (Below.refl W.heap.size W)
 have HS1:=Lib.hid hs1
 have HS2:=Lib.hid hs2
 have X1:=Lib.hid x1
 have X2:=Lib.hid x2
 have c0:=x1.at_ 0
 have d0:=x2.at_ 0
 have c1:=x1.at_ 1
 have d1:=x2.at_ 1
 clear x1 x2 hb hs1 hs2
 obtain ⟨t3,t4,t5⟩:=txt_ne (Ne.symm e0)
 clear e0
 go_enter Tryz.func11,Tryz.ntmps11
 go_wp2
 go_ret
 exact ⟨rfl,HB.out⟩
set_option maxRecDepth 100000 in
set_option maxHeartbeats 4000000 in
theorem refSame_no2 (sku liu pru:Int) (ttu tnu tru:Bs) (opu:Bool) (A4u:Option Addr) (n4u a4u:Nat) (A5u:Option Addr) (n5u a5u:Nat) (A6u:Option Addr) (n6u a6u:Nat) (A7u:Option Addr) (n7u a7u:Nat) (A9u:Option Addr) (n9u a9u:Nat) (A10u:Option Addr) (n10u a10u:Nat) (A14u:Option Addr) (n14u a14u:Nat) (ku ou vku vnu:Int) (vsu nsu:ByteArray) (Bu:Option Addr) (mu du:Nat) (skv liv prv:Int) (ttv tnv trv:Bs) (opv:Bool) (A4v:Option Addr) (n4v a4v:Nat) (A5v:Option Addr) (n5v a5v:Nat) (A6v:Option Addr) (n6v a6v:Nat) (A7v:Option Addr) (n7v a7v:Nat) (A9v:Option Addr) (n9v a9v:Nat) (A10v:Option Addr) (n10v a10v:Nat) (A14v:Option Addr) (n14v a14v:Nat) (kv ov vkv vnv:Int) (vsv nsv:ByteArray) (Bv:Option Addr) (mv dv:Nat) (w:World) (e0:tnv≠tnu):
   Calls Tryz.prog 11 #[.agg #[.int .i64 sku, .string (txt ttu), .string (txt tnu), .string (txt tru), .slice A4u n4u a4u, .slice A5u n5u a5u, .slice A6u n6u a6u, .slice A7u n7u a7u, .int .i64 ku, .int .i64 ou, .int .i64 vku, .int .i64 vnu, .string vsu, .string nsu, .slice Bu mu du, .slice A9u n9u a9u, .slice A10u n10u a10u, .int .i64 liu, .int .i64 pru, .bool opu, .slice A14u n14u a14u], .agg #[.int .i64 sku, .string (txt ttu), .string (txt tnv), .string (txt trv), .slice A4v n4v a4v, .slice A5v n5v a5v, .slice A6v n6v a6v, .slice A7v n7v a7v, .int .i64 kv, .int .i64 ov, .int .i64 vkv, .int .i64 vnv, .string vsv, .string nsv, .slice Bv mv dv, .slice A9v n9v a9v, .slice A10v n10v a10v, .int .i64 liv, .int .i64 prv, .bool opv, .slice A14v n14v a14v]] w fun e w' =>e= .returned (.bool false)∧Below w.heap.size w w' :=by
 obtain ⟨W,hW⟩:∃W,(w.alloc (.cells #[.int .i64 sku, .string (txt ttu), .string (txt tnu), .string (txt tru), .slice A4u n4u a4u, .slice A5u n5u a5u, .slice A6u n6u a6u, .slice A7u n7u a7u, .int .i64 ku, .int .i64 ou, .int .i64 vku, .int .i64 vnu, .string vsu, .string nsu, .slice Bu mu du, .slice A9u n9u a9u, .slice A10u n10u a10u, .int .i64 liu, .int .i64 pru, .bool opu, .slice A14u n14u a14u] 35)).alloc (.cells #[.int .i64 sku, .string (txt ttu), .string (txt tnv), .string (txt trv), .slice A4v n4v a4v, .slice A5v n5v a5v, .slice A6v n6v a6v, .slice A7v n7v a7v, .int .i64 kv, .int .i64 ov, .int .i64 vkv, .int .i64 vnv, .string vsv, .string nsv, .slice Bv mv dv, .slice A9v n9v a9v, .slice A10v n10v a10v, .int .i64 liv, .int .i64 prv, .bool opv, .slice A14v n14v a14v] 35)=W:=⟨_,rfl⟩
 have hb:Below w.heap.size w W:=by rw [←hW];exact al (al (Below.refl _ _) _) _
 have hs1:w.heap.size<W.heap.size:=by rw [←hW];simp;omega
 have hs2:w.heap.size+1<W.heap.size:=by rw [←hW];simp
 have x1:Cel W w.heap.size 35 #[.int .i64 sku, .string (txt ttu), .string (txt tnu), .string (txt tru), .slice A4u n4u a4u, .slice A5u n5u a5u, .slice A6u n6u a6u, .slice A7u n7u a7u, .int .i64 ku, .int .i64 ou, .int .i64 vku, .int .i64 vnu, .string vsu, .string nsu, .slice Bu mu du, .slice A9u n9u a9u, .slice A10u n10u a10u, .int .i64 liu, .int .i64 pru, .bool opu, .slice A14u n14u a14u]:=by rw [←hW];exact (Cel.new w _ _ rfl).alloc _
 have x2:Cel W (w.heap.size+1) 35 #[.int .i64 sku, .string (txt ttu), .string (txt tnv), .string (txt trv), .slice A4v n4v a4v, .slice A5v n5v a5v, .slice A6v n6v a6v, .slice A7v n7v a7v, .int .i64 kv, .int .i64 ov, .int .i64 vkv, .int .i64 vnv, .string vsv, .string nsv, .slice Bv mv dv, .slice A9v n9v a9v, .slice A10v n10v a10v, .int .i64 liv, .int .i64 prv, .bool opv, .slice A14v n14v a14v]:=by rw [←hW];exact Cel.new _ _ _ (by simp)
 have HB:=Lib.hid hb
 have HY:=Lib.hid (Below.refl W.heap.size W)
 have HS1:=Lib.hid hs1
 have HS2:=Lib.hid hs2
 have X1:=Lib.hid x1
 have X2:=Lib.hid x2
 have c0:=x1.at_ 0
 have d0:=x2.at_ 0
 have c1:=x1.at_ 1
 have d1:=x2.at_ 1
 have c2:=x1.at_ 2
 have d2:=x2.at_ 2
 clear x1 x2 hb hs1 hs2
 obtain ⟨t3,t4,t5⟩:=txt_ne (Ne.symm e0)
 clear e0
 go_enter Tryz.func11,Tryz.ntmps11
 go_wp2
 go_ret
 exact ⟨rfl,HB.out⟩
set_option maxRecDepth 100000 in
set_option maxHeartbeats 4000000 in
theorem refSame_no3 (sku liu pru:Int) (ttu tnu tru:Bs) (opu:Bool) (A4u:Option Addr) (n4u a4u:Nat) (A5u:Option Addr) (n5u a5u:Nat) (A6u:Option Addr) (n6u a6u:Nat) (A7u:Option Addr) (n7u a7u:Nat) (A9u:Option Addr) (n9u a9u:Nat) (A10u:Option Addr) (n10u a10u:Nat) (A14u:Option Addr) (n14u a14u:Nat) (ku ou vku vnu:Int) (vsu nsu:ByteArray) (Bu:Option Addr) (mu du:Nat) (skv liv prv:Int) (ttv tnv trv:Bs) (opv:Bool) (A4v:Option Addr) (n4v a4v:Nat) (A5v:Option Addr) (n5v a5v:Nat) (A6v:Option Addr) (n6v a6v:Nat) (A7v:Option Addr) (n7v a7v:Nat) (A9v:Option Addr) (n9v a9v:Nat) (A10v:Option Addr) (n10v a10v:Nat) (A14v:Option Addr) (n14v a14v:Nat) (kv ov vkv vnv:Int) (vsv nsv:ByteArray) (Bv:Option Addr) (mv dv:Nat) (w:World) (e0:trv≠tru):
   Calls Tryz.prog 11 #[.agg #[.int .i64 sku, .string (txt ttu), .string (txt tnu), .string (txt tru), .slice A4u n4u a4u, .slice A5u n5u a5u, .slice A6u n6u a6u, .slice A7u n7u a7u, .int .i64 ku, .int .i64 ou, .int .i64 vku, .int .i64 vnu, .string vsu, .string nsu, .slice Bu mu du, .slice A9u n9u a9u, .slice A10u n10u a10u, .int .i64 liu, .int .i64 pru, .bool opu, .slice A14u n14u a14u], .agg #[.int .i64 sku, .string (txt ttu), .string (txt tnu), .string (txt trv), .slice A4v n4v a4v, .slice A5v n5v a5v, .slice A6v n6v a6v, .slice A7v n7v a7v, .int .i64 kv, .int .i64 ov, .int .i64 vkv, .int .i64 vnv, .string vsv, .string nsv, .slice Bv mv dv, .slice A9v n9v a9v, .slice A10v n10v a10v, .int .i64 liv, .int .i64 prv, .bool opv, .slice A14v n14v a14v]] w fun e w' =>e= .returned (.bool false)∧Below w.heap.size w w' :=by
 obtain ⟨W,hW⟩:∃W,(w.alloc (.cells #[.int .i64 sku, .string (txt ttu), .string (txt tnu), .string (txt tru), .slice A4u n4u a4u, .slice A5u n5u a5u, .slice A6u n6u a6u, .slice A7u n7u a7u, .int .i64 ku, .int .i64 ou, .int .i64 vku, .int .i64 vnu, .string vsu, .string nsu, .slice Bu mu du, .slice A9u n9u a9u, .slice A10u n10u a10u, .int .i64 liu, .int .i64 pru, .bool opu, .slice A14u n14u a14u] 35)).alloc (.cells #[.int .i64 sku, .string (txt ttu), .string (txt tnu), .string (txt trv), .slice A4v n4v a4v, .slice A5v n5v a5v, .slice A6v n6v a6v, .slice A7v n7v a7v, .int .i64 kv, .int .i64 ov, .int .i64 vkv, .int .i64 vnv, .string vsv, .string nsv, .slice Bv mv dv, .slice A9v n9v a9v, .slice A10v n10v a10v, .int .i64 liv, .int .i64 prv, .bool opv, .slice A14v n14v a14v] 35)=W:=⟨_,rfl⟩
 have hb:Below w.heap.size w W:=by rw [←hW];exact al (al (Below.refl _ _) _) _
 have hs1:w.heap.size<W.heap.size:=by rw [←hW];simp;omega
 have hs2:w.heap.size+1<W.heap.size:=by rw [←hW];simp
 have x1:Cel W w.heap.size 35 #[.int .i64 sku, .string (txt ttu), .string (txt tnu), .string (txt tru), .slice A4u n4u a4u, .slice A5u n5u a5u, .slice A6u n6u a6u, .slice A7u n7u a7u, .int .i64 ku, .int .i64 ou, .int .i64 vku, .int .i64 vnu, .string vsu, .string nsu, .slice Bu mu du, .slice A9u n9u a9u, .slice A10u n10u a10u, .int .i64 liu, .int .i64 pru, .bool opu, .slice A14u n14u a14u]:=by rw [←hW];exact (Cel.new w _ _ rfl).alloc _
 have x2:Cel W (w.heap.size+1) 35 #[.int .i64 sku, .string (txt ttu), .string (txt tnu), .string (txt trv), .slice A4v n4v a4v, .slice A5v n5v a5v, .slice A6v n6v a6v, .slice A7v n7v a7v, .int .i64 kv, .int .i64 ov, .int .i64 vkv, .int .i64 vnv, .string vsv, .string nsv, .slice Bv mv dv, .slice A9v n9v a9v, .slice A10v n10v a10v, .int .i64 liv, .int .i64 prv, .bool opv, .slice A14v n14v a14v]:=by rw [←hW];exact Cel.new _ _ _ (by simp)
 have HB:=Lib.hid hb
 have HY:=Lib.hid (Below.refl W.heap.size W)
 have HS1:=Lib.hid hs1
 have HS2:=Lib.hid hs2
 have X1:=Lib.hid x1
 have X2:=Lib.hid x2
 have c0:=x1.at_ 0
 have d0:=x2.at_ 0
 have c1:=x1.at_ 1
 have d1:=x2.at_ 1
 have c2:=x1.at_ 2
 have d2:=x2.at_ 2
 have c3:=x1.at_ 3
 have d3:=x2.at_ 3
 clear x1 x2 hb hs1 hs2
 obtain ⟨t3,t4,t5⟩:=txt_ne (Ne.symm e0)
 clear e0
 go_enter Tryz.func11,Tryz.ntmps11
 go_wp2
 go_ret
 exact ⟨rfl,HB.out⟩
set_option maxRecDepth 100000 in
set_option maxHeartbeats 4000000 in
theorem refSame_no4 (sku liu pru:Int) (ttu tnu tru:Bs) (opu:Bool) (A4u:Option Addr) (n4u a4u:Nat) (A5u:Option Addr) (n5u a5u:Nat) (A6u:Option Addr) (n6u a6u:Nat) (A7u:Option Addr) (n7u a7u:Nat) (A9u:Option Addr) (n9u a9u:Nat) (A10u:Option Addr) (n10u a10u:Nat) (A14u:Option Addr) (n14u a14u:Nat) (ku ou vku vnu:Int) (vsu nsu:ByteArray) (Bu:Option Addr) (mu du:Nat) (skv liv prv:Int) (ttv tnv trv:Bs) (opv:Bool) (A4v:Option Addr) (n4v a4v:Nat) (A5v:Option Addr) (n5v a5v:Nat) (A6v:Option Addr) (n6v a6v:Nat) (A7v:Option Addr) (n7v a7v:Nat) (A9v:Option Addr) (n9v a9v:Nat) (A10v:Option Addr) (n10v a10v:Nat) (A14v:Option Addr) (n14v a14v:Nat) (kv ov vkv vnv:Int) (vsv nsv:ByteArray) (Bv:Option Addr) (mv dv:Nat) (w:World) (e0:liv≠liu):
   Calls Tryz.prog 11 #[.agg #[.int .i64 sku, .string (txt ttu), .string (txt tnu), .string (txt tru), .slice A4u n4u a4u, .slice A5u n5u a5u, .slice A6u n6u a6u, .slice A7u n7u a7u, .int .i64 ku, .int .i64 ou, .int .i64 vku, .int .i64 vnu, .string vsu, .string nsu, .slice Bu mu du, .slice A9u n9u a9u, .slice A10u n10u a10u, .int .i64 liu, .int .i64 pru, .bool opu, .slice A14u n14u a14u], .agg #[.int .i64 sku, .string (txt ttu), .string (txt tnu), .string (txt tru), .slice A4v n4v a4v, .slice A5v n5v a5v, .slice A6v n6v a6v, .slice A7v n7v a7v, .int .i64 kv, .int .i64 ov, .int .i64 vkv, .int .i64 vnv, .string vsv, .string nsv, .slice Bv mv dv, .slice A9v n9v a9v, .slice A10v n10v a10v, .int .i64 liv, .int .i64 prv, .bool opv, .slice A14v n14v a14v]] w fun e w' =>e= .returned (.bool false)∧Below w.heap.size w w' :=by
 obtain ⟨W,hW⟩:∃W,(w.alloc (.cells #[.int .i64 sku, .string (txt ttu), .string (txt tnu), .string (txt tru), .slice A4u n4u a4u, .slice A5u n5u a5u, .slice A6u n6u a6u, .slice A7u n7u a7u, .int .i64 ku, .int .i64 ou, .int .i64 vku, .int .i64 vnu, .string vsu, .string nsu, .slice Bu mu du, .slice A9u n9u a9u, .slice A10u n10u a10u, .int .i64 liu, .int .i64 pru, .bool opu, .slice A14u n14u a14u] 35)).alloc (.cells #[.int .i64 sku, .string (txt ttu), .string (txt tnu), .string (txt tru), .slice A4v n4v a4v, .slice A5v n5v a5v, .slice A6v n6v a6v, .slice A7v n7v a7v, .int .i64 kv, .int .i64 ov, .int .i64 vkv, .int .i64 vnv, .string vsv, .string nsv, .slice Bv mv dv, .slice A9v n9v a9v, .slice A10v n10v a10v, .int .i64 liv, .int .i64 prv, .bool opv, .slice A14v n14v a14v] 35)=W:=⟨_,rfl⟩
 have hb:Below w.heap.size w W:=by rw [←hW];exact al (al (Below.refl _ _) _) _
 have hs1:w.heap.size<W.heap.size:=by rw [←hW];simp;omega
 have hs2:w.heap.size+1<W.heap.size:=by rw [←hW];simp
 have x1:Cel W w.heap.size 35 #[.int .i64 sku, .string (txt ttu), .string (txt tnu), .string (txt tru), .slice A4u n4u a4u, .slice A5u n5u a5u, .slice A6u n6u a6u, .slice A7u n7u a7u, .int .i64 ku, .int .i64 ou, .int .i64 vku, .int .i64 vnu, .string vsu, .string nsu, .slice Bu mu du, .slice A9u n9u a9u, .slice A10u n10u a10u, .int .i64 liu, .int .i64 pru, .bool opu, .slice A14u n14u a14u]:=by rw [←hW];exact (Cel.new w _ _ rfl).alloc _
 have x2:Cel W (w.heap.size+1) 35 #[.int .i64 sku, .string (txt ttu), .string (txt tnu), .string (txt tru), .slice A4v n4v a4v, .slice A5v n5v a5v, .slice A6v n6v a6v, .slice A7v n7v a7v, .int .i64 kv, .int .i64 ov, .int .i64 vkv, .int .i64 vnv, .string vsv, .string nsv, .slice Bv mv dv, .slice A9v n9v a9v, .slice A10v n10v a10v, .int .i64 liv, .int .i64 prv, .bool opv, .slice A14v n14v a14v]:=by rw [←hW];exact Cel.new _ _ _ (by simp)
 have HB:=Lib.hid hb
 have HY:=Lib.hid (Below.refl W.heap.size W)
 have HS1:=Lib.hid hs1
 have HS2:=Lib.hid hs2
 have X1:=Lib.hid x1
 have X2:=Lib.hid x2
 have c0:=x1.at_ 0
 have d0:=x2.at_ 0
 have c1:=x1.at_ 1
 have d1:=x2.at_ 1
 have c2:=x1.at_ 2
 have d2:=x2.at_ 2
 have c3:=x1.at_ 3
 have d3:=x2.at_ 3
 have c17:=x1.at_ 17
 have d17:=x2.at_ 17
 clear x1 x2 hb hs1 hs2
 have e1:=Ne.symm e0
 have t1:(liu !=liv)=true:=bne_yes e1
 clear e0
 go_enter Tryz.func11,Tryz.ntmps11
 go_wp2
 go_ret
 exact ⟨rfl,HB.out⟩
end Go.Proofs.YtiaomhdmllhmmaaGreatDoor.Sm
