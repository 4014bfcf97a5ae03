/- strings.Builder: its copy check, and a text written behind what it holds, whatever else st A text written piece by piece by a strings.Builder's methods as values: what a call of the The rank of an expression, and what a sign asks for on both sides: the program's answers. A row that lists package-level variables, and whose walk reads another one: the wrap hands What a text becomes that is written piece by piece, and no further where it is too long; t An expression is written where a rank is asked for: in brackets, where its own is below th A column, and a sign between two, are written. -/
import Derived.Shelf.Strings.BuilderK
import Derived.WalkKit
import Derived.ProofKit
import Derived.Below
import Derived.ArgAppend
import Derived.Test.YtiaomhdmllhmmaaGreatDoorProg
import Derived.Test.YtiaomhdmllhmmaaGreatDoorK06
import Derived.Test.YtiaomhdmllhmmaaGreatDoorKShelf
import Derived.Test.YtiaomhdmllhmmaaGreatDoorK03
import Derived.HandedShaped
import Derived.Shelf.Vars
import Derived.Stop.Joined
import Derived.Test.YtiaomhdmllhmmaaGreatDoorK01
import Derived.StillTailTactics
import Derived.Laws.Concat
namespace Go.Proofs.YtiaomhdmllhmmaaGreatDoor.Mem
open Go.RowKit
set_option linter.unusedVariables false
abbrev tB:TypeId:=70
abbrev t8:TypeId:=5
set_option maxRecDepth 100000 in
theorem copy_fresh (b:Nat) (w:World) (h0:w.cell? ⟨b,0,none⟩=some (.pointer none)) (hsh:w.shape? b=some (tB,2)) (hfz:w.frozen? ⟨b,0,none⟩=false):
   Calls Tryz.prog 179 #[.pointer (some ⟨b,0,none⟩)] w fun e w' =>e= .returned (.tuple #[])∧w' =w.setCell ⟨b,0,none⟩ (.pointer (some ⟨b,0,none⟩)):=by
 obtain ⟨j,hj,hjs⟩:=Option.map_eq_some_iff.1 (show (Tryz.prog.info? 70).map (·.size)=some 2 by kernel_rfl)
 go_enter Tryz.func179,Tryz.ntmps179
 go_wp2
 rw [Lib.run_to_unsafe w ⟨b,0,none⟩ Tryz.underlying67 Tryz.underlying168 hj (by rw [hjs];decide) hsh (Nat.zero_lt_succ 1)]
 simp only [Result.andThen]
 rw [Oper.upon_value]
 go_wp2
 rw [run_callFunc_extern Tryz.func193 (by kernel_rfl) (by kernel_rfl) (by kernel_rfl) (e:=Extern.AbiNoEscape.same) (by kernel_rfl)]
 rw [Lib.run_noEscape]
 simp only [Result.andThen]
 rw [Oper.upon_value]
 go_wp2
 rw [Lib.run_from_unsafe w ⟨b,0,none⟩ Tryz.underlying168 Tryz.underlying67 hj hsh (by kernel_rfl)]
 simp only [Result.andThen]
 rw [Oper.upon_value]
 go_wp2
 go_end0
 exact ⟨rfl,rfl⟩
set_option maxRecDepth 100000 in
theorem copy_used (b:Nat) (w:World) (h0:w.cell? ⟨b,0,none⟩=some (.pointer (some ⟨b,0,none⟩))):
   Calls Tryz.prog 179 #[.pointer (some ⟨b,0,none⟩)] w fun e w' =>e= .returned (.tuple #[])∧w' =w:=by
 obtain ⟨j,hj,hjs⟩:=Option.map_eq_some_iff.1 (show (Tryz.prog.info? 70).map (·.size)=some 2 by kernel_rfl)
 go_enter Tryz.func179,Tryz.ntmps179
 go_wp2
 rw [Lib.run_neq_ptr_same w _ Tryz.underlying67 hj]
 go_wp2
 go_end0
 exact ⟨rfl,rfl⟩
theorem copy_any (B b:Nat) (bs:List Value) (w:World) (h:Lib.IsBuilderF tB t8 B b bs w):
   Calls Tryz.prog 179 #[.pointer (some ⟨b,0,none⟩)] w fun e w' =>e= .returned (.tuple #[])∧(Lib.BuilderAtF tB t8 B b (.pointer (some ⟨b,0,none⟩)) bs w' ∧Below B w w' ∧Lib.OthersKept t8 (some b) w w'):=by
 rcases h with h|h
 · refine (copy_fresh b w h.cell0 h.shape h.frozen0).mono ?_
   rintro e w' ⟨rfl,rfl⟩
   exact ⟨rfl,h.used _,(Below.refl B w).setCell (p:=⟨b,0,none⟩) h.1 _,(Lib.OthersKept.refl _ _ w).setCell ⟨b,0,none⟩ rfl _⟩
 · refine (copy_used b w h.cell0).mono ?_
   rintro e w' ⟨rfl,rfl⟩
   exact ⟨rfl,h,Below.refl B _,Lib.OthersKept.refl _ _ _⟩
set_option maxHeartbeats 2000000 in
set_option maxRecDepth 100000 in
theorem write_any (B b:Nat) (bs:List Value) (s:ByteArray) (w:World) (h:Lib.IsBuilderF tB t8 B b bs w) (hlen:bs.length+s.size≤140737488355328) (hBw:B≤w.heap.size):
   Calls Tryz.prog 129 #[.pointer (some ⟨b,0,none⟩), .string s] w fun e w' =>e= .returned (.tuple #[.int .i64 s.size, .nilIface])∧(Lib.BuilderAtF tB t8 B b (.pointer (some ⟨b,0,none⟩)) (bs++Lib.strCells s) w' ∧Below B w w' ∧Lib.OthersKept t8 (some b) w w'):=by
 obtain ⟨i0,hi,hz0,hz1,hz2⟩:=info_parts (show (Tryz.prog.info? 5).map (fun i=>(i.zero,i.size,i.bytes))=some (some (.int .u8 0),1,1) by kernel_rfl)
 go_enter Tryz.func129,Tryz.ntmps129
 go_wp2_with (go_at_call 179;refine (copy_any B b bs _ h).mono ?_)
 rintro e w1 ⟨rfl,h1,hb1,hk1⟩
 obtain ⟨hB,v,hbk,hown,hne⟩:=h1
 have c0:w1.cell? ⟨b,0,none⟩=some (.pointer (some ⟨b,0,none⟩)):=by rw [Lib.cell_of_heap hbk];rfl
 have c1:w1.cell? ⟨b,1,none⟩=some v:=by rw [Lib.cell_of_heap hbk];rfl
 go_wp2_with (at_builtin;refine Lib.wpList_append_own_stringF _ rfl _ _ 68 9 rfl B 5 i0 Tryz.underlying68 Tryz.underlying9 hi hz0 hz1 hz2 _ _ _ rfl hown s rfl ?c3 ?c4 ?c5 ?_)
 case c3=>unfold maxLen;omega
 case c4=>omega
 case c5=>have:=hb1.size;omega
 intro v' w2 hown' hgrow _
 have hlt:b<w1.heap.size:=by
   rcases Nat.lt_or_ge b w1.heap.size with h' |h'
   · exact h'
   · simp [Array.getElem?_eq_none h'] at hbk
 have hb2:w2.heap[b]?=some (.cells #[.pointer (some ⟨b,0,none⟩),v] tB (0,0)):=by
   rw [hgrow.block b hlt (fun e=>hne e.symm)]
   exact hbk
 have d0:w2.cell? ⟨b,0,none⟩=some (.pointer (some ⟨b,0,none⟩)):=by rw [Lib.cell_of_heap hb2];rfl
 have d1:w2.cell? ⟨b,1,none⟩=some v:=by rw [Lib.cell_of_heap hb2];rfl
 have f1:w2.frozen? ⟨b,1,none⟩=false:=Lib.frozen_of_heap hb2 1
 obtain ⟨ao,n',cap,rfl⟩:∃ao n' cap,v' = .slice ao n' cap:=by
   rcases hown'.2 with ⟨hv,_⟩|⟨g,cap,cur,fz,hv,_⟩
   · exact ⟨_,_,_,hv⟩
   · exact ⟨_,_,_,hv⟩
 go_wp2
 go_ret2
 refine ⟨rfl,?_,?_,(hk1.grown hgrow (Lib.ownsRowF_kind hown)).setCell ⟨b,1,none⟩ rfl _⟩
 · exact Lib.BuilderAtF.put (T:=tB) (e:=t8) hB hb2 (bs' :=bs++Lib.strCells s) (by simpa [Lib.strCells_length] using hown') (by decide)
 · exact (hb1.grown hgrow (by have:=hb1.size;omega) (fun k hk=>(hown.lt k hk).1)).setCell (p:=⟨b,1,none⟩) hB _
end Go.Proofs.YtiaomhdmllhmmaaGreatDoor.Mem
namespace Go.Proofs.YtiaomhdmllhmmaaGreatDoor.Ep
open Go.RowKit Mem Right Lx
set_option linter.unusedVariables false
def Bl (b:Nat) (l:List UInt8) (w:World):Prop:=Lib.IsBuilderF tB t8 b b (Lib.byteCells l) w∧b≤w.heap.size
def Wr (b:Nat) (w w' :World):Prop:=Below b w w' ∧Lib.OthersKept t8 (some b) w w'
section
variable {b:Nat} {w a c:World}
theorem Wr.refl (b:Nat) (w:World):Wr b w w:=⟨Below.refl _ _,Lib.OthersKept.refl _ _ _⟩
theorem Wr.trans (h:Wr b w a) (k:Wr b a c):Wr b w c:=⟨h.1.trans k.1,h.2.trans k.2⟩
theorem Wr.alloc (h:Wr b w a) (hb:b≤a.heap.size) (o:Obj):Wr b w (a.alloc o):=⟨h.1.alloc hb o,h.2.alloc o⟩
theorem Wr.drewN (h:Wr b w a) (n:Nat):Wr b w (a.drewN n):=⟨h.1.trans ⟨rfl,rfl,rfl,Nat.le_refl _,fun _ _=>rfl⟩,h.2⟩
theorem Wr.cel {B:Nat} {t:TypeId} {cs:Array Value} (h:Wr b w a) (hB:B≠b) (ht:t≠t8) (hc:Cel w B t cs):Cel a B t cs:=
 h.2 B _ hc (fun e=>hB (Option.some.inj e)) (fun cs' fz e=>ht (by injection e))
theorem Wr.of (h:Below w.heap.size w a) (hb:b≤w.heap.size):Wr b w a:=⟨h.mono hb,fun k o hk _ _=>(h.block k (blk_lt hk)).trans hk⟩
theorem Bl.alloc {l:List UInt8} (h:Bl b l w) (o:Obj):Bl b l (w.alloc o):=by
 refine ⟨h.1.elim (fun x=> .inl (x.alloc o)) (fun x=> .inr (x.alloc o)),?_⟩
 have:=h.2
 simp
 omega
theorem Bl.lt {l:List UInt8} (h:Bl b l w):b<w.heap.size:=h.1.elim (fun x=>x.lt) (fun x=>x.lt)
theorem len_bytes (l:List UInt8):(Lib.byteCells l).length=l.length:=Lib.byteCells_length l
end
theorem cells_text (s:ByteArray):Lib.strCells s=Lib.byteCells s.data.toList:=rfl
theorem put_any (b:Nat) (l:List UInt8) (s:ByteArray) (w:World) (h:Bl b l w) (hl:l.length+s.size≤1000000000):
   Calls Tryz.prog 129 #[.pointer (some ⟨b,0,none⟩), .string s] w fun e w' =>∃n,e= .returned (.tuple #[.int .i64 n, .nilIface])∧Bl b (l++s.data.toList) w' ∧Wr b w w' :=by
 refine (write_any b b (Lib.byteCells l) s w h.1 (by rw [len_bytes];omega) h.2).mono ?_
 rintro e w' ⟨rfl,h1,h2,h3⟩
 refine ⟨_,rfl,⟨.inr ?_,Nat.le_trans h.2 h2.size⟩,h2,h3⟩
 rw [cells_text] at h1
 have e:Lib.byteCells (l++s.data.toList)=Lib.byteCells l++Lib.byteCells s.data.toList:=by unfold Lib.byteCells;rw [List.map_append]
 rw [e]
 exact h1
theorem long_any (b:Nat) (l:List UInt8) (w:World) (h:Bl b l w):
   Calls Tryz.prog 28 #[.pointer (some ⟨b,0,none⟩)] w fun e w' =>e= .returned (.int .i64 (l.length:Int))∧w' =w:=by
 have:=Tryz.Builder_Len_f b b (Lib.byteCells l) w h.1
 rw [len_bytes] at this
 exact this
theorem told_any (b:Nat) (l:List UInt8) (w:World) (h:Bl b l w):
   Calls Tryz.prog 29 #[.pointer (some ⟨b,0,none⟩)] w fun e w' =>e= .returned (.string (txt l))∧Bl b l w' ∧Wr b w w' :=by
 refine (Tryz.Builder_String_any_k b b l w h.1 h.2).mono ?_
 rintro e w' ⟨rfl,h1,h2,h3⟩
 exact ⟨rfl,⟨h1,Nat.le_trans h.2 h2.size⟩,h2,h3⟩
end Go.Proofs.YtiaomhdmllhmmaaGreatDoor.Ep
namespace Go.Proofs.YtiaomhdmllhmmaaGreatDoor.Ep
open Go.RowKit Mem Right
set_option linter.unusedVariables false
theorem unRank_any (o:Int) (w:World):Calls Tryz.prog 226 #[.int .i64 o] w fun e w' =>e= .returned (.int .i64 (rk 4 o:Int))∧w=w' :=by
 by_cases h1:o=1
 · subst h1
   go_enter Tryz.func226,Tryz.ntmps226
   go_wp2
   go_ret
   exact ⟨rfl,rfl⟩
 by_cases h2:o=2
 · subst h2
   go_enter Tryz.func226,Tryz.ntmps226
   go_wp2
   go_ret
   exact ⟨rfl,rfl⟩
 have t1:(o==1)=false:=beq_no h1
 have t2:(o==2)=false:=beq_no h2
 have H:=Lib.hid (show (4:Int)=(rk 4 o:Int) by unfold rk;simp [h1,h2])
 clear h1 h2
 go_enter Tryz.func226,Tryz.ntmps226
 go_wp2
 go_ret
 exact ⟨ri H.out,rfl⟩
theorem binRank_any (o:Int) (w:World):Calls Tryz.prog 227 #[.int .i64 o] w fun e w' =>e= .returned (.int .i64 (rk 5 o:Int))∧w=w' :=by
 by_cases h:o=1 ∨ o=2 ∨ o=9 ∨ o=10 ∨ o=14 ∨ o=11 ∨ o=12 ∨ o=13
 · rcases h with rfl|rfl|rfl|rfl|rfl|rfl|rfl|rfl
   all_goals
     go_enter Tryz.func227,Tryz.ntmps227
     go_wp2
     go_ret
     exact ⟨rfl,rfl⟩
 have t1:(o==1)=false:=beq_no (by omega)
 have t2:(o==2)=false:=beq_no (by omega)
 have t3:(o==9)=false:=beq_no (by omega)
 have t4:(o==10)=false:=beq_no (by omega)
 have t5:(o==14)=false:=beq_no (by omega)
 have t6:(o==11)=false:=beq_no (by omega)
 have t7:(o==12)=false:=beq_no (by omega)
 have t8:(o==13)=false:=beq_no (by omega)
 have H:=Lib.hid (show (4:Int)=(rk 5 o:Int) by
   unfold rk
   rw [if_neg (by decide),if_neg (by decide),if_neg (by decide),if_neg (by omega),if_neg (by omega),if_neg (by omega),if_neg (by omega)]
   rfl)
 clear h
 go_enter Tryz.func227,Tryz.ntmps227
 go_wp2
 go_ret
 exact ⟨ri H.out,rfl⟩
theorem rk_le (k o:Int):rk k o≤8:=by
 unfold rk
 repeat' split
 all_goals omega
theorem askedOf_any (o:Int) (w:World):Calls Tryz.prog 252 #[.int .i64 o] w fun e w' =>e= .returned (.tuple #[.int .i64 (ask1 o:Int), .int .i64 (ask2 o:Int)])∧w=w' :=by
 obtain ⟨r,hr⟩:∃r,rk 5 o=r:=⟨_,rfl⟩
 have hr8:r≤8:=by rw [←hr];exact rk_le _ _
 have HR:=Lib.hid (show Calls Tryz.prog 227 #[.int .i64 o] w fun e w' =>e= .returned (.int .i64 (r:Int))∧w=w' by rw [←hr];exact binRank_any o w)
 by_cases h4:r=4
 · have H:=Lib.hid (show ask1 o=5∧ask2 o=5 by unfold ask1 ask2;rw [hr,if_pos h4,if_pos h4];exact ⟨rfl,rfl⟩)
   subst h4
   clear hr hr8
   go_enter Tryz.func252,Tryz.ntmps252
   go_wp2_with (go_at_call 227;(with_reducible refine HR.out.mono ?_);rintro e w' ⟨rfl,rfl⟩)
   go_ret2
   exact ⟨by rw [H.out.1,H.out.2];rfl,rfl⟩
 · have H:=Lib.hid (show ask1 o=r∧ask2 o=r+1 by unfold ask1 ask2;rw [hr,if_neg h4,if_neg h4];exact ⟨rfl,rfl⟩)
   have t4:((r:Int)==4)=false:=beq_no (by omega)
   clear hr h4
   go_enter Tryz.func252,Tryz.ntmps252
   go_wp2_with (go_at_call 227;(with_reducible refine HR.out.mono ?_);rintro e w' ⟨rfl,rfl⟩)
   go_ret2
   exact ⟨by rw [H.out.1,H.out.2];rfl,rfl⟩
set_option maxHeartbeats 1000000 in
theorem rank_any (k o vk vn:Int) (vs nm:ByteArray) (A:Option Addr) (n c:Nat) (w:World):
   Calls Tryz.prog 209 #[exV k o vk vn vs nm A n c] w fun e w' =>e= .returned (.int .i64 (rk k o:Int))∧Below w.heap.size w w' :=by
 have HB:=Lib.hid (al (Below.refl w.heap.size w) (.cells #[.int .i64 k, .int .i64 o, .int .i64 vk, .int .i64 vn, .string vs, .string nm, .slice A n c] 30))
 by_cases h4:k=4
 · subst h4
   go_enter Tryz.func209,Tryz.ntmps209
   go_wp2_with (go_at_call 226;(with_reducible refine (unRank_any _ _).mono ?_);rintro e w' ⟨rfl,rfl⟩)
   go_ret
   exact ⟨rfl,HB.out⟩
 by_cases h5:k=5
 · subst h5
   go_enter Tryz.func209,Tryz.ntmps209
   go_wp2_with (go_at_call 227;(with_reducible refine (binRank_any _ _).mono ?_);rintro e w' ⟨rfl,rfl⟩)
   go_ret
   exact ⟨rfl,HB.out⟩
 have t4:(k==4)=false:=beq_no h4
 have t5:(k==5)=false:=beq_no h5
 by_cases h6:k=6
 · subst h6
   go_enter Tryz.func209,Tryz.ntmps209
   go_wp2
   go_ret
   exact ⟨rfl,HB.out⟩
 have t6:(k==6)=false:=beq_no h6
 have H:=Lib.hid (show (8:Int)=(rk k o:Int) by unfold rk;rw [if_neg h6,if_neg h4,if_pos h5];rfl)
 clear h4 h5 h6
 go_enter Tryz.func209,Tryz.ntmps209
 go_wp2
 go_ret
 exact ⟨ri H.out,HB.out⟩
end Go.Proofs.YtiaomhdmllhmmaaGreatDoor.Ep
namespace Go.Proofs.YtiaomhdmllhmmaaGreatDoor.Mem
open Go.RowKit
variable {H:Type} {enc:TypeId × Value→H}
theorem some_max {W:World} (h:W.ShapedOpen Tryz.prog):∃m,W.cell? ⟨3,0,none⟩=some (.int .i64 m):=
 cell_of_shapedOpen_int (t:=3) (zero:= #[.int .i64 0]) h (of_decide_eq_true (by kernel_rfl)) (by kernel_rfl) rfl (by kernel_rfl) (by kernel_rfl) Tryz.underlying3
end Go.Proofs.YtiaomhdmllhmmaaGreatDoor.Mem
namespace Go.Proofs.YtiaomhdmllhmmaaGreatDoor.Ep
open Go.RowKit Mem Right Lx
set_option linter.unusedVariables false
def WT (l T l' :List UInt8):Prop:=l.length≤l'.length∧l'.length≤l.length+T.length∧(l' =l++T ∨ (400<l'.length∧400<l.length+T.length))
theorem WT.lit (l T:List UInt8):WT l T (l++T):=⟨by simp,by simp, .inl rfl⟩
theorem WT.trans {l T1 l1 T2 l2:List UInt8} (h:WT l T1 l1) (k:WT l1 T2 l2):WT l (T1++T2) l2:=by
 obtain ⟨h1,h2,h3⟩:=h
 obtain ⟨k1,k2,k3⟩:=k
 refine ⟨by omega,by rw [List.length_append];omega,?_⟩
 rw [List.length_append]
 rcases h3 with rfl|⟨a,b⟩
 · rcases k3 with rfl|⟨a,b⟩
   · exact .inl (List.append_assoc _ _ _)
   · rw [List.length_append] at b
     exact .inr ⟨a,by omega⟩
 · exact .inr ⟨by omega,by omega⟩
theorem WT.stop {l:List UInt8} (T:List UInt8) (h:400<l.length):WT l T l:=⟨Nat.le_refl _,by omega, .inr ⟨h,by omega⟩⟩
theorem WT.told {T l' :List UInt8} (h:WT [] T l'):(400<l'.length↔400<T.length)∧(l'.length≤400→l' =T):=by
 obtain ⟨h1,h2,h3⟩:=h
 rcases h3 with h3|⟨a,b⟩
 · rw [List.nil_append] at h3
   subst h3
   exact ⟨Iff.rfl,fun _=>rfl⟩
 · simp at b
   exact ⟨⟨fun _=>b,fun _=>a⟩,fun g=>by omega⟩
def osl:List (List UInt8):= [[79,82], [65,78,68], [61], [60,62], [60], [60,61], [62], [62,61], [43], [45], [42], [47], [37], [124,124]]
def OsT (w:World):Prop:=∀(k:Nat) (v:Value),(osl.map fun l=>Value.string ⟨l.toArray⟩)[k]?=some v→w.cell? ⟨5,k,none⟩=some v
def Osg (w:World):Prop:=OsT w∧∃m:Int,w.cell? ⟨3,0,none⟩=some (.int .i64 m)
abbrev gTop:Nat:=max 5 3
theorem g_signs {B:Nat} (h:gTop<B):5<B:=Nat.lt_of_le_of_lt (Nat.le_max_left _ _) h
theorem g_max {B:Nat} (h:gTop<B):3<B:=Nat.lt_of_le_of_lt (Nat.le_max_right _ _) h
theorem Osg.below {w w' :World} {B:Nat} (h:Osg w) (hb:Below B w w') (hB:gTop<B):Osg w' :=
 ⟨fun k v hv=>(hb.cell (p:=⟨5,k,none⟩) (g_signs hB)).trans (h.1 k v hv),by
   obtain ⟨m,hm⟩:=h.2
   exact ⟨m,(hb.cell (p:=⟨3,0,none⟩) (g_max hB)).trans hm⟩⟩
theorem Osg.lt {w:World} (h:Osg w):gTop<w.heap.size:=by
 obtain ⟨m,hm⟩:=h.2
 exact Nat.max_lt.2 ⟨cell_lt (h.1 0 _ rfl),cell_lt hm⟩
theorem osg_of_laid {l:List (String × DataW Unit)} {W:World} (h:laidMetH Tryz.prog l W) (hsh:W.ShapedOpen Tryz.prog) (hp:(l.all fun x=>x.2.handleName?.isNone)=true) (hm:("registrar/expr.signs",(Rows.laid_registrar_expr_signs:DataW Unit))∈l):Osg W:=
 ⟨laid_texts (L:=osl) h hp hm (by kernel_rfl) (by kernel_rfl) Tryz.underlying235 Tryz.underlying9 (by kernel_rfl) rfl,some_max hsh⟩
theorem Osg.sign {w:World} (h:Osg w) {j:Nat} (hj:j<14):w.cell? ⟨5,j,none⟩=some (.string (txt (sg ((j:Int)+1)))):=by
 refine h.1 j _ ?_
 match j,hj with
 |0,_|1,_|2,_|3,_|4,_|5,_|6,_|7,_|8,_|9,_|10,_|11,_|12,_|13,_=>rfl
theorem Bl.below {b:Nat} {l:List UInt8} {w w' :World} (h:Bl b l w) (hb:Below w.heap.size w w'):Bl b l w' :=by
 have go:∀p,Lib.BuilderAtF tB t8 b b p (Lib.byteCells l) w→Lib.BuilderAtF tB t8 b b p (Lib.byteCells l) w' :=fun p h=>by
   obtain ⟨h1,v,h2,h3,h4⟩:=h
   refine ⟨h1,v,(hb.block b (blk_lt h2)).trans h2,⟨h3.1,?_⟩,h4⟩
   rcases h3.2 with h5|⟨g,cap,cur,fz,hv,hg1,hg2,rest⟩
   · exact .inl h5
   · exact .inr ⟨g,cap,cur,fz,hv,hg1,(hb.block g (blk_lt hg2)).trans hg2,rest⟩
 exact ⟨h.1.elim (fun x=> .inl (go _ x)) (fun x=> .inr (go _ x)),Nat.le_trans h.2 hb.size⟩
abbrev tP:TypeId:=171
abbrev prV (b:Nat):Value:= .agg #[.func (.func 129) #[.pointer (some ⟨b,0,none⟩)] #[], .func (.func 28) #[.pointer (some ⟨b,0,none⟩)] #[]]
abbrev prC (b:Nat):Array Value:= #[.func (.func 129) #[.pointer (some ⟨b,0,none⟩)] #[], .func (.func 28) #[.pointer (some ⟨b,0,none⟩)] #[]]
def BareC (e:Ex):Prop:=∀(cs:List Value) (b:Nat) (l:List UInt8) (w:World),ExAt w b e cs→Bl b l w→Osg w→gTop<b→l.length+(tx (pcs e)).length≤1000000→
 Calls Tryz.prog 210 #[prV b, .agg cs.toArray] w fun x w' =>x= .returned (.tuple #[])∧∃l',Bl b l' w' ∧Wr b w w' ∧WT l (tx (pcs e)) l'
def KidC (e:Ex):Prop:=∀(cs:List Value) (b r:Nat) (l:List UInt8) (w:World),ExAt w b e cs→Bl b l w→Osg w→gTop<b→l.length+(tx (kidP e r)).length≤1000000→
 Calls Tryz.prog 194 #[prV b, .agg cs.toArray, .int .i64 (r:Int)] w fun x w' =>x= .returned (.tuple #[])∧∃l',Bl b l' w' ∧Wr b w w' ∧WT l (tx (kidP e r)) l'
theorem ExAt.wr {w w' :World} {b:Nat} {e:Ex} {cs:List Value} (h:ExAt w b e cs) (hw:Wr b w w'):ExAt w' b e cs:=ExAt.below h hw.1
theorem WT.len {l T l' :List UInt8} (h:WT l T l'):l'.length≤l.length+T.length:=h.2.1
end Go.Proofs.YtiaomhdmllhmmaaGreatDoor.Ep
namespace Go.Proofs.YtiaomhdmllhmmaaGreatDoor.Ep
open Go.RowKit Mem Right Lx
set_option linter.unusedVariables false
theorem wr_low {b:Nat} {w a:World} (h:Wr b w a):Below b w a:=h.1
set_option maxHeartbeats 4000000 in
theorem kid_of_bare {e:Ex} (hB:BareC e):KidC e:=by
 intro cs b r l w h hl hO hg hlen
 have hcs:=h
 obtain ⟨k,o,vk,vn,vs,nm,kids⟩:=e
 obtain ⟨A,kn,c,rfl, -⟩:=ex_open h
 have hrank:(Ex.mk k o vk vn vs nm kids).rank=rk k o:=rfl
 obtain ⟨e,he⟩:∃e,Ex.mk k o vk vn vs nm kids=e:=⟨_,rfl⟩
 rw [he] at hcs hB hrank hlen ⊢
 clear he h
 obtain ⟨rr,hrr⟩:∃rr,rk k o=rr:=⟨_,rfl⟩
 rw [hrr] at hrank
 have hbw:=hl.2
 have hw0:=((Wr.refl b w).alloc hbw (.cells (prC b) tP)).alloc (by simp;omega) (.cells #[.int .i64 k, .int .i64 o, .int .i64 vk, .int .i64 vn, .string (txt vs), .string (txt nm), .slice A kn c] tE)
 have hl0:=(hl.alloc (.cells (prC b) tP)).alloc (.cells #[.int .i64 k, .int .i64 o, .int .i64 vk, .int .i64 vn, .string (txt vs), .string (txt nm), .slice A kn c] tE)
 have hpb:Cel ((w.alloc (.cells (prC b) tP)).alloc (.cells #[.int .i64 k, .int .i64 o, .int .i64 vk, .int .i64 vn, .string (txt vs), .string (txt nm), .slice A kn c] tE)) w.heap.size tP (prC b):=(Cel.new w tP (prC b) rfl).alloc _
 have heb:Cel ((w.alloc (.cells (prC b) tP)).alloc (.cells #[.int .i64 k, .int .i64 o, .int .i64 vk, .int .i64 vn, .string (txt vs), .string (txt nm), .slice A kn c] tE)) (w.heap.size+1) tE #[.int .i64 k, .int .i64 o, .int .i64 vk, .int .i64 vn, .string (txt vs), .string (txt nm), .slice A kn c]:=Cel.new _ tE _ (by simp)
 obtain ⟨W,hW⟩:∃W,(w.alloc (.cells (prC b) tP)).alloc (.cells #[.int .i64 k, .int .i64 o, .int .i64 vk, .int .i64 vn, .string (txt vs), .string (txt nm), .slice A kn c] tE)=W:=⟨_,rfl⟩
 have hbw1:b<w.heap.size:=hl.lt
 rw [hW] at hw0 hl0 hpb heb
 have HW:=Lib.hid hw0
 have HLW:=Lib.hid hl0
 have HE:=Lib.hid (hcs.wr hw0)
 have HP:=Lib.hid hpb
 have HEB:=Lib.hid heb
 have HO:=Lib.hid (hO.below hw0.1 hg)
 have HLEN:=Lib.hid hlen
 have HLN:=Lib.hid (show Calls Tryz.prog 28 #[.pointer (some ⟨b,0,none⟩)] W fun e w' =>e= .returned (.int .i64 (l.length:Int))∧w' =W from long_any b l W hl0)
 have hX:∀W',Wr b W W' →W'.cell? ⟨w.heap.size,0,none⟩=some (.func (.func 129) #[.pointer (some ⟨b,0,none⟩)] #[])∧W'.cell? ⟨w.heap.size,1,none⟩=some (.func (.func 28) #[.pointer (some ⟨b,0,none⟩)] #[]):=fun W' hW' =>by
   have:=hW'.cel (by omega) (by decide) hpb
   exact ⟨this.at_ 0,this.at_ 1⟩
 have hY:∀W',Wr b W W' →W'.cell? ⟨w.heap.size+1,0,none⟩=some (.int .i64 k)∧W'.cell? ⟨w.heap.size+1,1,none⟩=some (.int .i64 o)∧W'.cell? ⟨w.heap.size+1,2,none⟩=some (.int .i64 vk)∧W'.cell? ⟨w.heap.size+1,3,none⟩=some (.int .i64 vn)∧W'.cell? ⟨w.heap.size+1,4,none⟩=some (.string (txt vs))∧W'.cell? ⟨w.heap.size+1,5,none⟩=some (.string (txt nm))∧W'.cell? ⟨w.heap.size+1,6,none⟩=some (.slice A kn c):=fun W' hW' =>by
   have:=hW'.cel (by omega) (by decide) heb
   exact ⟨this.at_ 0,this.at_ 1,this.at_ 2,this.at_ 3,this.at_ 4,this.at_ 5,this.at_ 6⟩
 have HX:=Lib.hid hX
 have HY:=Lib.hid hY
 have HBR:=Lib.hid (show ∀(l:List UInt8) W',ExAt W' b e [.int .i64 k, .int .i64 o, .int .i64 vk, .int .i64 vn, .string (txt vs), .string (txt nm), .slice A kn c]→Bl b l W' →Osg W' →l.length+(tx (pcs e)).length≤1000000→Calls Tryz.prog 210 #[prV b,exV k o vk vn (txt vs) (txt nm) A kn c] W' fun x w' =>x= .returned (.tuple #[])∧∃l',Bl b l' w' ∧Wr b W' w' ∧WT l (tx (pcs e)) l' from fun l W' h1 h2 h3 h4=>hB _ b l W' h1 h2 h3 hg h4)
 have HRK:=Lib.hid (show ∀W,Calls Tryz.prog 209 #[exV k o vk vn (txt vs) (txt nm) A kn c] W fun e w' =>e= .returned (.int .i64 (rr:Int))∧Below W.heap.size W w' from fun W=>by rw [←hrr];exact rank_any k o vk vn _ _ A kn c W)
 clear hcs hB hlen hw0 hl0 hpb heb hl hO hbw hrr hX hY
 obtain ⟨x0,x1⟩:=HX.out W (Wr.refl _ _)
 obtain ⟨y0,y1,y2,y3,y4,y5,y6⟩:=HY.out W (Wr.refl _ _)
 by_cases hlong:400<l.length
 · have tl:decide (400<(l.length:Int))=true:=decide_eq_true (by omega)
   have HST:=Lib.hid (WT.stop (tx (kidP e r)) hlong)
   clear hlong hrank
   go_enter Tryz.func194,Tryz.ntmps194
   go_wp2_with (first|(go_at_call 28;(with_reducible refine HLN.out.mono ?_);rintro e' w1 ⟨rfl,rfl⟩))
   go_end0
   exact ⟨rfl,l,HLW.out,HW.out,HST.out⟩
 have tl:decide (400<(l.length:Int))=false:=decide_eq_false (by omega)
 clear hlong
 by_cases hrk:rr<r
 · have tr:decide (rr<r)=true:=decide_eq_true hrk
   have HT:=Lib.hid (show tx (kidP e r)= [40]++(tx (pcs e)++ [41]) by
     unfold kidP asked br
     rw [hrank,decide_eq_true hrk,if_pos rfl,tx_some,tx_app,tx_some]
     rfl)
   have HLEN:=Lib.hid (show l.length+(tx (pcs e)).length+2≤1000000 by have:=HLEN.out;rw [HT.out] at this;simp at this;omega)
   have HPUT:=Lib.hid (show ∀(s:ByteArray) (m:List UInt8) W',Bl b m W' →m.length+s.size≤1000000000→Calls Tryz.prog 129 #[.pointer (some ⟨b,0,none⟩), .string s] W' fun e w' =>∃n,e= .returned (.tuple #[.int .i64 n, .nilIface])∧Bl b (m++s.data.toList) w' ∧Wr b W' w' from fun s m W' h1 h2=>put_any b m s W' h1 h2)
   clear hrk hrank
   go_enter Tryz.func194,Tryz.ntmps194
   go_wp2_with (first
     |(go_at_call 28;(with_reducible refine HLN.out.mono ?_);rintro e' w1 ⟨rfl,rfl⟩)
     |(go_at_call 209;(with_reducible refine (HRK.out _).mono ?_);rintro e' w1 ⟨rfl,hb1⟩;have HR1:=Lib.hid (Wr.of hb1 (Nat.le_of_lt HLW.out.lt));have HL1:=Lib.hid (HLW.out.below hb1);obtain ⟨x0,x1⟩:=HX.out w1 HR1.out;obtain ⟨y0,y1,y2,y3,y4,y5,y6⟩:=HY.out w1 HR1.out;clear hb1)
     |(go_at_call 129;(with_reducible refine (HPUT.out ⟨#[40]⟩ l w1 HL1.out (by have:=HLEN.out;rw [show (ByteArray.mk #[40]).size=1 from rfl];omega)).mono ?_);rintro e' w2 ⟨n2,rfl,hl2,hr2⟩;have HL2:=Lib.hid hl2;have HR2:=Lib.hid (HR1.out.trans hr2);obtain ⟨x0,x1⟩:=HX.out w2 HR2.out;obtain ⟨y0,y1,y2,y3,y4,y5,y6⟩:=HY.out w2 HR2.out;clear hl2 hr2)
     |(go_at_call 210;(with_reducible refine (HBR.out (l++ [40]) w2 (HE.out.wr HR2.out) HL2.out (HO.out.below (wr_low HR2.out) hg) (by have:=HLEN.out;rw [List.length_append,List.length_singleton];omega)).mono ?_);rintro e' w3 ⟨rfl,l3,hl3,hr3,ht3⟩;have HL3:=Lib.hid hl3;have HT3:=Lib.hid ht3;have HR3:=Lib.hid (HR2.out.trans hr3);obtain ⟨x0,x1⟩:=HX.out w3 HR3.out;obtain ⟨y0,y1,y2,y3,y4,y5,y6⟩:=HY.out w3 HR3.out;clear hl3 hr3 ht3)
     |(go_at_call 129;(with_reducible refine (HPUT.out ⟨#[41]⟩ l3 w3 HL3.out (by have:=HLEN.out;have:=HT3.out.len;rw [List.length_append,List.length_singleton] at this;rw [show (ByteArray.mk #[41]).size=1 from rfl];omega)).mono ?_);rintro e' w4 ⟨n4,rfl,hl4,hr4⟩;have HL4:=Lib.hid hl4;have HR4:=Lib.hid (HR3.out.trans hr4);clear hl4 hr4))
   go_end0
   refine ⟨rfl,_,HL4.out,HW.out.trans HR4.out,?_⟩
   rw [HT.out]
   exact (WT.lit l [40]).trans (HT3.out.trans (WT.lit l3 [41]))
 · have tr:decide (rr<r)=false:=decide_eq_false hrk
   have HT:=Lib.hid (show tx (kidP e r)=tx (pcs e) by
     unfold kidP asked br
     rw [hrank,decide_eq_false hrk,if_neg (by decide)])
   have HLEN:=Lib.hid (show l.length+(tx (pcs e)).length≤1000000 by have:=HLEN.out;rw [HT.out] at this;exact this)
   clear hrk hrank
   go_enter Tryz.func194,Tryz.ntmps194
   go_wp2_with (first
     |(go_at_call 28;(with_reducible refine HLN.out.mono ?_);rintro e' w1 ⟨rfl,rfl⟩)
     |(go_at_call 209;(with_reducible refine (HRK.out _).mono ?_);rintro e' w1 ⟨rfl,hb1⟩;have HR1:=Lib.hid (Wr.of hb1 (Nat.le_of_lt HLW.out.lt));have HL1:=Lib.hid (HLW.out.below hb1);obtain ⟨x0,x1⟩:=HX.out w1 HR1.out;obtain ⟨y0,y1,y2,y3,y4,y5,y6⟩:=HY.out w1 HR1.out;clear hb1)
     |(go_at_call 210;(with_reducible refine (HBR.out l w1 (HE.out.wr HR1.out) HL1.out (HO.out.below (wr_low HR1.out) hg) (by have:=HLEN.out;omega)).mono ?_);rintro e' w3 ⟨rfl,l3,hl3,hr3,ht3⟩;have HL3:=Lib.hid hl3;have HT3:=Lib.hid ht3;have HR3:=Lib.hid (HR1.out.trans hr3);clear hl3 hr3 ht3))
   go_end0
   refine ⟨rfl,_,HL3.out,HW.out.trans HR3.out,?_⟩
   rw [HT.out]
   exact HT3.out
end Go.Proofs.YtiaomhdmllhmmaaGreatDoor.Ep
namespace Go.Proofs.YtiaomhdmllhmmaaGreatDoor.Ep
open Go.RowKit Mem Right Lx
set_option linter.unusedVariables false
theorem boxes {w:World} {b:Nat} {l:List UInt8} (h:Bl b l w) (c1:Array Value) (t1:TypeId) (c2:Array Value) (t2:TypeId) (W:World) (hW:(w.alloc (.cells c1 t1)).alloc (.cells c2 t2)=W) (h1:t1≠t8) (h2:t2≠t8):
   Wr b w W∧Bl b l W∧(∀W',Wr b W W' →Cel W' w.heap.size t1 c1)∧(∀W',Wr b W W' →Cel W' (w.heap.size+1) t2 c2):=by
 have hbw:=h.lt
 subst hW
 exact ⟨((Wr.refl b w).alloc h.2 _).alloc (by simp;omega) _,(h.alloc _).alloc _,fun W' hW' =>hW'.cel (by omega) h1 ((Cel.new w t1 c1 rfl).alloc _),fun W' hW' =>hW'.cel (by omega) h2 (Cel.new _ t2 c2 (by simp))⟩
theorem below_wr {b:Nat} {w a c:World} (h:Wr b w a) (k:Wr b a c):Below b w c:=(h.trans k).1
set_option maxHeartbeats 4000000 in
set_option maxRecDepth 100000 in
theorem bare_col (nm:List UInt8):BareC (col nm):=by
 intro cs b l w h hl hO hg hlen
 have ht:tx (pcs (col nm))=nm:=by rw [pcs_col,tx_some];simp [tx]
 rw [ht] at hlen ⊢
 obtain ⟨A,kn,c,rfl, -⟩:=ex_open (show ExIn w _ (.mk 2 0 0 0 [] nm []) cs from h)
 obtain ⟨W,hW⟩:∃W,(w.alloc (.cells (prC b) tP)).alloc (.cells #[.int .i64 2, .int .i64 0, .int .i64 0, .int .i64 0, .string (txt []), .string (txt nm), .slice A kn c] tE)=W:=⟨_,rfl⟩
 obtain ⟨h1,h2,h3,h4⟩:=boxes hl _ _ _ _ W hW (by decide) (by decide)
 have x0:=(h3 W (Wr.refl _ _)).at_ 0
 have y0:=(h4 W (Wr.refl _ _)).at_ 0
 have y5:=(h4 W (Wr.refl _ _)).at_ 5
 have HP:=Lib.hid (put_any b l (txt nm) W h2 (by rw [txt_size];omega))
 have HW:=Lib.hid h1
 simp at x0 y0 y5
 clear h hl hO hlen ht h1 h2 h3 h4
 go_enter Tryz.func210,Tryz.ntmps210
 go_wp2_with (first|(go_at_call 129;(with_reducible refine HP.out.mono ?_);rintro e' w2 ⟨n2,rfl,hl2,hr2⟩;have HL2:=Lib.hid hl2;have HR2:=Lib.hid hr2;clear hl2 hr2))
 go_end0
 exact ⟨rfl,_,HL2.out,HW.out.trans HR2.out,WT.lit _ _⟩
theorem sign_text (l:List UInt8):(((⟨#[32]⟩:ByteArray)++txt l)++⟨#[32]⟩).data.toList=32::(l++ [32]):=by
 simp [ByteArray.data_append,txt]
theorem sign_size (l:List UInt8):(((⟨#[32]⟩:ByteArray)++txt l)++⟨#[32]⟩).size=l.length+2:=by
 simp [ByteArray.size_append,txt_size]
 have:(ByteArray.mk #[32]).size=1:=rfl
 omega
theorem len_ite (p:Prop) [Decidable p] (a b:List UInt8) (ha:a.length≤3) (hb:b.length≤3):(if p then a else b).length≤3:=by split<;>assumption
theorem sg_len (o:Int):(sg o).length≤3:=by
 unfold sg
 repeat (refine len_ite _ _ _ (by decide) ?_)
 decide
theorem sign_at (j:Nat) (hj:j<14) (w:World):(Instr.indexAt 235 (.pointer (some ⟨5,0,none⟩)) (.int .i64 (j:Int))).run Tryz.prog w= .ok (.pointer (some ⟨5,j,none⟩)) w:=by
 simp [Instr.indexAt,run_underlying Tryz.underlying235,asIntOf,go_sem]
 intro h
 omega
theorem wrap_i64 {n:Int} (h: -9223372036854775808≤n) (h' :n≤9223372036854775807):IntKind.i64.wrap n=n:=by
 simp [IntKind.wrap,IntKind.signed,IntKind.bits]
 omega
set_option maxHeartbeats 4000000 in
set_option maxRecDepth 100000 in
theorem bin_any {a c:Ex} (ha:KidC a) (hc:KidC c) (j:Nat) (hj:j<14) (ca cc:List Value) (b:Nat) (l:List UInt8) (w:World) (h1:ExAt w b a ca) (h2:ExAt w b c cc) (hl:Bl b l w) (hO:Osg w) (hg:gTop<b)
   (hlen:l.length+(tx (pcs (bin ((j:Int)+1) a c))).length≤1000000):
   Calls Tryz.prog 230 #[prV b, .int .i64 ((j:Int)+1), .agg ca.toArray, .agg cc.toArray] w fun x w' =>x= .returned (.tuple #[])∧∃l',Bl b l' w' ∧Wr b w w' ∧WT l (tx (pcs (bin ((j:Int)+1) a c))) l' :=by
 obtain ⟨o,ho⟩:∃o:Int,(j:Int)+1=o:=⟨_,rfl⟩
 have ht:tx (pcs (bin o a c))=tx (kidP a (ask1 o))++((32::(sg o++ [32]))++tx (kidP c (ask2 o))):=by
   rw [pcs_bin,tx_app,tx_none,tx_some,tx_none]
   have:(sgT o).2=sg o:=by unfold sgT;split<;>rfl
   rw [this]
   simp
 rw [ho] at hlen ⊢
 rw [ht] at hlen ⊢
 simp only [List.length_append,List.length_cons,List.length_nil] at hlen
 have hsgn:=hO.sign hj
 rw [ho] at hsgn
 have hka:=h1
 have hkc:=h2
 obtain ⟨k1,o1,vk1,vn1,vs1,nm1,kids1⟩:=a
 obtain ⟨k2,o2,vk2,vn2,vs2,nm2,kids2⟩:=c
 obtain ⟨A1,n1,c1,rfl, -⟩:=ex_open h1
 obtain ⟨A2,n2,c2,rfl, -⟩:=ex_open h2
 obtain ⟨a,hea⟩:∃a,Ex.mk k1 o1 vk1 vn1 vs1 nm1 kids1=a:=⟨_,rfl⟩
 obtain ⟨c,hec⟩:∃c,Ex.mk k2 o2 vk2 vn2 vs2 nm2 kids2=c:=⟨_,rfl⟩
 rw [hea] at hka ha hlen
 rw [hec] at hkc hc hlen
 rw [hea,hec]
 clear hea hec h1 h2 ht
 obtain ⟨r1,hr1⟩:∃r,ask1 o=r:=⟨_,rfl⟩
 obtain ⟨r2,hr2⟩:∃r,ask2 o=r:=⟨_,rfl⟩
 rw [hr1,hr2] at hlen ⊢
 have HAK:=Lib.hid (show ∀W,Calls Tryz.prog 252 #[.int .i64 o] W fun e w' =>e= .returned (.tuple #[.int .i64 (r1:Int), .int .i64 (r2:Int)])∧W=w' from fun W=>by rw [←hr1,←hr2];exact askedOf_any o W)
 obtain ⟨W0,hW0⟩:∃W0,w.alloc (.cells (prC b) tP)=W0:=⟨_,rfl⟩
 have hl0:Bl b l W0:=by rw [←hW0];exact hl.alloc _
 have hs0:W0.heap.size=w.heap.size+1:=by rw [←hW0];simp
 have hw0:Wr b w W0:=by rw [←hW0];exact (Wr.refl b w).alloc hl.2 _
 have hp0:Cel W0 w.heap.size tP (prC b):=by rw [←hW0];exact Cel.new w tP _ rfl
 obtain ⟨W,hW⟩:∃W,(W0.alloc (.cells #[.int .i64 k1, .int .i64 o1, .int .i64 vk1, .int .i64 vn1, .string (txt vs1), .string (txt nm1), .slice A1 n1 c1] tE)).alloc (.cells #[.int .i64 k2, .int .i64 o2, .int .i64 vk2, .int .i64 vn2, .string (txt vs2), .string (txt nm2), .slice A2 n2 c2] tE)=W:=⟨_,rfl⟩
 obtain ⟨g1,g2,g3,g4⟩:=boxes hl0 _ _ _ _ W hW (by decide) (by decide)
 have hbw:=hl.lt
 have gp:∀W',Wr b W W' →Cel W' w.heap.size tP (prC b):=fun W' hW' =>(g1.trans hW').cel (Nat.ne_of_gt hbw) (by decide) hp0
 have hX:∀W',Wr b W W' →W'.cell? ⟨w.heap.size,0,none⟩=some (.func (.func 129) #[.pointer (some ⟨b,0,none⟩)] #[])∧W'.cell? ⟨w.heap.size,1,none⟩=some (.func (.func 28) #[.pointer (some ⟨b,0,none⟩)] #[]):=fun W' hW' =>⟨(gp W' hW').at_ 0,(gp W' hW').at_ 1⟩
 have hY:∀W',Wr b W W' →W'.cell? ⟨W0.heap.size,0,none⟩=some (.int .i64 k1)∧W'.cell? ⟨W0.heap.size,1,none⟩=some (.int .i64 o1)∧W'.cell? ⟨W0.heap.size,2,none⟩=some (.int .i64 vk1)∧W'.cell? ⟨W0.heap.size,3,none⟩=some (.int .i64 vn1)∧W'.cell? ⟨W0.heap.size,4,none⟩=some (.string (txt vs1))∧W'.cell? ⟨W0.heap.size,5,none⟩=some (.string (txt nm1))∧W'.cell? ⟨W0.heap.size,6,none⟩=some (.slice A1 n1 c1):=fun W' hW' =>by
   have:=g3 W' hW'
   exact ⟨this.at_ 0,this.at_ 1,this.at_ 2,this.at_ 3,this.at_ 4,this.at_ 5,this.at_ 6⟩
 have hZ:∀W',Wr b W W' →W'.cell? ⟨W0.heap.size+1,0,none⟩=some (.int .i64 k2)∧W'.cell? ⟨W0.heap.size+1,1,none⟩=some (.int .i64 o2)∧W'.cell? ⟨W0.heap.size+1,2,none⟩=some (.int .i64 vk2)∧W'.cell? ⟨W0.heap.size+1,3,none⟩=some (.int .i64 vn2)∧W'.cell? ⟨W0.heap.size+1,4,none⟩=some (.string (txt vs2))∧W'.cell? ⟨W0.heap.size+1,5,none⟩=some (.string (txt nm2))∧W'.cell? ⟨W0.heap.size+1,6,none⟩=some (.slice A2 n2 c2):=fun W' hW' =>by
   have:=g4 W' hW'
   exact ⟨this.at_ 0,this.at_ 1,this.at_ 2,this.at_ 3,this.at_ 4,this.at_ 5,this.at_ 6⟩
 obtain ⟨x0,x1⟩:=hX W (Wr.refl _ _)
 obtain ⟨y0,y1,y2,y3,y4,y5,y6⟩:=hY W (Wr.refl _ _)
 obtain ⟨z0,z1,z2,z3,z4,z5,z6⟩:=hZ W (Wr.refl _ _)
 have hwW:=hw0.trans g1
 have HKA:=Lib.hid (show Calls Tryz.prog 194 #[prV b,exV k1 o1 vk1 vn1 (txt vs1) (txt nm1) A1 n1 c1, .int .i64 (r1:Int)] W fun x w' =>x= .returned (.tuple #[])∧∃l',Bl b l' w' ∧Wr b W w' ∧WT l (tx (kidP a r1)) l' from ha _ b r1 l W (hka.wr hwW) g2 (hO.below hwW.1 hg) hg (by omega))
 have HKC:=Lib.hid (show ∀(l' :List UInt8) W',Bl b l' W' →Wr b W W' →l'.length+(tx (kidP c r2)).length≤1000000→Calls Tryz.prog 194 #[prV b,exV k2 o2 vk2 vn2 (txt vs2) (txt nm2) A2 n2 c2, .int .i64 (r2:Int)] W' fun x w' =>x= .returned (.tuple #[])∧∃l2,Bl b l2 w' ∧Wr b W' w' ∧WT l' (tx (kidP c r2)) l2 from fun l' W' q1 q2 q3=>hc _ b r2 l' W' (hkc.wr (hwW.trans q2)) q1 (hO.below (below_wr hwW q2) hg) hg q3)
 have HPUT:=Lib.hid (show ∀(m:List UInt8) W',Bl b m W' →m.length+(sg o).length+2≤1000000→Calls Tryz.prog 129 #[.pointer (some ⟨b,0,none⟩), .string (((⟨#[32]⟩:ByteArray)++txt (sg o))++⟨#[32]⟩)] W' fun e w' =>∃n,e= .returned (.tuple #[.int .i64 n, .nilIface])∧Bl b (m++(32::(sg o++ [32]))) w' ∧Wr b W' w' from fun m W' q1 q2=>by
   have:=put_any b m (((⟨#[32]⟩:ByteArray)++txt (sg o))++⟨#[32]⟩) W' q1 (by rw [sign_size];omega)
   rw [sign_text] at this
   exact this)
 have HX:=Lib.hid hX
 have HZ:=Lib.hid hZ
 have HW:=Lib.hid hwW
 have HO:=Lib.hid (show ∀W',Wr b W W' →W'.cell? ⟨5,j,none⟩=some (.string (txt (sg o))) from fun W' hW' =>((below_wr hwW hW').cell (p:=⟨5,j,none⟩) (g_signs hg)).trans hsgn)
 obtain ⟨st,hst⟩:∃st,txt (sg o)=st:=⟨_,rfl⟩
 have hsz:st.size≤3:=by rw [←hst,txt_size];exact sg_len o
 rw [hst] at HPUT HO
 have HLEN:=Lib.hid hlen
 have hj1:o - 1=(j:Int):=by omega
 have hjw:IntKind.i64.wrap (j:Int)=(j:Int):=wrap_i64 (by omega) (by omega)
 have HOJ:=Lib.hid ho
 clear hka hkc ha hc hlen hsgn hr1 hr2 hl0 hs0 hw0 hp0 g1 g2 g3 g4 gp hX hY hZ hwW hO hl ho hst
 go_enter Tryz.func230,Tryz.ntmps230
 go_wp2_with (first
   |(go_at_call 252;(with_reducible refine (HAK.out _).mono ?_);rintro e' w1 ⟨rfl,rfl⟩)
   |(go_at_call 194;(with_reducible refine HKA.out.mono ?_);rintro e' w2 ⟨rfl,l2,hl2,hr2,ht2⟩;have HL2:=Lib.hid hl2;have HT2:=Lib.hid ht2;have HR2:=Lib.hid hr2;obtain ⟨x0,x1⟩:=HX.out w2 hr2;obtain ⟨z0,z1,z2,z3,z4,z5,z6⟩:=HZ.out w2 hr2;have sj:=HO.out w2 hr2;clear hl2 hr2 ht2))
 have hr3:Wr b W w2.drew:=⟨HR2.out.1.drew,HR2.out.2.drew⟩
 have hl3:Bl b l2 w2.drew:=HL2.out
 have HP3:=Lib.hid (HPUT.out l2 w2.drew hl3 (by have:=HT2.out.len;have:=HLEN.out;omega))
 refine wp_region_still_tail 8 (by kernel_rfl) (by kernel_rfl) ?_
 simp only [List.take_succ_cons,List.take_zero,List.drop_succ_cons,List.drop_zero]
 change wpStill _ _ (w2.drew) (fun a' =>wpList _ _ _ _ a' (w2.drew)) _ _
 clear x0 x1 z0 z1 z2 z3 z4 z5 z6 sj y0 y1 y2 y3 y4 y5 y6
 generalize w2.drew=w3 at*
 obtain ⟨x0,x1⟩:=HX.out w3 hr3
 have sj:=HO.out w3 hr3
 have HR3:=Lib.hid hr3
 have hia:=sign_at j hj w3
 have h32:(ByteArray.mk #[32]).size=1:=rfl
 have hca:=run_string_add_sum (P:=Tryz.prog) (w:=w3) ⟨#[32]⟩ st (by omega)
 have hcb:=run_string_add_sum (P:=Tryz.prog) (w:=w3) ((⟨#[32]⟩:ByteArray)++st) ⟨#[32]⟩ (by rw [ByteArray.size_append];omega)
 clear h32
 clear hr3 hl3
 repeat still_step
 refine wpStill_nil ?_
 go_wp2_with (first
   |(go_at_call 129;(with_reducible refine HP3.out.mono ?_);rintro e' w4 ⟨n4,rfl,hl4,hr4⟩;have HL4:=Lib.hid hl4;have HR4:=Lib.hid (HR3.out.trans hr4);obtain ⟨x0,x1⟩:=HX.out w4 HR4.out;obtain ⟨z0,z1,z2,z3,z4,z5,z6⟩:=HZ.out w4 HR4.out;clear hl4 hr4)
   |(go_at_call 194;(with_reducible refine (HKC.out _ w4 HL4.out HR4.out (by have:=HT2.out.len;have:=HLEN.out;simp only [List.length_append,List.length_cons,List.length_nil];omega)).mono ?_);rintro e' w5 ⟨rfl,l5,hl5,hr5,ht5⟩;have HL5:=Lib.hid hl5;have HT5:=Lib.hid ht5;have HR5:=Lib.hid (HR4.out.trans hr5);clear hl5 hr5 ht5))
 go_end0
 exact ⟨rfl,_,HL5.out,HW.out.trans HR5.out,HT2.out.trans ((WT.lit _ _).trans HT5.out)⟩
end Go.Proofs.YtiaomhdmllhmmaaGreatDoor.Ep
