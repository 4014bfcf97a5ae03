/- What value.quoted answers: the text between quotes, each of its own twice. The array that the digits are laid into: the block that the call makes for it, as long as  What num.Digits answers. What value.Show and value.Right answer. A value and a parameter are written. How long a value's text is. A right tree's text is not much longer than it has parts. The trees of a parser that lets go what is too high, and knows at the end that something w -/
import Derived.Test.YtiaomhdmllhmmaaGreatDoorK08
import Derived.Test.YtiaomhdmllhmmaaGreatDoorKShelf
import Derived.Below
import Derived.Laws.OwnMore
import Derived.Laws.Rows
import Derived.WalkKit
import Derived.WalkSpells
import Derived.WalkLawsBesides
import Derived.Lib.Hide
import Derived.Laws.IdiomStrings
import Derived.Test.YtiaomhdmllhmmaaGreatDoorRows
import Derived.Test.YtiaomhdmllhmmaaGreatDoorK01
import Derived.Deep.RegionHeld3
import Derived.Test.YtiaomhdmllhmmaaGreatDoorK07
import Derived.Test.YtiaomhdmllhmmaaGreatDoorK03
namespace Go.Proofs.YtiaomhdmllhmmaaGreatDoor.Val
open Go.RowKit Mem
set_option linter.unusedVariables false
theorem bytes_size (l:List UInt8):(⟨l.toArray⟩:ByteArray).size=l.length:=by simp [ByteArray.size]
theorem below_drawn {B:Nat} {w w' :World} (h:∃n,w' =w.drewN n):Below B w w' :=by
 obtain ⟨n,rfl⟩:=h
 exact ⟨rfl,rfl,rfl,Nat.le_refl _,fun _ _=>rfl⟩
theorem on2 {B:Nat} {w a b:World} (h:Below B w a) (hB:w.heap.size≤a.heap.size) (k:Below a.heap.size a b) (hw:B≤w.heap.size:=by exact Nat.le_refl _):Below B w b:=h.trans (k.mono (Nat.le_trans hw hB))
theorem count_quote (s:ByteArray) (cn:Nat) (h:s.data.toList.count 39=cn) (w:World):
   Calls Tryz.prog 263 #[.string s, .string ⟨#[39]⟩] w fun e w' =>e= .returned (.int .i64 (cn:Int))∧w=w' :=
 (Tryz.strings_Count_one s 39 w).mono fun _ _ ⟨h1,h2⟩=>⟨by rw [h1,←h];rfl,h2.symm⟩
theorem cut_none (s:ByteArray) (l:List UInt8) (hl:s.data.toList=l) (h:39 ∉ l) (m:Int) (w:World) (hs:s.size<4294967281) (hm:w.cell? ⟨3,0,none⟩=some (.int .i64 m)):
   Calls Tryz.prog 264 #[.string s, .string ⟨#[39]⟩] w fun e w' =>e= .returned (.tuple #[.string ⟨l.toArray⟩, .string ⟨#[]⟩, .bool false])∧Below w.heap.size w w' :=
 (Tryz.strings_Cut s ⟨#[39]⟩ m w hs hm).mono fun _ _ ⟨h1,h2⟩=>⟨by rw [h1,hl,show (⟨#[39]⟩:ByteArray).data.toList= [39] from rfl,cut_no h],below_drawn h2⟩
theorem cut_some (s:ByteArray) (a r:List UInt8) (hl:s.data.toList=a++39::r) (h:39 ∉ a) (m:Int) (w:World) (hs:s.size<4294967281) (hm:w.cell? ⟨3,0,none⟩=some (.int .i64 m)):
   Calls Tryz.prog 264 #[.string s, .string ⟨#[39]⟩] w fun e w' =>e= .returned (.tuple #[.string ⟨a.toArray⟩, .string ⟨r.toArray⟩, .bool true])∧Below w.heap.size w w' :=
 (Tryz.strings_Cut s ⟨#[39]⟩ m w hs hm).mono fun _ _ ⟨h1,h2⟩=>⟨by rw [h1,hl,show (⟨#[39]⟩:ByteArray).data.toList= [39] from rfl,cut_yes r h],below_drawn h2⟩
set_option maxHeartbeats 1000000 in
theorem quoted_any (s:ByteArray) (m:Int) (w:World) (hs:s.size<4294967281) (hm:w.cell? ⟨3,0,none⟩=some (.int .i64 m)):
    Calls Tryz.prog 245 #[.string s] w fun e w' =>e= .returned (.string ⟨(quo s.data.toList).toArray⟩)∧Below w.heap.size w w' :=by
  obtain ⟨cn,hcn⟩:∃cn,s.data.toList.count 39=cn:=⟨_,rfl⟩
  have hcl:cn≤s.size:=by rw [←hcn];exact List.count_le_length
  obtain ⟨N,hN⟩:∃N,(quo s.data.toList).length=N:=⟨_,rfl⟩
  have hsum:(s.size:Int)+(cn:Int)+2=(N:Int):=by
    have h:=quo_len s.data.toList
    have h2:s.data.toList.length=s.size:=by rw [Array.length_toList];rfl
    rw [hN,hcn,h2] at h;omega
  have hNle:N≤8589934564:=by omega
  have hB0:3<w.heap.size:=cell_lt hm
  have HM:=Lib.hid hm
  have HC:=Lib.hid hcn
  have HN:=Lib.hid hN
  have hmk:=make_row w N (by omega)
  have HB:=Lib.hid (Buf.made w N)
  have HB1:=Lib.hid ((Below.refl w.heap.size w).alloc (Nat.le_refl _) (.cells (madeCells (Value.int .u8 0).cells N) 5))
  clear hm hcn hN
  go_enter Tryz.func245,Tryz.ntmps245
  go_wp2_with (first|(go_at_call 263;refine (count_quote s cn HC.out _).mono ?_;rintro e w' ⟨rfl,rfl⟩)|(refine wpList_copy_list rfl (.tmp 15) _ rfl HB.out [39] 0 1 N rfl rfl rfl rfl (show 0+1≤N by omega) ?_;intro w1 hb1 hk1;have HB2:=Lib.hid hb1;have HB3:=Lib.hid (hk1 _ _ HB1.out (Nat.le_refl _));clear hb1 hk1))
  go_loopw [0,4] (fun t i wr=>∃done left:List UInt8,t= .string ⟨left.toArray⟩∧i= .int .i64 (done.length:Nat)∧Hid (Buf wr w.heap.size N done)∧Hid (done++(q left++ [39])=quo s.data.toList)∧Hid (Below w.heap.size w wr)∧Hid (left.length≤s.size)) (fun _ i _=>N - (intOf i).toNat)
  case atStart=>exact ⟨[39],s.data.toList,rfl,rfl,HB2,Lib.hid rfl,HB3,Lib.hid (Nat.le_of_eq (show s.data.toList.length=s.size by rw [Array.length_toList];rfl))⟩
  case round=>
    obtain ⟨done,left,rfl,rfl,HD,HE,HW,HR⟩:=hrel
    have hle:=HR.out
    have hmr:=Lib.hid ((HW.out.cell (p:=⟨3,0,none⟩) hB0).trans HM.out)
    have hlen:=congrArg List.length HE.out
    rw [List.length_append,List.length_append,HN.out] at hlen
    have hls:=bytes_size left
    rcases parted left with hp|⟨a,r,hp,rfl⟩
    · have hq:=q_free hp
      rw [hq] at hlen
      simp only [List.length_cons,List.length_nil] at hlen
      obtain ⟨p,hpd⟩:∃p,done.length=p:=⟨_,rfl⟩
      obtain ⟨n,hnd⟩:∃n,left.length=n:=⟨_,rfl⟩
      rw [hpd,hnd] at hlen
      have hsl:=fun W=>slice_row W w.heap.size N p p rfl (by omega)
      have hsl2:=fun W=>slice_row W w.heap.size N (p+n) ((p:Int)+(n:Int)) (by omega) (by omega)
      rw [hpd]
      have HP:=Lib.hid hpd
      have HL:=Lib.hid hnd
      have HQ:=Lib.hid hq
      have HS:=Lib.hid (show (⟨left.toArray⟩:ByteArray).size<4294967281 by omega)
      have HX:=Lib.hid hp
      clear hpd hnd hp hls hq hle
      go_wp2_with (first|(go_at_call 264;refine (cut_none ⟨left.toArray⟩ left rfl HX.out m _ HS.out hmr.out).mono ?_;rintro e w1 ⟨rfl,hb1⟩;have HD1:=Lib.hid (HD.out.below hb1 HD.out.lt);have HW1:=Lib.hid (on2 HW.out HW.out.size hb1);clear hb1)|(refine wpList_copy_list rfl (.tmp 26) (.tmp 27) rfl HD1.out left p n (N - p) HP.out HL.out rfl rfl (by omega) ?_;intro w2 hb2 hk2;have HD2:=Lib.hid hb2;have HW2:=Lib.hid (hk2 _ _ HW1.out (Nat.le_refl _));clear hb2 hk2)|(refine wpList_copy_list rfl (.tmp 41) _ rfl HD2.out [39] (p+n) 1 (N - (p+n)) (by rw [List.length_append,HP.out,HL.out]) rfl rfl rfl (by omega) ?_;intro w3 hb3 hk3;have HW3:=Lib.hid (hk3 _ _ HW2.out (Nat.le_refl _));have hrt:=row_text _ _ _ _ hb3 (by rw [List.length_append,List.length_append,HP.out,HL.out];simp only [List.length_cons,List.length_nil];omega);clear hb3 hk3))
      go_ret
      refine ⟨rs ?_,HW3.out⟩
      rw [←HE.out,HQ.out]
    · have hq:=q_part a r hp
      rw [hq] at hlen
      simp only [List.length_cons,List.length_nil,List.length_append] at hlen
      simp only [List.length_cons,List.length_append] at hle hls
      obtain ⟨p,hpd⟩:∃p,done.length=p:=⟨_,rfl⟩
      obtain ⟨n,hnd⟩:∃n,a.length=n:=⟨_,rfl⟩
      rw [hpd,hnd] at hlen
      rw [hnd] at hle hls
      have hsl:=fun W=>slice_row W w.heap.size N p p rfl (by omega)
      have hsl2:=fun W=>slice_row W w.heap.size N (p+n) ((p:Int)+(n:Int)) (by omega) (by omega)
      rw [hpd]
      have HP:=Lib.hid hpd
      have HL:=Lib.hid hnd
      have HQ:=Lib.hid hq
      have HS:=Lib.hid (show (⟨(a++39::r).toArray⟩:ByteArray).size<4294967281 by omega)
      have HX:=Lib.hid hp
      have HR2:=Lib.hid (show r.length≤s.size by omega)
      have hpn:p+n+2≤N:=by omega
      clear hpd hnd hp hls hq hle hlen
      go_wp2_with (first|(go_at_call 264;refine (cut_some ⟨(a++39::r).toArray⟩ a r rfl HX.out m _ HS.out hmr.out).mono ?_;rintro e w1 ⟨rfl,hb1⟩;have HD1:=Lib.hid (HD.out.below hb1 HD.out.lt);have HW1:=Lib.hid (on2 HW.out HW.out.size hb1);clear hb1)|(refine wpList_copy_list rfl (.tmp 26) (.tmp 27) rfl HD1.out a p n (N - p) HP.out HL.out rfl rfl (by omega) ?_;intro w2 hb2 hk2;have HD2:=Lib.hid hb2;have HW2:=Lib.hid (hk2 _ _ HW1.out (Nat.le_refl _));clear hb2 hk2)|(refine wpList_copy_list rfl (.tmp 35) _ rfl HD2.out [39,39] (p+n) 2 (N - (p+n)) (by rw [List.length_append,HP.out,HL.out]) rfl rfl rfl (by omega) ?_;intro w3 hb3 hk3;have HD3:=Lib.hid hb3;have HW3:=Lib.hid (hk3 _ _ HW2.out (Nat.le_refl _));clear hb3 hk3))
      go_roundw
      case rel=>
        refine ⟨(done++a)++ [39,39],r,rfl,?_,HD3,Lib.hid ?_,HW3,HR2⟩
        · rw [List.length_append,List.length_append,HP.out,HL.out];go_num
        · rw [←HE.out,HQ.out];simp
      case measure=>simp [intOf];omega
end Go.Proofs.YtiaomhdmllhmmaaGreatDoor.Val
namespace Go.Proofs.YtiaomhdmllhmmaaGreatDoor.Num
open Go.RowKit
def ArrAt (w:World) (g:Nat) (cs:Array Value):Prop:=w.heap[g]?=some (.cells cs 250 (0,0))
theorem ArrAt.made (w:World) (cs:Array Value):ArrAt (w.alloc (.cells cs 250)) w.heap.size cs:=by
 unfold ArrAt
 exact heap_alloc_new w _
theorem ArrAt.at_cell {w:World} {g:Nat} {cs:Array Value} (h:ArrAt w g cs) (i:Nat):w.cell? ⟨g,i,none⟩=cs[i]?:=
 cell_of_row w g i cs _ _ h
theorem ArrAt.open_ {w:World} {g:Nat} {cs:Array Value} (h:ArrAt w g cs) (i:Nat):w.frozen? ⟨g,i,none⟩=false:=by
 have h' :w.heap[g]?=some (.cells cs 250 (0,0)):=h
 simp only [World.frozen?,h']
 simp
theorem ArrAt.put {w:World} {g:Nat} {cs:Array Value} (h:ArrAt w g cs) (i:Nat) (v:Value):ArrAt (w.setCell ⟨g,i,none⟩ v) g (cs.setIfInBounds i v):=by
 have h' :w.heap[g]?=some (.cells cs 250 (0,0)):=h
 show (w.heap.modify g _)[g]?=_
 rw [Array.getElem?_modify,h']
 simp
end Go.Proofs.YtiaomhdmllhmmaaGreatDoor.Num
namespace Go.Proofs.YtiaomhdmllhmmaaGreatDoor.Num
open Go.RowKit
set_option linter.unusedVariables false
def Tail (cs:Array Value) (p:Nat) (t:List UInt8):Prop:=cs.size=20∧t.length+p=20∧∀j (h:j<t.length),cs[p+j]?=some (.int .u8 (t[j].toNat:Int))
theorem Tail.put {cs:Array Value} {p:Nat} {t:List UInt8} {x:UInt8} {z:Int} (hx:(x.toNat:Int)=z) (h:Tail cs p t) (hp:1≤p):Tail (cs.setIfInBounds (p - 1) (.int .u8 z)) (p - 1) (x::t):=by
 subst hx
 obtain ⟨hs,hl,hc⟩:=h
 refine ⟨by simpa using hs,by simp;omega,fun j hj=>?_⟩
 cases j with
 | zero=>
   simp [show p - 1<cs.size by omega]
 | succ j=>
   have hj' :j<t.length:=by simpa using hj
   have:=hc j hj'
   have e:p - 1+(j+1)=p+j:=by omega
   rw [e,Array.getElem?_setIfInBounds_ne (by omega)]
   simpa using this
theorem Tail.push {cs:Array Value} {p m:Nat} {t:List UInt8} (h:Tail cs p t) (hp:1≤p):Tail (cs.setIfInBounds (p - 1) (.int .u8 (48+(m:Int) % 10))) (p - 1) (dc m::t):=
 h.put (dc_int m) hp
theorem arr_len:Tryz.prog.arrayLen 250=20:=by simp [Program.arrayLen,Tryz.underlying250]
theorem arr_elem:Tryz.prog.elem 250=5:=by simp [Program.elem,Tryz.underlying250]
theorem slice_arr (W:World) (g q:Nat) (l:Int) (hl:l=q) (hq:q<20):
   (Instr.sliceAt 250 (.pointer (some ⟨g,0,none⟩)) (some (.int .i64 l)) none none).run Tryz.prog W= .ok (.slice (some ⟨g,q,none⟩) (20 - q) (20 - q)) W:=by
 subst hl
 rw [run_sliceAt_array_l W 250 ⟨g,0,none⟩ (by rw [arr_len,arr_elem];exact Tryz.underlying250) .i64 q (by omega) (by rw [arr_len];omega),arr_len,arr_elem]
 have hs:(sizeOf 5).run Tryz.prog W= .ok 1 W:=by kernel_rfl
 rw [hs]
 have h1:¬20=((q:Int)).toNat:=by omega
 have h2:((q:Int)).toNat=q:=by omega
 simp only [Result.andThen,slicedAt,h2] at h1 ⊢
 rw [if_neg h1]
 unfold Addr.add
 by_cases h0:q=0
 · subst h0;simp
 · simp [h0]
theorem text_of (W:World) (g q:Nat) (cs:Array Value) (t:List UInt8) (hb:ArrAt W g cs) (ht:Tail cs q t):
   (convert 68 9 (.slice (some ⟨g,q,none⟩) (20 - q) (20 - q))).run Tryz.prog W= .ok (.string ⟨t.toArray⟩) W:=by
 have e:20 - q=t.length:=by have:=ht.2.1;omega
 rw [e]
 refine run_convert_bytes_back W 68 9 5 ⟨g,q,none⟩ _ t Tryz.underlying68 Tryz.underlying5 Tryz.underlying9 fun j hj=>?_
 have h:=ht.2.2 j hj
 have e2:(⟨g,q,none⟩:Addr).add j=⟨g,q+j,none⟩:=by unfold Addr.add;split<;>simp_all
 rw [e2,hb.at_cell];exact h
set_option maxHeartbeats 400000 in
set_option maxRecDepth 100000 in
theorem digits_pos (n:Nat) (hn:n≤9223372036854775807) (w:World):
    Calls Tryz.prog 251 #[.int .i64 (n:Int)] w fun e w' =>e= .returned (.string ⟨(dg n).toArray⟩)∧Below w.heap.size w w' :=by
  have hl:=dg_len19 (show n≤9223372036854775808 by omega)
  go_enter Tryz.func251,Tryz.ntmps251
  go_wp2
  go_loopw [4,5] (fun l i wr=>∃(m p:Nat) (cs:Array Value) (t:List UInt8),l= .int .u64 (m:Int)∧i= .int .i64 (p:Int)∧ArrAt wr w.heap.size cs∧Tail cs p t∧dg m++t=dg n∧m≤n∧Below w.heap.size w wr) (fun _ i _=>(intOf i).toNat)
  case atStart=>
    exact ⟨n,20,_, [],rfl,rfl,ArrAt.made _ _,⟨rfl,rfl,fun j h=>by simp at h⟩,by simp,Nat.le_refl _,(Below.refl _ _).alloc (Nat.le_refl _) _⟩
  case round=>
    obtain ⟨m,p,cs,t,rfl,rfl,hb,⟨hs,ht,hc⟩,hd,hmn,hw⟩:=hrel
    have hm1:=dg_pos m
    have hlen:=congrArg List.length hd
    rw [List.length_append] at hlen
    have hp:2≤p∧p≤20:=by omega
    obtain ⟨v,hv⟩:∃v,cs[p - 1]?=some v:=⟨cs[p - 1]'(by omega),Array.getElem?_eq_getElem (by omega)⟩
    have hcell:=(hb.at_cell (p - 1)).trans hv
    have hfz:=hb.open_ (p - 1)
    have HB:=Lib.hid hb
    have HC:=Lib.hid hc
    have HD:=Lib.hid hd
    have HT:=Lib.hid ht
    have HS:=Lib.hid hs
    clear hb hc hd ht hs hv hlen
    have hsl:∀W:World,(Instr.sliceAt 250 (.pointer (some ⟨w.heap.size,0,none⟩)) (some (.int .i64 ((p:Int) - 1))) none none).run Tryz.prog W= .ok (.slice (some ⟨w.heap.size,p - 1,none⟩) (20 - (p - 1)) (20 - (p - 1))) W:=
      fun W=>slice_arr W _ (p - 1) _ (by omega) (by omega)
    have hB1:=HB.out.put (p - 1) (.int .u8 (48+(m:Int) % 10))
    have hT1:=Tail.push (m:=m) ⟨HS.out,HT.out,HC.out⟩ (by omega)
    by_cases h10:m<10
    · have hq:((m:Int) / 10==0)=true:=by simp;omega
      have htx:=text_of _ _ _ _ _ hB1 hT1
      clear hB1 hT1
      go_wp2
      go_ret
      exact ⟨ret_str (by rw [←HD.out,dg_small h10];rfl),hw.setCell (Nat.le_refl _) _⟩
    · have hq:((m:Int) / 10==0)=false:=by simp;omega
      have HB1:=Lib.hid hB1
      have HT1:=Lib.hid hT1
      clear hB1 hT1 hsl
      go_wp2
      go_roundw
      case rel=>
        refine ⟨m / 10,p - 1,_,_,by go_num,by go_num,HB1.out,HT1.out,?_,by omega,?_⟩
        · rw [←HD.out,dg_step h10];simp
        · exact hw.setCell (Nat.le_refl _) _
      case measure=>simp [intOf];omega
set_option maxHeartbeats 400000 in
set_option maxRecDepth 100000 in
theorem digits_neg (n:Nat) (h0:1≤n) (hn:n≤9223372036854775808) (w:World):
    Calls Tryz.prog 251 #[.int .i64 (-(n:Int))] w fun e w' =>e= .returned (.string ⟨(45::dg n).toArray⟩)∧Below w.heap.size w w' :=by
  have hl:=dg_len19 (show n≤9223372036854775808 by omega)
  go_enter Tryz.func251,Tryz.ntmps251
  go_wp2
  go_loopw [4,5] (fun l i wr=>∃(m p:Nat) (cs:Array Value) (t:List UInt8),l= .int .u64 (m:Int)∧i= .int .i64 (p:Int)∧ArrAt wr w.heap.size cs∧Tail cs p t∧dg m++t=dg n∧m≤n∧Below w.heap.size w wr) (fun _ i _=>(intOf i).toNat)
  case atStart=>
    exact ⟨n,20,_, [],val_u64 (wrap_neg2 hn),rfl,ArrAt.made _ _,⟨rfl,rfl,fun j h=>by simp at h⟩,by simp,Nat.le_refl _,(Below.refl _ _).alloc (Nat.le_refl _) _⟩
  case round=>
    obtain ⟨m,p,cs,t,rfl,rfl,hb,⟨hs,ht,hc⟩,hd,hmn,hw⟩:=hrel
    have hm1:=dg_pos m
    have hlen:=congrArg List.length hd
    rw [List.length_append] at hlen
    have hp:2≤p∧p≤20:=by omega
    obtain ⟨v,hv⟩:∃v,cs[p - 1]?=some v:=⟨cs[p - 1]'(by omega),Array.getElem?_eq_getElem (by omega)⟩
    have hcell:=(hb.at_cell (p - 1)).trans hv
    have hfz:=hb.open_ (p - 1)
    have HB:=Lib.hid hb
    have HC:=Lib.hid hc
    have HD:=Lib.hid hd
    have HT:=Lib.hid ht
    have HS:=Lib.hid hs
    clear hb hc hd ht hs hv hlen
    have hsl:∀W:World,(Instr.sliceAt 250 (.pointer (some ⟨w.heap.size,0,none⟩)) (some (.int .i64 ((p:Int) - 1 - 1))) none none).run Tryz.prog W= .ok (.slice (some ⟨w.heap.size,p - 1 - 1,none⟩) (20 - (p - 1 - 1)) (20 - (p - 1 - 1))) W:=
      fun W=>slice_arr W _ (p - 1 - 1) _ (by omega) (by omega)
    have hB1:=HB.out.put (p - 1) (.int .u8 (48+(m:Int) % 10))
    have hT1:=Tail.push (m:=m) ⟨HS.out,HT.out,HC.out⟩ (by omega)
    by_cases h10:m<10
    · have hq:((m:Int) / 10==0)=true:=by simp;omega
      have hp2:1≤p - 1:=by omega
      obtain ⟨v2,hv2⟩:∃v,cs[p - 1 - 1]?=some v:=⟨cs[p - 1 - 1]'(by have:=HS.out;omega),Array.getElem?_eq_getElem (by have:=HS.out;omega)⟩
      have hcell2:=(HB.out.at_cell (p - 1 - 1)).trans hv2
      have hfz2:=HB.out.open_ (p - 1 - 1)
      have htx:=text_of _ _ _ _ _ (hB1.put (p - 1 - 1) (.int .u8 45)) (hT1.put (x:=45) (z:=45) rfl hp2)
      clear hB1 hT1 hv2
      go_wp2
      go_ret
      exact ⟨ret_str (by rw [←HD.out,dg_small h10];rfl),(hw.setCell (Nat.le_refl _) _).setCell (Nat.le_refl _) _⟩
    · have hq:((m:Int) / 10==0)=false:=by simp;omega
      have HB1:=Lib.hid hB1
      have HT1:=Lib.hid hT1
      clear hB1 hT1 hsl
      go_wp2
      go_roundw
      case rel=>
        refine ⟨m / 10,p - 1,_,_,by go_num,by go_num,HB1.out,HT1.out,?_,by omega,?_⟩
        · rw [←HD.out,dg_step h10];simp
        · exact hw.setCell (Nat.le_refl _) _
      case measure=>simp [intOf];omega
set_option maxRecDepth 100000 in
theorem digits_any (a:Int) (ha: -9223372036854775808≤a) (ha' :a≤9223372036854775807) (w:World):
   Calls Tryz.prog 251 #[.int .i64 a] w fun e w' =>e= .returned (.string ⟨(dgz a).toArray⟩)∧Below w.heap.size w w' :=by
 by_cases h:a<0
 · have e:a= -((a.natAbs:Nat):Int):=by omega
   have k:dgz a=45::dg a.natAbs:=by unfold dgz;rw [if_pos h]
   rw [k]
   have:=digits_neg a.natAbs (by omega) (by omega) w
   rw [←e] at this;exact this
 · have e:a=((a.natAbs:Nat):Int):=by omega
   have k:dgz a=dg a.natAbs:=by unfold dgz;rw [if_neg h]
   rw [k]
   have:=digits_pos a.natAbs (by omega) w
   rw [←e] at this;exact this
end Go.Proofs.YtiaomhdmllhmmaaGreatDoor.Num
namespace Go.Proofs.YtiaomhdmllhmmaaGreatDoor.Val
open Go.RowKit Mem
set_option linter.unusedVariables false
theorem held_alloc {w:World} {b:Nat} {v:Value} (h:w.cell? ⟨b,0,none⟩=some v) (o:Obj):(w.alloc o).cell? ⟨b,0,none⟩=some v:=
 (((Below.refl _ w).alloc (Nat.le_refl _) o).cell (p:=⟨b,0,none⟩) (cell_lt h)).trans h
theorem show_2b {n:Int} {l:List UInt8} (h:¬n=1):showV 2 n l=wFalse:=by unfold showV;rw [if_neg (by decide),if_neg (by decide),if_pos rfl,if_neg h]
theorem show_no {k n:Int} {l:List UInt8} (h0:¬k=0) (h1:¬k=1) (h2:¬k=2) (h3:¬k=3):showV k n l= []:=by unfold showV;rw [if_neg h0,if_neg h1,if_neg h2,if_neg h3]
set_option maxHeartbeats 1000000 in
theorem show_any (k n:Int) (s:ByteArray) (m:Int) (w:World) (hn: -9223372036854775808≤n) (hn' :n≤9223372036854775807) (hs:s.size<4294967281) (hm:w.cell? ⟨3,0,none⟩=some (.int .i64 m)):
   Calls Tryz.prog 228 #[.agg #[.int .i64 k, .int .i64 n, .string s]] w fun e w' =>e= .returned (.string ⟨(showV k n s.data.toList).toArray⟩)∧Below w.heap.size w w' :=by
 have HM:=Lib.hid hm
 clear hm
 by_cases h0:k=0
 · subst h0
   go_enter Tryz.func228,Tryz.ntmps228
   go_wp2
   go_ret
   exact ⟨rfl,al (Below.refl _ _) _⟩
 by_cases h1:k=1
 · subst h1
   go_enter Tryz.func228,Tryz.ntmps228
   go_wp2_with (go_at_call 251;(with_reducible refine (Num.digits_any n hn hn' _).mono ?_);rintro e w' ⟨rfl,hb⟩)
   go_ret
   exact ⟨rfl,on (al (Below.refl _ _) _) hb⟩
 by_cases h2:k=2
 · subst h2
   by_cases h:n=1
   · subst h
     go_enter Tryz.func228,Tryz.ntmps228
     go_wp2
     go_ret
     exact ⟨rfl,al (Below.refl _ _) _⟩
   · have t:=beq_no h
     have H:=Lib.hid (show_2b (l:=s.data.toList) h)
     clear h
     go_enter Tryz.func228,Tryz.ntmps228
     go_wp2
     go_ret
     exact ⟨rs (by rw [H.out];rfl),al (Below.refl _ _) _⟩
 by_cases h3:k=3
 · subst h3
   go_enter Tryz.func228,Tryz.ntmps228
   go_wp2_with (go_at_call 245;(with_reducible refine (quoted_any s m _ hs (held_alloc HM.out _)).mono ?_);rintro e w' ⟨rfl,hb⟩)
   go_ret
   exact ⟨rfl,on (al (Below.refl _ _) _) hb⟩
 · have k0:=beq_no h0
   have k1:=beq_no h1
   have k2:=beq_no h2
   have k3:=beq_no h3
   have H:=Lib.hid (show_no (n:=n) (l:=s.data.toList) h0 h1 h2 h3)
   clear h0 h1 h2 h3
   go_enter Tryz.func228,Tryz.ntmps228
   go_wp2
   go_ret
   exact ⟨rs (by rw [H.out]),al (Below.refl _ _) _⟩
end Go.Proofs.YtiaomhdmllhmmaaGreatDoor.Val
namespace Go.Proofs.YtiaomhdmllhmmaaGreatDoor.Ep
open Go.RowKit Mem Right Lx
set_option linter.unusedVariables false
theorem undrew' {B:Nat} {w w1:World} (h:Below B w.drew w1):Below B w w1:=⟨h.os,h.tape,h.output,h.size,h.block⟩
theorem tx_one (t:Tt):tx [some t]=t.2:=by rw [tx_some];simp [tx]
set_option maxHeartbeats 4000000 in
set_option maxRecDepth 100000 in
theorem bare_lit (k n:Int) (s:List UInt8) (hn: -9223372036854775808≤n) (hn' :n≤9223372036854775807) (hs:s.length≤1000000):BareC (lit k n s):=by
 intro cs b l w h hl hO hg hlen
 have ht:tx (pcs (lit k n s))=Val.showV k n s:=by rw [pcs_lit,tx_one];rfl
 rw [ht] at hlen ⊢
 obtain ⟨A,kn,c,rfl, -⟩:=ex_open (show ExIn w _ (.mk 1 0 k n s [] []) cs from h)
 obtain ⟨W,hW⟩:∃W,(w.alloc (.cells (prC b) tP)).alloc (.cells #[.int .i64 1, .int .i64 0, .int .i64 k, .int .i64 n, .string (txt s), .string (txt []), .slice A kn c] tE)=W:=⟨_,rfl⟩
 obtain ⟨h1,h2,h3,h4⟩:=boxes hl _ _ _ _ W hW (by decide) (by decide)
 have y0:=(h4 W (Wr.refl _ _)).at_ 0
 obtain ⟨m,hm⟩:=(hO.below h1.1 hg).2
 have HX:=Lib.hid (show ∀Wx,Wr b W Wx→Wx.cell? ⟨w.heap.size,0,none⟩=some (.func (.func 129) #[.pointer (some ⟨b,0,none⟩)] #[])∧Wx.cell? ⟨w.heap.size+1,2,none⟩=some (.int .i64 k)∧Wx.cell? ⟨w.heap.size+1,3,none⟩=some (.int .i64 n)∧Wx.cell? ⟨w.heap.size+1,4,none⟩=some (.string (txt s)) from fun Wx hx=>⟨(h3 Wx hx).at_ 0,(h4 Wx hx).at_ 2,(h4 Wx hx).at_ 3,(h4 Wx hx).at_ 4⟩)
 have HSH:=Lib.hid (show Calls Tryz.prog 228 #[.agg #[.int .i64 k, .int .i64 n, .string (txt s)]] W.drew fun e w' =>e= .returned (.string (txt (Val.showV k n s)))∧Below W.drew.heap.size W.drew w' from
   Val.show_any k n (txt s) m W.drew hn hn' (by rw [txt_size];omega) hm)
 have HPUT:=Lib.hid (show ∀W',Bl b l W' →Calls Tryz.prog 129 #[.pointer (some ⟨b,0,none⟩), .string (txt (Val.showV k n s))] W' fun e w' =>∃nw,e= .returned (.tuple #[.int .i64 nw, .nilIface])∧Bl b (l++Val.showV k n s) w' ∧Wr b W' w' from fun W' hw' =>put_any b l (txt (Val.showV k n s)) W' hw' (by rw [txt_size];omega))
 have HLW:=Lib.hid h2
 have HW:=Lib.hid h1
 have HK0:=Lib.hid (HX.out W.drew ⟨(Below.refl b W).drew,(Lib.OthersKept.refl t8 (some b) W).drew⟩)
 simp at y0
 clear h hl hO hlen ht h1 h2 h3 h4 hm hn hn' hs
 go_enter Tryz.func210,Tryz.ntmps210
 go_wp2
 clear y0 hW
 refine wp_region_noPanic ?_
 refine wp_region_held_drew (S:=(fun Wx=>Wx.cell? ⟨w.heap.size,0,none⟩=some (.func (.func 129) #[.pointer (some ⟨b,0,none⟩)] #[])∧Wx.cell? ⟨w.heap.size+1,2,none⟩=some (.int .i64 k)∧Wx.cell? ⟨w.heap.size+1,3,none⟩=some (.int .i64 n)∧Wx.cell? ⟨w.heap.size+1,4,none⟩=some (.string (txt s)))) (by kernel_rfl) ?_ (fun hHeld=>?_)
 · exact HK0.out
 refine wpAnyH_take (i:=0) (v:=?_) rfl (by kernel_rfl) (by kernel_rfl) (by kernel_rfl) (fun _ _ _ h=>h) (Or.inl ⟨by rfl,?_⟩) (by assumption) ?_
 rotate_left
 · intro w' hSw;(try dsimp only at hSw);(try simp only [List.getElem_toArray,List.getElem_cons_zero]);go_simp;(try with_reducible rfl)
 (try simp only [List.getElem_toArray,List.getElem_cons_zero,Act.put,List.setIfInBounds_toArray,List.set_cons_zero,List.set_cons_succ])
 refine wpAnyH_take (i:=1) (v:=?_) rfl (by kernel_rfl) (by kernel_rfl) (by kernel_rfl) (fun _ _ _ h=>h) (Or.inl ⟨by rfl,?_⟩) (by assumption) ?_
 rotate_left
 · intro w' hSw;(try dsimp only at hSw);(try simp only [List.getElem_toArray,List.getElem_cons_succ,List.getElem_cons_zero]);go_simp;(try with_reducible rfl)
 (try simp only [List.getElem_toArray,List.getElem_cons_succ,List.getElem_cons_zero,Act.put,List.setIfInBounds_toArray,List.set_cons_zero,List.set_cons_succ])
 refine wpAnyH_take (i:=2) (v:=?_) rfl (by kernel_rfl) (by kernel_rfl) (by kernel_rfl) (fun _ _ _ h=>h) (Or.inl ⟨by rfl,?_⟩) (by assumption) ?_
 rotate_left
 · intro w' hSw;(try dsimp only at hSw);(try simp only [List.getElem_toArray,List.getElem_cons_succ,List.getElem_cons_zero]);go_simp;(try with_reducible rfl)
 (try simp only [List.getElem_toArray,List.getElem_cons_succ,List.getElem_cons_zero,Act.put,List.setIfInBounds_toArray,List.set_cons_zero,List.set_cons_succ])
 refine wpAnyH_take (i:=3) (v:=?_) rfl (by kernel_rfl) (by kernel_rfl) (by kernel_rfl) (fun _ _ _ h=>h) (Or.inl ⟨by rfl,?_⟩) (by assumption) ?_
 rotate_left
 · intro w' hSw;(try dsimp only at hSw);(try simp only [List.getElem_toArray,List.getElem_cons_succ,List.getElem_cons_zero]);go_simp;(try with_reducible rfl)
 (try simp only [List.getElem_toArray,List.getElem_cons_succ,List.getElem_cons_zero,Act.put,List.setIfInBounds_toArray,List.set_cons_zero,List.set_cons_succ])
 refine wpAnyH_ready (rs:= [4]) (by kernel_rfl) (by simp) ?_
 refine AllReadyH.cons rfl (fun K hK=>?_) AllReadyH.nil
 go_simp
 go_at_call 228;(with_reducible refine HSH.out.mono ?_);rintro e' w2 ⟨rfl,hb2⟩;have HB2:=Lib.hid (undrew' hb2);have HL2:=Lib.hid (HLW.out.below HB2.out);have HR2:=Lib.hid (Wr.of HB2.out HLW.out.2);have HK2:=Lib.hid (HX.out w2 HR2.out);have HP:=Lib.hid (HPUT.out w2 HL2.out);clear hb2
 (try go_wp2_with fail)
 refine hK.out _ _ ?_ (fun hHeld=>?_)
 · exact HK2.out
 clear hK K
 (try simp only [List.getElem_toArray,List.getElem_cons_succ,List.getElem_cons_zero,Act.put,List.setIfInBounds_toArray,List.set_cons_zero,List.set_cons_succ])
 refine wpAnyH_ready (rs:= [5]) (by kernel_rfl) (by simp) ?_
 refine AllReadyH.cons rfl (fun K hK=>?_) AllReadyH.nil
 go_simp
 go_at_call 129;(with_reducible refine HP.out.mono ?_);rintro e' w3 ⟨n3,rfl,hl3,hr3⟩;have HL3:=Lib.hid hl3;have HR3:=Lib.hid (HR2.out.trans hr3);have HK3:=Lib.hid (HX.out w3 HR3.out);clear hl3 hr3
 (try go_wp2_with fail)
 refine hK.out _ _ ?_ (fun hHeld=>?_)
 · exact HK3.out
 clear hK K
 (try simp only [List.getElem_toArray,List.getElem_cons_succ,List.getElem_cons_zero,Act.put,List.setIfInBounds_toArray,List.set_cons_zero,List.set_cons_succ])
 refine wpAnyH_done (by kernel_rfl) ?_ _
 refine NoPanic.normal ?_
 go_wp2
 go_end0
 exact ⟨rfl,_,HL3.out,HW.out.trans HR3.out,WT.lit _ _⟩
set_option maxHeartbeats 4000000 in
set_option maxRecDepth 100000 in
theorem bare_par (j:Nat) (hj:1≤j) (hj' :j≤6):BareC (par j):=by
 intro cs b l w h hl hO hg hlen
 obtain ⟨T,hT⟩:∃T:List UInt8,Lib.decDigits j=T:=⟨_,rfl⟩
 have hT1:T= [UInt8.ofNat (48+j)]:=by rw [←hT];exact Lib.decDigits_one (by omega)
 have ht:tx (pcs (par j))=36::T:=by rw [pcs_par,tx_one,hT1];rfl
 rw [ht] at hlen ⊢
 obtain ⟨A,kn,c,rfl, -⟩:=ex_open (show ExIn w _ (.mk 3 j 0 0 [] [] []) cs from h)
 obtain ⟨W,hW⟩:∃W,(w.alloc (.cells (prC b) tP)).alloc (.cells #[.int .i64 3, .int .i64 j, .int .i64 0, .int .i64 0, .string (txt []), .string (txt []), .slice A kn c] tE)=W:=⟨_,rfl⟩
 obtain ⟨h1,h2,h3,h4⟩:=boxes hl _ _ _ _ W hW (by decide) (by decide)
 have y0:=(h4 W (Wr.refl _ _)).at_ 0
 have HX:=Lib.hid (show ∀Wx,Wr b W.drew Wx→Wx.cell? ⟨w.heap.size,0,none⟩=some (.func (.func 129) #[.pointer (some ⟨b,0,none⟩)] #[])∧Wx.cell? ⟨w.heap.size+1,1,none⟩=some (.int .i64 (j:Int)) from fun Wx hx=>by
   have hx' :Wr b W Wx:=Wr.trans ⟨(Below.refl b W).drew,(Lib.OthersKept.refl t8 (some b) W).drew⟩ hx
   exact ⟨(h3 Wx hx').at_ 0,(h4 Wx hx').at_ 1⟩)
 have HSH:=Lib.hid (show Calls Tryz.prog 136 #[.int .i64 (j:Int)] W.drew fun e w' =>e= .returned (.string (txt T))∧w' =W.drew from by rw [←hT];exact Tryz.strconv_Itoa_small j (by omega) W.drew)
 have hcat:((⟨#[36]⟩:ByteArray)++txt T).data.toList=36::T:=by simp [ByteArray.data_append,txt]
 have hcs:((⟨#[36]⟩:ByteArray)++txt T).size=T.length+1:=by
   rw [ByteArray.size_append,txt_size]
   have:(ByteArray.mk #[36]).size=1:=rfl
   omega
 have HPUT:=Lib.hid (show Calls Tryz.prog 129 #[.pointer (some ⟨b,0,none⟩), .string ((⟨#[36]⟩:ByteArray)++txt T)] W.drew fun e w' =>∃n,e= .returned (.tuple #[.int .i64 n, .nilIface])∧Bl b (l++36::T) w' ∧Wr b W.drew w' from by
   have:=put_any b l ((⟨#[36]⟩:ByteArray)++txt T) W.drew h2 (by rw [hcs];simp at hlen;omega)
   rw [hcat] at this
   exact this)
 have h36:(ByteArray.mk #[36]).size=1:=rfl
 have hca:=run_string_add_sum (P:=Tryz.prog) (w:=W.drew) ⟨#[36]⟩ (txt T) (by rw [txt_size,hT1];simp;omega)
 have HW:=Lib.hid (show Wr b w W.drew from ⟨h1.1.drew,h1.2.drew⟩)
 have HK0:=Lib.hid (HX.out W.drew (Wr.refl _ _))
 simp at y0
 clear h hl hO hlen ht h1 h2 h3 h4 hT hT1 hcat hcs h36
 obtain ⟨ts,hts⟩:∃ts,txt T=ts:=⟨_,rfl⟩
 rw [hts] at HSH HPUT hca
 clear hts
 go_enter Tryz.func210,Tryz.ntmps210
 go_wp2
 clear y0 hW
 refine wp_region_noPanic ?_
 refine wp_region_held_drew (S:=(fun Wx=>Wx.cell? ⟨w.heap.size,0,none⟩=some (.func (.func 129) #[.pointer (some ⟨b,0,none⟩)] #[])∧Wx.cell? ⟨w.heap.size+1,1,none⟩=some (.int .i64 (j:Int)))) (by kernel_rfl) ?_ (fun hHeld=>?_)
 · exact HK0.out
 refine wpAnyH_take (i:=0) (v:=?_) rfl (by kernel_rfl) (by kernel_rfl) (by kernel_rfl) (fun _ _ _ h=>h) (Or.inl ⟨by rfl,?_⟩) (by assumption) ?_
 rotate_left
 · intro w' hSw;(try dsimp only at hSw);(try simp only [List.getElem_toArray,List.getElem_cons_zero]);go_simp;(try with_reducible rfl)
 (try simp only [List.getElem_toArray,List.getElem_cons_zero,Act.put,List.setIfInBounds_toArray,List.set_cons_zero,List.set_cons_succ])
 refine wpAnyH_take (i:=1) (v:=?_) rfl (by kernel_rfl) (by kernel_rfl) (by kernel_rfl) (fun _ _ _ h=>h) (Or.inl ⟨by rfl,?_⟩) (by assumption) ?_
 rotate_left
 · intro w' hSw;(try dsimp only at hSw);(try simp only [List.getElem_toArray,List.getElem_cons_succ,List.getElem_cons_zero]);go_simp;(try with_reducible rfl)
 (try simp only [List.getElem_toArray,List.getElem_cons_succ,List.getElem_cons_zero,Act.put,List.setIfInBounds_toArray,List.set_cons_zero,List.set_cons_succ])
 refine wpAnyH_take (i:=2) (v:=?_) rfl (by kernel_rfl) (by kernel_rfl) (by kernel_rfl) (fun _ _ _ h=>h) (Or.inl ⟨by rfl,?_⟩) (by assumption) ?_
 rotate_left
 · intro w' hSw;(try dsimp only at hSw);(try simp only [List.getElem_toArray,List.getElem_cons_succ,List.getElem_cons_zero]);go_simp;(try with_reducible rfl)
 (try simp only [List.getElem_toArray,List.getElem_cons_succ,List.getElem_cons_zero,Act.put,List.setIfInBounds_toArray,List.set_cons_zero,List.set_cons_succ])
 refine wpAnyH_take (i:=3) (v:=?_) rfl (by kernel_rfl) (by kernel_rfl) (by kernel_rfl) (fun _ _ _ h=>h) (Or.inl ⟨by rfl,?_⟩) (by assumption) ?_
 rotate_left
 · intro w' hSw;(try dsimp only at hSw);(try simp only [List.getElem_toArray,List.getElem_cons_succ,List.getElem_cons_zero]);go_simp;(try with_reducible rfl)
 (try simp only [List.getElem_toArray,List.getElem_cons_succ,List.getElem_cons_zero,Act.put,List.setIfInBounds_toArray,List.set_cons_zero,List.set_cons_succ])
 refine wpAnyH_ready (rs:= [4]) (by kernel_rfl) (by simp) ?_
 refine AllReadyH.cons rfl (fun K hK=>?_) AllReadyH.nil
 go_simp
 go_at_call 136;(with_reducible refine HSH.out.mono ?_);rintro e' w2 ⟨rfl,rfl⟩
 (try go_wp2_with fail)
 refine hK.out _ _ ?_ (fun hHeld=>?_)
 · exact HK0.out
 clear hK K
 (try simp only [List.getElem_toArray,List.getElem_cons_succ,List.getElem_cons_zero,Act.put,List.setIfInBounds_toArray,List.set_cons_zero,List.set_cons_succ])
 refine wpAnyH_ready (rs:= [5]) (by kernel_rfl) (by simp) ?_
 refine AllReadyH.cons rfl (fun K hK=>?_) AllReadyH.nil
 go_simp
 refine hK.out _ _ ?_ (fun hHeld=>?_)
 · exact HK0.out
 clear hK K
 (try simp only [List.getElem_toArray,List.getElem_cons_succ,List.getElem_cons_zero,Act.put,List.setIfInBounds_toArray,List.set_cons_zero,List.set_cons_succ])
 refine wpAnyH_ready (rs:= [6]) (by kernel_rfl) (by simp) ?_
 refine AllReadyH.cons rfl (fun K hK=>?_) AllReadyH.nil
 go_simp
 go_at_call 129;(with_reducible refine HPUT.out.mono ?_);rintro e' w3 ⟨n3,rfl,hl3,hr3⟩;have HL3:=Lib.hid hl3;have HR3:=Lib.hid hr3;have HK3:=Lib.hid (HX.out w3 HR3.out);clear hl3 hr3
 (try go_wp2_with fail)
 refine hK.out _ _ ?_ (fun hHeld=>?_)
 · exact HK3.out
 clear hK K
 (try simp only [List.getElem_toArray,List.getElem_cons_succ,List.getElem_cons_zero,Act.put,List.setIfInBounds_toArray,List.set_cons_zero,List.set_cons_succ])
 refine wpAnyH_done (by kernel_rfl) ?_ _
 refine NoPanic.normal ?_
 go_wp2
 go_end0
 exact ⟨rfl,_,HL3.out,HW.out.trans HR3.out,WT.lit _ _⟩
end Go.Proofs.YtiaomhdmllhmmaaGreatDoor.Ep
namespace Go.Proofs.YtiaomhdmllhmmaaGreatDoor.Val
set_option linter.unusedVariables false
theorem dgz_len {a:Int} (ha: -9223372036854775808≤a) (ha' :a≤9223372036854775807):(Num.dgz a).length≤20:=by
 have:=Num.dg_len19 (n:=a.natAbs) (by omega)
 unfold Num.dgz;split
 · simp;omega
 · omega
theorem showV_len {k n:Int} {l:List UInt8} (hn: -9223372036854775808≤n) (hn' :n≤9223372036854775807):(showV k n l).length≤2*l.length+20:=by
  have h1:=dgz_len hn hn'
  have h2:=quo_len l
  have h3:=List.count_le_length (a:=(39:UInt8)) (l:=l)
  have h4:wNull.length=4:=rfl
  have h5:wTrue.length=4:=rfl
  have h6:wFalse.length=5:=rfl
  unfold showV
  split
  · omega
  · split
    · omega
    · split
      · split<;>omega
      · split
        · omega
        · simp
end Go.Proofs.YtiaomhdmllhmmaaGreatDoor.Val
namespace Go.Proofs.YtiaomhdmllhmmaaGreatDoor.Ep
open Lx
set_option linter.unusedVariables false
theorem name_len {l:List UInt8} (h:kindOf l=1):l.length≤12:=by
 rw [←kindR_is] at h
 match l,h with
 | [],h=>simp
 | c ::t,h=>
   rw [kindR_cons] at h
   split at h
   · rename_i g;exact g.1
   · repeat' split at h
     all_goals cases h
theorem kidP_len (e:Ex) (r:Nat):(tx (kidP e r)).length≤(tx (pcs e)).length+2:=by
 unfold kidP br
 split
 · rw [tx_some,tx_app,tx_some]
   simp [sgn6,tx]
 · omega
theorem sgT_len (o:Int):(sgT o).2.length≤3:=by
 have:(sgT o).2=sg o:=by unfold sgT;split<;>rfl
 rw [this];exact sg_len o
theorem size_call (k o vk vn:Int) (vs nm:List UInt8) (kids:List Ex):size (.mk k o vk vn vs nm kids)=sizeL kids+1:=by rw [size]
theorem pcsL_len:∀{l:List Ex},(∀x∈l,(tx (pcs x)).length+3≤200*size x)→(tx (pcsL l)).length≤200*sizeL l
 | [],_=>by rw [pcsL];simp [tx]
 | [a],h=>by
   rw [pcsL_one,sizeL,sizeL]
   have:=h a (by simp)
   omega
 | a::b::l,h=>by
   rw [pcsL_more,tx_app,tx_some,sizeL]
   have h1:=h a (by simp)
   have h2:=pcsL_len (l:=b::l) fun x hx=>h x (List.mem_cons_of_mem _ hx)
   have h3:(sgn6 44).2.length=1:=rfl
   rw [List.length_append,List.length_append,h3]
   omega
theorem ok_len32 {k n:Int} {s:List UInt8} (h:Val.okV k n s=true):s.length≤32:=by
 unfold Val.okV at h
 repeat' split at h
 all_goals simp at h
 all_goals first|(obtain ⟨_,rfl⟩:=h;simp)|(subst h;simp)|(obtain ⟨⟨_,h⟩,_⟩:=h;omega)|omega
theorem text_len {e:Ex} (h:Rt e):(tx (pcs e)).length+3≤200*size e:=by
 induction h with
 | @lit k n s h0 h1 h2 h3=>
   have hl:=ok_len32 h0
   have hv:=Val.showV_len (k:=k) (l:=s) h3 h2
   have ht:tx (pcs (lit k n s))=Val.showV k n s:=by rw [pcs_lit,tx_some];simp [tx,valT]
   rw [ht]
   show _≤200*size (.mk 1 0 k n s [] [])
   rw [size_call,sizeL]
   omega
 | @col nm h=>
   have:=name_len h
   have ht:tx (pcs (col nm))=nm:=by rw [pcs_col,tx_some];simp [tx]
   rw [ht]
   show _≤200*size (.mk 2 0 0 0 [] nm [])
   rw [size_call,sizeL]
   omega
 | @par o h1 h2=>
   have ht:(tx (pcs (par o))).length=2:=by rw [pcs_par,tx_some];simp [tx,parT]
   rw [ht]
   show _≤200*size (.mk 3 o 0 0 [] [] [])
   rw [size_call,sizeL]
   omega
 | @un o a h1 h2 _ ih=>
   show _≤200*size (.mk 4 o 0 0 [] [] [a])
   rw [size_call,sizeL,sizeL]
   have h7:=kidP_len a 7
   have h3:=kidP_len a 3
   have h5:=kidP_len a 5
   rw [pcs_un]
   split
   · rw [tx_some,List.length_append]
     have:(sgn6 45).2.length=1:=rfl
     omega
   split
   · rw [tx_some,tx_none,List.length_append,List.length_cons]
     have:(key kNOT).2.length=3:=rfl
     omega
   split
   · rw [tx_app,List.length_append]
     have:(tx [none,some (key kIS),none,some (key Val.wNull)]).length=8:=by decide
     omega
   · rw [tx_app,List.length_append]
     have:(tx [none,some (key kIS),none,some (key kNOT),none,some (key Val.wNull)]).length=12:=by decide
     omega
 | @bin o a c h1 h2 _ _ iha ihc=>
   show _≤200*size (.mk 5 o 0 0 [] [] [a,c])
   rw [size_call,sizeL,sizeL,sizeL]
   have ha:=kidP_len a (ask1 o)
   have hc:=kidP_len c (ask2 o)
   have hs:=sgT_len o
   rw [pcs_bin,tx_app,tx_none,tx_some,tx_none]
   simp only [List.length_append,List.length_cons]
   omega
 | @inn a l hne hl _ _ iha ihl=>
   show _≤200*size (.mk 6 0 0 0 [] [] (a::l))
   rw [size_call,sizeL]
   have ha:=kidP_len a 5
   have hm:=pcsL_len ihl
   rw [pcs_inn,tx_app,tx_none,tx_some,tx_none,tx_some,tx_app,tx_some]
   have e1:(key kIN).2.length=2:=rfl
   have e2:(sgn6 40).2.length=1:=rfl
   have e3:(sgn6 41).2.length=1:=rfl
   have e4:(tx []).length=0:=rfl
   simp only [List.length_append,List.length_cons,e1,e2,e3,e4]
   omega
 | @call nm l hne hn _ ih=>
   show _≤200*size (.mk 7 0 0 0 [] nm l)
   rw [size_call]
   have hm:=pcsL_len ih
   have hc:(callT nm).2.length≤8:=by
     unfold callT key
     simp only
     split
     · decide
     · split<;>decide
   rw [pcs_call,tx_some,tx_some,tx_app,tx_some]
   have e2:(sgn6 40).2.length=1:=rfl
   have e3:(sgn6 41).2.length=1:=rfl
   have e4:(tx []).length=0:=rfl
   simp only [List.length_append,e2,e3,e4]
   omega
end Go.Proofs.YtiaomhdmllhmmaaGreatDoor.Ep
namespace Go.Proofs.YtiaomhdmllhmmaaGreatDoor.Ep
set_option linter.unusedVariables false
def high (e:Ex):Bool:=decide (8<hgt e)
end Go.Proofs.YtiaomhdmllhmmaaGreatDoor.Ep
