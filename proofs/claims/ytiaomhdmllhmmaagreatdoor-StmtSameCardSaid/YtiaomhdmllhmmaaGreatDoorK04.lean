/- How many of a text's first bytes are such: for blanks, for what a name and a key go on wit How long a quoted text and a parameter are. One element behind a list of the call's own: what 'append(v, x)' leaves, for elements of o The longest token with which a text begins; whether it can be told from what stands behind -/
import Derived.Test.YtiaomhdmllhmmaaGreatDoorK03
import Derived.Maps.AppendAt
import Derived.OwnWalk
import Derived.Laws.AppendOwnNone
import Derived.Test.YtiaomhdmllhmmaaGreatDoorK01
import Derived.Deep.Slices
import Derived.Deep.Fields
import Derived.ProofKit
import Derived.OpenShut
import Derived.ShutString
import Derived.ChangeOld
import Derived.Below
import Derived.Lib.SmallJoins
import Derived.Test.YtiaomhdmllhmmaaGreatDoorProg
namespace Go.Proofs.YtiaomhdmllhmmaaGreatDoor.Lx
open Go.RowKit Mem Right
set_option linter.unusedVariables false
set_option maxHeartbeats 400000 in
theorem run_inName (s:ByteArray) (most:Nat) (hs:s.size≤1000000) (hm:most≤1000000) (w:World):
    Calls Tryz.prog 83 #[.string s, .int .i64 (most:Int), .func (.func 86) #[] #[]] w fun e w' =>e= .returned (.int .i64 ((min (run inName s.data.toList) most:Nat):Int))∧w=w' :=by
  have hrl:=Lib.hid (show run inName s.data.toList≤s.size by have:=run_le inName s.data.toList;rw [Array.length_toList] at this;exact this)
  by_cases hb:most<s.size
  · go_enter Tryz.func83,Tryz.ntmps83
    go_wp2
    go_loop [7] (fun i=>∃k:Nat,k≤most∧i= .int .i64 (k:Int)∧Hid (k≤run inName s.data.toList)) (fun i=>most - (intOf i).toNat)
    case atStart=>exact ⟨0,Nat.zero_le _,rfl,Lib.hid (Nat.zero_le _)⟩
    case round=>
      obtain ⟨k,hk,rfl,HK⟩:=hrel
      by_cases hlt:k<most
      · have hks:k<s.size:=by omega
        have HS:=Lib.hid (run_snoc HK.out (drop_byte s k hks))
        cases hp:inName s[k] with
        | true=>
          have HS:=Lib.hid (HS.out.1 hp)
          go_wp2_with (go_at_call 86;refine (inName_any s[k] _).mono ?_;rintro e w' ⟨rfl,rfl⟩)
          go_round
          case rel=>exact ⟨k+1,by omega,by go_num,HS⟩
          case measure=>simp [intOf];omega
        | false=>
          have HS:=Lib.hid (HS.out.2 hp)
          go_wp2_with (go_at_call 86;refine (inName_any s[k] _).mono ?_;rintro e w' ⟨rfl,rfl⟩)
          go_ret
          exact ⟨ri (by rw [HS.out];omega),rfl⟩
      · obtain rfl:k=most:=by omega
        go_wp2
        go_ret
        exact ⟨ri (by have h2:=HK.out;omega),rfl⟩
  · go_enter Tryz.func83,Tryz.ntmps83
    go_wp2
    go_loop [7] (fun i=>∃k:Nat,k≤s.size∧i= .int .i64 (k:Int)∧Hid (k≤run inName s.data.toList)) (fun i=>s.size - (intOf i).toNat)
    case atStart=>exact ⟨0,Nat.zero_le _,rfl,Lib.hid (Nat.zero_le _)⟩
    case round=>
      obtain ⟨k,hk,rfl,HK⟩:=hrel
      by_cases hlt:k<s.size
      · have hks:k<s.size:=by omega
        have HS:=Lib.hid (run_snoc HK.out (drop_byte s k hks))
        cases hp:inName s[k] with
        | true=>
          have HS:=Lib.hid (HS.out.1 hp)
          go_wp2_with (go_at_call 86;refine (inName_any s[k] _).mono ?_;rintro e w' ⟨rfl,rfl⟩)
          go_round
          case rel=>exact ⟨k+1,by omega,by go_num,HS⟩
          case measure=>simp [intOf];omega
        | false=>
          have HS:=Lib.hid (HS.out.2 hp)
          go_wp2_with (go_at_call 86;refine (inName_any s[k] _).mono ?_;rintro e w' ⟨rfl,rfl⟩)
          go_ret
          exact ⟨ri (by rw [HS.out];omega),rfl⟩
      · obtain rfl:k=s.size:=by omega
        go_wp2
        go_ret
        exact ⟨ri (by have h2:=HK.out;have h3:=hrl.out;omega),rfl⟩
set_option maxHeartbeats 400000 in
theorem run_inKey (s:ByteArray) (most:Nat) (hs:s.size≤1000000) (hm:most≤1000000) (w:World):
    Calls Tryz.prog 83 #[.string s, .int .i64 (most:Int), .func (.func 88) #[] #[]] w fun e w' =>e= .returned (.int .i64 ((min (run inKey s.data.toList) most:Nat):Int))∧w=w' :=by
  have hrl:=Lib.hid (show run inKey s.data.toList≤s.size by have:=run_le inKey s.data.toList;rw [Array.length_toList] at this;exact this)
  by_cases hb:most<s.size
  · go_enter Tryz.func83,Tryz.ntmps83
    go_wp2
    go_loop [7] (fun i=>∃k:Nat,k≤most∧i= .int .i64 (k:Int)∧Hid (k≤run inKey s.data.toList)) (fun i=>most - (intOf i).toNat)
    case atStart=>exact ⟨0,Nat.zero_le _,rfl,Lib.hid (Nat.zero_le _)⟩
    case round=>
      obtain ⟨k,hk,rfl,HK⟩:=hrel
      by_cases hlt:k<most
      · have hks:k<s.size:=by omega
        have HS:=Lib.hid (run_snoc HK.out (drop_byte s k hks))
        cases hp:inKey s[k] with
        | true=>
          have HS:=Lib.hid (HS.out.1 hp)
          go_wp2_with (go_at_call 88;refine (inKey_any s[k] _).mono ?_;rintro e w' ⟨rfl,rfl⟩)
          go_round
          case rel=>exact ⟨k+1,by omega,by go_num,HS⟩
          case measure=>simp [intOf];omega
        | false=>
          have HS:=Lib.hid (HS.out.2 hp)
          go_wp2_with (go_at_call 88;refine (inKey_any s[k] _).mono ?_;rintro e w' ⟨rfl,rfl⟩)
          go_ret
          exact ⟨ri (by rw [HS.out];omega),rfl⟩
      · obtain rfl:k=most:=by omega
        go_wp2
        go_ret
        exact ⟨ri (by have h2:=HK.out;omega),rfl⟩
  · go_enter Tryz.func83,Tryz.ntmps83
    go_wp2
    go_loop [7] (fun i=>∃k:Nat,k≤s.size∧i= .int .i64 (k:Int)∧Hid (k≤run inKey s.data.toList)) (fun i=>s.size - (intOf i).toNat)
    case atStart=>exact ⟨0,Nat.zero_le _,rfl,Lib.hid (Nat.zero_le _)⟩
    case round=>
      obtain ⟨k,hk,rfl,HK⟩:=hrel
      by_cases hlt:k<s.size
      · have hks:k<s.size:=by omega
        have HS:=Lib.hid (run_snoc HK.out (drop_byte s k hks))
        cases hp:inKey s[k] with
        | true=>
          have HS:=Lib.hid (HS.out.1 hp)
          go_wp2_with (go_at_call 88;refine (inKey_any s[k] _).mono ?_;rintro e w' ⟨rfl,rfl⟩)
          go_round
          case rel=>exact ⟨k+1,by omega,by go_num,HS⟩
          case measure=>simp [intOf];omega
        | false=>
          have HS:=Lib.hid (HS.out.2 hp)
          go_wp2_with (go_at_call 88;refine (inKey_any s[k] _).mono ?_;rintro e w' ⟨rfl,rfl⟩)
          go_ret
          exact ⟨ri (by rw [HS.out];omega),rfl⟩
      · obtain rfl:k=s.size:=by omega
        go_wp2
        go_ret
        exact ⟨ri (by have h2:=HK.out;have h3:=hrl.out;omega),rfl⟩
set_option maxHeartbeats 400000 in
theorem run_dig (s:ByteArray) (most:Nat) (hs:s.size≤1000000) (hm:most≤1000000) (w:World):
    Calls Tryz.prog 83 #[.string s, .int .i64 (most:Int), .func (.func 89) #[] #[]] w fun e w' =>e= .returned (.int .i64 ((min (run dig s.data.toList) most:Nat):Int))∧w=w' :=by
  have hrl:=Lib.hid (show run dig s.data.toList≤s.size by have:=run_le dig s.data.toList;rw [Array.length_toList] at this;exact this)
  by_cases hb:most<s.size
  · go_enter Tryz.func83,Tryz.ntmps83
    go_wp2
    go_loop [7] (fun i=>∃k:Nat,k≤most∧i= .int .i64 (k:Int)∧Hid (k≤run dig s.data.toList)) (fun i=>most - (intOf i).toNat)
    case atStart=>exact ⟨0,Nat.zero_le _,rfl,Lib.hid (Nat.zero_le _)⟩
    case round=>
      obtain ⟨k,hk,rfl,HK⟩:=hrel
      by_cases hlt:k<most
      · have hks:k<s.size:=by omega
        have HS:=Lib.hid (run_snoc HK.out (drop_byte s k hks))
        cases hp:dig s[k] with
        | true=>
          have HS:=Lib.hid (HS.out.1 hp)
          go_wp2_with (go_at_call 89;refine (dig_any s[k] _).mono ?_;rintro e w' ⟨rfl,rfl⟩)
          go_round
          case rel=>exact ⟨k+1,by omega,by go_num,HS⟩
          case measure=>simp [intOf];omega
        | false=>
          have HS:=Lib.hid (HS.out.2 hp)
          go_wp2_with (go_at_call 89;refine (dig_any s[k] _).mono ?_;rintro e w' ⟨rfl,rfl⟩)
          go_ret
          exact ⟨ri (by rw [HS.out];omega),rfl⟩
      · obtain rfl:k=most:=by omega
        go_wp2
        go_ret
        exact ⟨ri (by have h2:=HK.out;omega),rfl⟩
  · go_enter Tryz.func83,Tryz.ntmps83
    go_wp2
    go_loop [7] (fun i=>∃k:Nat,k≤s.size∧i= .int .i64 (k:Int)∧Hid (k≤run dig s.data.toList)) (fun i=>s.size - (intOf i).toNat)
    case atStart=>exact ⟨0,Nat.zero_le _,rfl,Lib.hid (Nat.zero_le _)⟩
    case round=>
      obtain ⟨k,hk,rfl,HK⟩:=hrel
      by_cases hlt:k<s.size
      · have hks:k<s.size:=by omega
        have HS:=Lib.hid (run_snoc HK.out (drop_byte s k hks))
        cases hp:dig s[k] with
        | true=>
          have HS:=Lib.hid (HS.out.1 hp)
          go_wp2_with (go_at_call 89;refine (dig_any s[k] _).mono ?_;rintro e w' ⟨rfl,rfl⟩)
          go_round
          case rel=>exact ⟨k+1,by omega,by go_num,HS⟩
          case measure=>simp [intOf];omega
        | false=>
          have HS:=Lib.hid (HS.out.2 hp)
          go_wp2_with (go_at_call 89;refine (dig_any s[k] _).mono ?_;rintro e w' ⟨rfl,rfl⟩)
          go_ret
          exact ⟨ri (by rw [HS.out];omega),rfl⟩
      · obtain rfl:k=s.size:=by omega
        go_wp2
        go_ret
        exact ⟨ri (by have h2:=HK.out;have h3:=hrl.out;omega),rfl⟩
end Go.Proofs.YtiaomhdmllhmmaaGreatDoor.Lx
namespace Go.Proofs.YtiaomhdmllhmmaaGreatDoor.Lx
open Go.RowKit Mem Right
set_option linter.unusedVariables false
def Qk (l:List UInt8) (k:Nat):Prop:=1≤k∧quo (l.drop 1)=(quo (l.drop k)).map (· +(k - 1))
def qz (l:List UInt8):Nat:=qs (l.drop 1)
def pz (l:List UInt8):Nat:=ps (l.drop 1)
theorem Qk.start (l:List UInt8):Qk l 1:=⟨Nat.le_refl _,by simp⟩
theorem Qk.none_ {l:List UInt8} {k:Nat} (h:Qk l k) (h0:quo (l.drop k)=none):qz l=0:=by
 unfold qz qs;rw [h.2,h0];rfl
theorem Qk.end_ {l:List UInt8} {k:Nat} (h:Qk l k) (h0:quo (l.drop k)=some 1):qz l=k+1:=by
 have:=h.1
 unfold qz qs;rw [h.2,h0]
 simp;omega
theorem Qk.more {l:List UInt8} {k j:Nat} (h:Qk l k) (h0:quo (l.drop k)=(quo (l.drop (k+j))).map (· +j)):Qk l (k+j):=by
 have:=h.1
 refine ⟨by omega,?_⟩
 rw [h.2,h0,Option.map_map]
 congr 1
 funext n
 simp;omega
section
variable {s:ByteArray} {k:Nat}
theorem quo_bad (h:k<s.size) (hp:plainB s[k]=false):quo (s.data.toList.drop k)=none:=by
 rw [drop_byte s k h]
 have hn:s[k]≠39:=fun e=>by rw [e] at hp;cases hp
 cases s.data.toList.drop (k+1) with
 |nil=>simp [quo,hn]
 |cons d r=>simp [quo,hn,hp]
theorem quo_plain (h:k<s.size) (hp:plainB s[k]=true) (hn:s[k]≠39):quo (s.data.toList.drop k)=(quo (s.data.toList.drop (k+1))).map (· +1):=by
 rw [drop_byte s k h]
 cases s.data.toList.drop (k+1) with
 |nil=>simp [quo,hn]
 |cons d r=>simp [quo,hn,hp]
theorem quo_last (h:k+1=s.size) (hn:s[k]=39):quo (s.data.toList.drop k)=some 1:=by
 rw [drop_byte s k (by omega),List.drop_eq_nil_of_le (by rw [Array.length_toList];exact Nat.le_of_eq h.symm),hn]
 rfl
theorem quo_end (h:k+1<s.size) (hn:s[k]=39) (h2:s[k+1]≠39):quo (s.data.toList.drop k)=some 1:=by
 rw [drop_byte s k (by omega),drop_byte s (k+1) h,hn]
 simp [quo,h2]
theorem quo_two (h:k+1<s.size) (hn:s[k]=39) (h2:s[k+1]=39):quo (s.data.toList.drop k)=(quo (s.data.toList.drop (k+2))).map (· +2):=by
 rw [drop_byte s k (by omega),drop_byte s (k+1) h,hn,h2]
 simp [quo]
end
theorem byte_is {c:UInt8} (h:(c.toNat:Int)=39):c=39:=UInt8.toNat_inj.1 (by rw [show (39:UInt8).toNat=39 from rfl];omega)
theorem byte_not {c:UInt8} (h:¬(c.toNat:Int)=39):c≠39:=fun e=>h (by rw [e];rfl)
set_option maxHeartbeats 800000 in
theorem quoted_any (s:ByteArray) (hs:s.size≤1000000) (w:World):
    Calls Tryz.prog 91 #[.string s] w fun e w' =>e= .returned (.int .i64 (qz s.data.toList:Int))∧w=w' :=by
  go_enter Tryz.func91,Tryz.ntmps91
  go_wp2
  go_loop [3] (fun i=>∃k:Nat,k≤s.size+1∧i= .int .i64 (k:Int)∧Hid (Qk s.data.toList k)) (fun i=>s.size+1 - (intOf i).toNat)
  case atStart=>exact ⟨1,by omega,rfl,Lib.hid (Qk.start _)⟩
  case round=>
    obtain ⟨k,hk,rfl,HK⟩:=hrel
    by_cases hlt:k<s.size
    · have hp :=plain_num s[k]
      cases h1:decide ((s[k].toNat:Int)<32) with
      | true=>
        have h1' :=of_decide_eq_true h1
        rw [decide_eq_false (by omega),Bool.false_and] at hp
        have H:=Lib.hid (HK.out.none_ (quo_bad hlt hp))
        clear hp h1'
        go_wp2
        go_ret
        exact ⟨ri (by rw [H.out];rfl),rfl⟩
      | false =>
        have h1' :=of_decide_eq_false h1
        rw [decide_eq_true (show 32≤(s[k].toNat:Int) by omega),Bool.true_and] at hp
        cases h2:decide (126<(s[k].toNat:Int)) with
        | true=>
          have h2' :=of_decide_eq_true h2
          rw [decide_eq_false (by omega)] at hp
          have H:=Lib.hid (HK.out.none_ (quo_bad hlt hp))
          clear hp h1' h2'
          go_wp2
          go_ret
          exact ⟨ri (by rw [H.out];rfl),rfl⟩
        | false =>
          have h2' :=of_decide_eq_false h2
          rw [decide_eq_true (by omega)] at hp
          by_cases h3:(s[k].toNat:Int)=39
          · have e3:=byte_is h3
            have t3:=bne_no h3
            by_cases h4:k+1=s.size
            · have H:=Lib.hid (HK.out.end_ (quo_last h4 e3))
              have t4:((k:Int)+1==(s.size:Int))=true:=beq_yes (by omega)
              clear hp h1' h2' h3 e3
              go_wp2
              go_ret
              exact ⟨ri (by rw [H.out];omega),rfl⟩
            · have hlt2:k+1<s.size:=by omega
              have t4:((k:Int)+1==(s.size:Int))=false:=beq_no (by omega)
              by_cases h5:(s[k+1].toNat:Int)=39
              · have H:=Lib.hid (HK.out.more (quo_two hlt2 e3 (byte_is h5)))
                have t5:=bne_no h5
                clear hp h1' h2' h3 e3 h5
                go_wp2
                go_round
                case rel=>exact ⟨k+2,by omega,by go_num,H⟩
                case measure=>simp [intOf];omega
              · have H:=Lib.hid (HK.out.end_ (quo_end hlt2 e3 (byte_not h5)))
                have t5:=bne_yes h5
                clear hp h1' h2' h3 e3 h5
                go_wp2
                go_ret
                exact ⟨ri (by rw [H.out];omega),rfl⟩
          · have t3:=bne_yes h3
            have H:=Lib.hid (HK.out.more (quo_plain hlt hp (byte_not h3)))
            clear hp h1' h2' h3
            go_wp2
            go_round
            case rel=>exact ⟨k+1,by omega,by go_num,H⟩
            case measure=>simp [intOf];omega
    · have H:=Lib.hid (HK.out.none_ (show quo (s.data.toList.drop k)=none by
        rw [List.drop_eq_nil_of_le (by rw [Array.length_toList];exact Nat.le_of_not_lt hlt)];rfl))
      go_wp2
      go_ret
      exact ⟨ri (by rw [H.out];rfl),rfl⟩
theorem param_any (s:ByteArray) (hs:s.size≤1000000) (w:World):
    Calls Tryz.prog 92 #[.string s] w fun e w' =>e= .returned (.int .i64 (pz s.data.toList:Int))∧w=w' :=by
  by_cases hlt:1<s.size
  · have hd:=drop_byte s 1 hlt
    have hp:=par_num s[1]
    have t0:decide ((s.size:Int)<2)=false:=decide_eq_false (by omega)
    cases h1:decide ((s[1].toNat:Int)<49) with
    | true=>
      have h1' :=of_decide_eq_true h1
      rw [decide_eq_false (by omega),Bool.false_and] at hp
      have H:=Lib.hid (show pz s.data.toList=0 by unfold pz;rw [hd];simp [ps,hp])
      clear hp h1' hd
      go_enter Tryz.func92,Tryz.ntmps92
      go_wp2
      go_ret
      exact ⟨ri (by rw [H.out];rfl),rfl⟩
    | false=>
      have h1' :=of_decide_eq_false h1
      rw [decide_eq_true (show (49:Int)≤(s[1].toNat:Int) by omega),Bool.true_and] at hp
      cases h2:decide ((54:Int)<(s[1].toNat:Int)) with
      | true=>
        have h2' :=of_decide_eq_true h2
        rw [decide_eq_false (by omega)] at hp
        have H:=Lib.hid (show pz s.data.toList=0 by unfold pz;rw [hd];simp [ps,hp])
        clear hp h1' h2' hd
        go_enter Tryz.func92,Tryz.ntmps92
        go_wp2
        go_ret
        exact ⟨ri (by rw [H.out];rfl),rfl⟩
      | false=>
        have h2' :=of_decide_eq_false h2
        rw [decide_eq_true (by omega)] at hp
        have H:=Lib.hid (show pz s.data.toList=2 by unfold pz;rw [hd];simp [ps,hp])
        clear hp h1' h2' hd
        go_enter Tryz.func92,Tryz.ntmps92
        go_wp2
        go_ret
        exact ⟨ri (by rw [H.out];rfl),rfl⟩
  · have H:=Lib.hid (show pz s.data.toList=0 by
      unfold pz;rw [List.drop_eq_nil_of_le (by rw [Array.length_toList];exact Nat.le_of_not_lt hlt)];rfl)
    have t0:decide ((s.size:Int)<2)=true:=decide_eq_true (by omega)
    go_enter Tryz.func92,Tryz.ntmps92
    go_wp2
    go_ret
    exact ⟨ri (by rw [H.out];rfl),rfl⟩
end Go.Proofs.YtiaomhdmllhmmaaGreatDoor.Lx
namespace Go.Proofs.YtiaomhdmllhmmaaGreatDoor.Mem
open Go.RowKit
set_option linter.unusedVariables false
def Elem (P:Program) (t e:TypeId) (bytes:Nat):Prop:=
 ∃i z,P.underlying t=some (.slice e)∧P.info? e=some i∧i.zero=some z∧i.size=1∧i.bytes=bytes∧z.cells.size=1
theorem Elem.of {P:Program} {t e:TypeId} {z:Value} {bytes:Nat} (ht:P.underlying t=some (.slice e)) (hi:(P.info? e).map (fun i=>(i.zero,i.size,i.bytes))=some (some z,1,bytes)) (hz:z.cells.size=1):Elem P t e bytes:=by
 obtain ⟨i,h,h0,h1,h2⟩:=info_parts hi
 exact ⟨i,z,ht,h,h0,h1,h2,hz⟩
theorem wp_many {P:Program} {w:World} {ops:Array Oper} {rest:List Oper} {o:Oper} {a:Act} {Q:Exit→Act→World→Prop} {t e:TypeId} {bytes:Nat} (E:Elem P t e bytes) (base:Nat) (s y:Operand)
    (hgd:o.guard=none) (ho:o.op= .call {callee:= .builtin .append,args:= #[s,y],argTypes:= #[t,t]})
    {v:Value} {n:Nat} {xs:List Value} (hs:a.eval s=v) (hown:w.ownsRow base e 1 v n xs) {B:Nat} {A:Option Addr} {m c:Nat} {us:List Value} (hy:a.eval y= .slice A m c) (hr:Row w B A us)
    (hl:us.length=m) (hA:A=none→c=0) (h1:∀u∈us,u.oneCell' =true)
    (hn:n+m≤9223372036854775807) (hby:(n+m)*bytes≤140737488355328) (hB:base≤w.heap.size)
    (h:∀v' w',w'.ownsRow base e 1 v' (n+m) (xs++us)→w.grownBy w' v.ownBlock→(v'.ownBlock=v.ownBlock ∨ v'.ownBlock=some w.heap.size)→wpList P ops Q rest (a.put o.dst v') w'):
    wpList P ops Q (o::rest) a w:=by
  obtain ⟨i,z,ht,hi,hz,hz1,hz2,hzc⟩:=E
  cases A with
  | none=>
    have hc:=hA rfl
    subst hc
    have hu:us= []:=by
      cases us with
      |nil=>rfl
      | cons u r=>
        obtain ⟨b,o',he,_⟩:=hr 0 u (by simp)
        cases he
    subst hu
    subst hl
    refine wpList_append_own_none hgd s y t ho base e i 1 ht hi v n xs hs hown hy ?_
    exact h v w (by simpa using hown) ⟨rfl,rfl,rfl,Nat.le_refl _,fun _ _ _=>rfl⟩ (.inl rfl)
  | some ad=>
    refine wpList_append_own_at _ hgd s y t ho base e i z 1 bytes ht hi hz hz1 hz2 hzc (by decide) v n xs hs hown ad m c us hy (by omega) ?_ h1 (by unfold maxLen;omega) hby hB fun v' w' g1 g2 _ g3=>h v' w' g1 g2 g3
    intro j u hu
    obtain ⟨b,o',he,_,hc⟩:=hr j u hu
    have he:ad=⟨b,o',none⟩:=by injection he
    subst he
    have e2:(⟨b,o',none⟩:Addr).add j=⟨b,o' +j,none⟩:=by unfold Addr.add;split<;>simp_all
    rw [e2];exact hc
end Go.Proofs.YtiaomhdmllhmmaaGreatDoor.Mem
namespace Go.Proofs.YtiaomhdmllhmmaaGreatDoor.Lx
open Go.RowKit Mem Right
set_option linter.unusedVariables false
section
variable {l t:List UInt8} {c:UInt8}
theorem lng_name (hl:l=c::t) (h:small c=true):lng l=(1,min (run inName l) 12):=by
 subst hl
 have:inName c=true:=by unfold inName;rw [h];rfl
 simp only [lng,if_pos h]
 rw [run_cons,if_pos this,Nat.add_comm]
theorem lng_key (hl:l=c::t) (h0:small c=false) (h:cap c=true):lng l=(2,min (run inKey l) 16):=by
 subst hl
 have:inKey c=true:=by unfold inKey;rw [h];rfl
 simp only [lng,h0,if_pos h,Bool.false_eq_true,if_false]
 rw [run_cons,if_pos this,Nat.add_comm]
theorem lng_zero (hl:l=c::t) (h0:small c=false) (h1:cap c=false) (h:c=48):lng l=(3,1):=by
 subst hl
 simp only [lng,h0,h1,if_pos h,Bool.false_eq_true,if_false]
theorem lng_dig (hl:l=c::t) (h0:small c=false) (h1:cap c=false) (h2:¬c=48) (h:dig c=true):lng l=(3,min (run dig l) 19):=by
 subst hl
 simp only [lng,h0,h1,if_neg h2,if_pos h,Bool.false_eq_true,if_false]
 rw [run_cons,if_pos h,Nat.add_comm]
theorem lng_quo (hl:l=c::t) (h0:small c=false) (h1:cap c=false) (h2:¬c=48) (h3:dig c=false) (h:c=39):lng l=orN 4 (qz l):=by
 subst hl
 simp only [lng,h0,h1,if_neg h2,h3,if_pos h,Bool.false_eq_true,if_false]
 rfl
theorem lng_par (hl:l=c::t) (h0:small c=false) (h1:cap c=false) (h2:¬c=48) (h3:dig c=false) (h4:¬c=39) (h:c=36):lng l=orN 5 (pz l):=by
 subst hl
 simp only [lng,h0,h1,if_neg h2,h3,if_neg h4,if_pos h,Bool.false_eq_true,if_false]
 rfl
theorem lng_sgn (hl:l=c::t) (h0:small c=false) (h1:cap c=false) (h2:¬c=48) (h3:dig c=false) (h4:¬c=39) (h5:¬c=36):lng l=orN 6 (sz l):=by
 subst hl
 simp only [lng,h0,h1,if_neg h2,h3,if_neg h4,if_neg h5,Bool.false_eq_true,if_false]
 rfl
end
theorem byte_is' {c k:UInt8} (h:(c.toNat:Int)=(k.toNat:Int)):c=k:=UInt8.toNat_inj.1 (by omega)
theorem two_int {a b:Nat} {p:Nat × Nat} (h:p=(a,b)):Ending.returned (.tuple #[.int .i64 (a:Int), .int .i64 (b:Int)])= .returned (.tuple #[.int .i64 (p.1:Int), .int .i64 (p.2:Int)]):=by rw [h]
theorem two_int' {p q:Nat × Nat} (h:p=q):Ending.returned (.tuple #[.int .i64 (q.1:Int), .int .i64 (q.2:Int)])= .returned (.tuple #[.int .i64 (p.1:Int), .int .i64 (p.2:Int)]):=by rw [h]
set_option maxHeartbeats 1000000 in
theorem longest_any (s:ByteArray) (hs:s.size≤1000000) (w:World) (h:Signs w):
    Calls Tryz.prog 46 #[.string s] w fun e w' =>e= .returned (.tuple #[.int .i64 ((lng s.data.toList).1:Int), .int .i64 ((lng s.data.toList).2:Int)])∧w=w' :=by
  have HS:=Lib.hid h
  clear h
  rcases empty_or s with rfl|⟨hne,hse⟩
  · go_enter Tryz.func46,Tryz.ntmps46
    go_wp2
    go_ret2
    exact ⟨rfl,rfl⟩
  · have h0 :0<s.size:=by
      rcases Nat.eq_zero_or_pos s.size with e|e
      · exact absurd (List.eq_nil_of_length_eq_zero (by rw [Array.length_toList];exact e)) hne
      · exact e
    have hl:=drop_byte s 0 h0
    rw [List.drop_zero] at hl
    clear hne
    cases h1:small s[0] with
    | true=>
      have H:=Lib.hid (lng_name hl h1)
      clear hl
      go_enter Tryz.func46,Tryz.ntmps46
      go_wp2_with (first|(go_at_call 85;refine (small_any s[0] _).mono ?_;rintro e w' ⟨rfl,rfl⟩)|(go_at_call 83;refine (run_inName s 12 hs (by decide) _).mono ?_;rintro e w' ⟨rfl,rfl⟩))
      go_ret2
      exact ⟨two_int H.out,rfl⟩
    | false =>
      cases h2:cap s[0] with
      | true=>
        have H:=Lib.hid (lng_key hl h1 h2)
        clear hl
        go_enter Tryz.func46,Tryz.ntmps46
        go_wp2_with (first|(go_at_call 85;refine (small_any s[0] _).mono ?_;rintro e w' ⟨rfl,rfl⟩)|(go_at_call 87;refine (cap_any s[0] _).mono ?_;rintro e w' ⟨rfl,rfl⟩)|(go_at_call 83;refine (run_inKey s 16 hs (by decide) _).mono ?_;rintro e w' ⟨rfl,rfl⟩))
        go_ret2
        exact ⟨two_int H.out,rfl⟩
      | false=>
        by_cases h3:s[0]=48
        · have H:=Lib.hid (lng_zero hl h1 h2 h3)
          have t3:((s[0].toNat:Int)==48)=true:=by rw [h3];rfl
          clear hl h3
          go_enter Tryz.func46,Tryz.ntmps46
          go_wp2_with (first|(go_at_call 85;refine (small_any s[0] _).mono ?_;rintro e w' ⟨rfl,rfl⟩)|(go_at_call 87;refine (cap_any s[0] _).mono ?_;rintro e w' ⟨rfl,rfl⟩))
          go_ret2
          exact ⟨two_int H.out,rfl⟩
        have t3:((s[0].toNat:Int)==48)=false:=beq_no fun e=>h3 (byte_is' (by rw [e];rfl))
        cases h4:dig s[0] with
        | true=>
          have H:=Lib.hid (lng_dig hl h1 h2 h3 h4)
          clear hl h3
          go_enter Tryz.func46,Tryz.ntmps46
          go_wp2_with (first|(go_at_call 85;refine (small_any s[0] _).mono ?_;rintro e w' ⟨rfl,rfl⟩)|(go_at_call 87;refine (cap_any s[0] _).mono ?_;rintro e w' ⟨rfl,rfl⟩)|(go_at_call 89;refine (dig_any s[0] _).mono ?_;rintro e w' ⟨rfl,rfl⟩)|(go_at_call 83;refine (run_dig s 19 hs (by decide) _).mono ?_;rintro e w' ⟨rfl,rfl⟩))
          go_ret2
          exact ⟨two_int H.out,rfl⟩
        | false=>
          by_cases h5:s[0]=39
          · have H:=Lib.hid (lng_quo hl h1 h2 h3 h4 h5)
            have t5:((s[0].toNat:Int)==39)=true:=by rw [h5];rfl
            clear hl h3 h5
            go_enter Tryz.func46,Tryz.ntmps46
            go_wp2_with (first|(go_at_call 85;refine (small_any s[0] _).mono ?_;rintro e w' ⟨rfl,rfl⟩)|(go_at_call 87;refine (cap_any s[0] _).mono ?_;rintro e w' ⟨rfl,rfl⟩)|(go_at_call 89;refine (dig_any s[0] _).mono ?_;rintro e w' ⟨rfl,rfl⟩)|(go_at_call 91;refine (quoted_any s hs _).mono ?_;rintro e w' ⟨rfl,rfl⟩)|(go_at_call 90;refine (orNone_any 4 _ _).mono ?_;rintro e w' ⟨rfl,rfl⟩))
            go_ret2
            exact ⟨two_int' H.out,rfl⟩
          have t5:((s[0].toNat:Int)==39)=false:=beq_no fun e=>h5 (byte_is' (by rw [e];rfl))
          by_cases h6:s[0]=36
          · have H:=Lib.hid (lng_par hl h1 h2 h3 h4 h5 h6)
            have t6:((s[0].toNat:Int)==36)=true:=by rw [h6];rfl
            clear hl h3 h5 h6
            go_enter Tryz.func46,Tryz.ntmps46
            go_wp2_with (first|(go_at_call 85;refine (small_any s[0] _).mono ?_;rintro e w' ⟨rfl,rfl⟩)|(go_at_call 87;refine (cap_any s[0] _).mono ?_;rintro e w' ⟨rfl,rfl⟩)|(go_at_call 89;refine (dig_any s[0] _).mono ?_;rintro e w' ⟨rfl,rfl⟩)|(go_at_call 92;refine (param_any s hs _).mono ?_;rintro e w' ⟨rfl,rfl⟩)|(go_at_call 90;refine (orNone_any 5 _ _).mono ?_;rintro e w' ⟨rfl,rfl⟩))
            go_ret2
            exact ⟨two_int' H.out,rfl⟩
          have t6:((s[0].toNat:Int)==36)=false:=beq_no fun e=>h6 (byte_is' (by rw [e];rfl))
          have H:=Lib.hid (lng_sgn hl h1 h2 h3 h4 h5 h6)
          clear hl h3 h5 h6
          go_enter Tryz.func46,Tryz.ntmps46
          go_wp2_with (first|(go_at_call 85;refine (small_any s[0] _).mono ?_;rintro e w' ⟨rfl,rfl⟩)|(go_at_call 87;refine (cap_any s[0] _).mono ?_;rintro e w' ⟨rfl,rfl⟩)|(go_at_call 89;refine (dig_any s[0] _).mono ?_;rintro e w' ⟨rfl,rfl⟩)|(go_at_call 93;refine (sign_any s hs h0 _ HS.out).mono ?_;rintro e w' ⟨rfl,rfl⟩)|(go_at_call 90;refine (orNone_any 6 _ _).mono ?_;rintro e w' ⟨rfl,rfl⟩))
          go_ret2
          exact ⟨two_int' H.out,rfl⟩
end Go.Proofs.YtiaomhdmllhmmaaGreatDoor.Lx
