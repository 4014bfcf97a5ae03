/- The law's own example; whether an act is long. -/
import Derived.Test.YtgoadmkenglglaaPageGot
import Derived.Test.YtgoadmkenglglaaPageActs
import Derived.Test.YtgoadmkenglglaaMemText
import Derived.Lib.SlBytesConst
namespace Go.Proofs.Ytgoadmkenglglaa.Pg
open Go.RowKit Go.Proofs.Ytgoadmkenglglaa.Mem Go.Proofs.Ytgoadmkenglglaa.Right
set_option linter.unusedVariables false

theorem long_any (d s : Int) (A : Option Addr) (n c : Nat) (x : Bool) (hx : decide (600 < (n : Int)) = x) (w : World) :
    Calls Try.prog 9 #[.agg #[.int .i64 d, .int .i64 s, .slice A n c]] w fun e w' => e = .returned (.bool x) ∧ Below w.heap.size w w' := by
  go_enter Try.func9, Try.ntmps9
  go_wp2
  go_ret
  exact ⟨rb (by rw [← hx]), al (Below.refl _ _) _⟩
def abc : List UInt8 := [97, 98, 99]
theorem abc_put : putV [] abc = (some [some abc], 0, 0) := by decide
theorem abc_get : getV [some abc] 0 = (some abc, 0) := by decide
theorem abc_lit (w : World) : Bs (w.alloc (.cells #[.int .u8 97, .int .u8 98, .int .u8 99] 5 (3, 4))) (some ⟨w.heap.size, 0, none⟩) 3 3 abc := by
  have hx := heap_alloc_new w (.cells #[.int .u8 97, .int .u8 98, .int .u8 99] 5 (3, 4))
  refine ⟨fun k u hu => ⟨w.heap.size, 0, rfl, by simp, ?_⟩, rfl, by decide, by decide⟩
  rw [Nat.zero_add]
  simp only [World.cell?, hx]
  rw [if_neg (by simp), ← Array.getElem?_toList]
  exact hu
theorem abc_text {W : World} {A : Option Addr} {c : Nat} (h : Bs W A abc.length c abc) : (convert 23 9 (.slice A abc.length c)).run Try.prog W = .ok (.string ⟨#[97, 98, 99]⟩) W :=
  convert_any W _ abc.length c A abc rfl h.1
theorem room_0 : roomN [] = 510 := by decide
theorem room_abc : roomN [some abc] = 505 := by decide
set_option maxRecDepth 20000 in
set_option maxHeartbeats 1000000 in
theorem works_any (w : World) : Calls Try.prog 10 #[] w fun e w' => e = .returned (.bool true) ∧ Below w.heap.size w w' := by
  have HPV := Lib.hid abc_put
  have HGV := Lib.hid abc_get
  have HR0 : Hid (∀ (A : Option Addr) (c : Nat) (W : World), Good W A c [] → Calls Try.prog 12 #[.slice A 512 c] W fun e w' => e = .returned (.int .i64 510) ∧ Below W.heap.size W w') := Lib.hid fun A c W h => Room_any A c [] W h
  have HR1 : Hid (∀ (A : Option Addr) (c : Nat) (W : World), Good W A c [some abc] → Calls Try.prog 12 #[.slice A 512 c] W fun e w' => e = .returned (.int .i64 505) ∧ Below W.heap.size W w') := Lib.hid fun A c W h => Room_any A c [some abc] W h
  have hcc := fun (W : World) (C : Array Value) (n c : Nat) => Lib.run_convert_bytes_const (P := Try.prog) W 23 5 C n c Try.underlying23 Try.underlying5
  go_enter Try.func10, Try.ntmps10
  go_wp2_with first | (go_at_call 6; (with_reducible refine (new_got w).mono ?_); rintro e w1 ⟨g1, c1, rfl, hf1⟩; have HF1 := Lib.hid hf1.1; have HB1 := Lib.hid hf1.2.2; clear hf1) | (go_at_call 18; (with_reducible refine (put_got (some ⟨g1, 0, none⟩) (some ⟨w1.heap.size, 0, none⟩) c1 3 3 [] abc (w1.alloc (.cells #[.int .u8 97, .int .u8 98, .int .u8 99] 5 (3, 4))) (HF1.out.below (al (Below.refl _ _) _)) (abc_lit w1) (some [some abc]) 0 0 HPV.out).mono ?_); rintro e w2 ⟨g2, c2, rfl, hf2⟩; have HF2 := Lib.hid hf2.1; have HB2 := Lib.hid (on (al HB1.out _) hf2.2.2); clear hf2) | (go_at_call 21; (with_reducible refine (get_got (some ⟨g2, 0, none⟩) c2 [some abc] 0 w2 HF2.out (some abc) 0 HGV.out).mono ?_); rintro e w3 ⟨A3, c3, rfl, hb3, hbl3⟩; have HB3 := Lib.hid (on HB2.out hbl3); have HF3 := Lib.hid (HF2.out.below hbl3); have hc3 := abc_text hb3; clear hbl3 hb3) | (go_at_call 6; (with_reducible refine (new_got w3).mono ?_); rintro e w4 ⟨g4, c4, rfl, hf4⟩; have HF4 := Lib.hid hf4.1; have HB4 := Lib.hid (on HB3.out hf4.2.2); have HF5 := Lib.hid (HF3.out.below hf4.2.2); clear hf4) | (go_at_call 12; (with_reducible refine (HR0.out _ _ w4 HF4.out).mono ?_); rintro e w5 ⟨rfl, hb5⟩; have HB5 := Lib.hid (on HB4.out hb5); have HF6 := Lib.hid (HF5.out.below hb5); clear hb5) | (go_at_call 12; (with_reducible refine (HR1.out _ _ w5 HF6.out).mono ?_); rintro e w6 ⟨rfl, hb6⟩; have HB6 := Lib.hid (on HB5.out hb6); clear hb6)
  go_ret
  exact ⟨rfl, HB6.out⟩
end Go.Proofs.Ytgoadmkenglglaa.Pg
