/- The law's own example, and how large a row is; what Put and Get answer, with their slices' parts named. -/
import Derived.Test.YtkpieiolplkifaaRowGet
import Derived.Test.YtkpieiolplkifaaRowRefPut
import Derived.Test.YtkpieiolplkifaaRefBytes
namespace Go.Proofs.Ytkpieiolplkifaa.Rw
open Go.RowKit Go.Proofs.Ytkpieiolplkifaa.Mem Go.Proofs.Ytkpieiolplkifaa.Right Go.Proofs.Ytkpieiolplkifaa.Refs
set_option linter.unusedVariables false

/-- Are values more, or longer, than statements go? -/
def largeF : Nat → List Vl → Bool
  | _, [] => false
  | k, v :: r => decide (9 < k) || (decide (200 < (v.s.size : Int)) || largeF (k + 1) r)
set_option maxRecDepth 20000 in
set_option maxHeartbeats 1000000 in
theorem large_any (num : Int) (A : Option Addr) (n c : Nat) (vs : List Vl) (x : Bool) (hx : largeF 0 vs = x) (w : World) (h : Came w A n num vs) :
    Calls Try.prog 7 #[.agg #[.int .i64 num, .slice A n c]] w fun e w' => e = .returned (.bool x) ∧ Below w.heap.size w w' := by
  obtain ⟨W1, hW1⟩ : ∃ W1, w.alloc (.cells #[.int .i64 num, .slice A n c] 24) = W1 := ⟨_, rfl⟩
  have HR := Lib.hid (show RBox W1 w.heap.size num A n c by rw [← hW1]; exact RBox.made _ _ _ _ _)
  have HB := Lib.hid (show Below w.heap.size w W1 by rw [← hW1]; exact al (Below.refl _ _) _)
  have HW := Lib.hid hW1
  have H := Lib.hid (h.below HB.out).1
  have HN := Lib.hid h.2.1
  have HZ := Lib.hid (fun v hv => (h.2.2.2.2 v hv).2)
  have hN := h.2.2.1
  subst hx
  clear h hW1
  obtain ⟨r0, r1⟩ := HR.out.cells
  go_enter Try.func7, Try.ntmps7
  go_wp2
  rw [HW.out]
  go_loop [3] (fun i => ∃ k : Nat, k ≤ n ∧ i = .int .i64 k ∧ Hid (largeF 0 vs = largeF k (vs.drop k))) (fun i => n - (intOf i).toNat)
  case atStart => exact ⟨0, Nat.zero_le _, rfl, Lib.hid rfl⟩
  case round =>
    obtain ⟨k, hk, rfl, HF⟩ := hrel
    by_cases hlt : k < n
    · obtain ⟨b, o, v, rfl, hb, hv, c0, c1, c2⟩ := H.out.at_ (k := k) (by have := HN.out; omega)
      have hs := HZ.out v (List.mem_of_getElem? hv)
      unfold maxLen at hs
      have HD := Lib.hid (drop_at hv)
      clear hv
      by_cases h9 : 9 < k
      · have HV := Lib.hid (show largeF 0 vs = true by rw [HF.out, HD.out, largeF, decide_eq_true h9]; rfl)
        have h9' : (9 : Int) < (k : Int) := by omega
        have t : decide ((9 : Int) < (k : Int)) = true := decide_eq_true h9'
        clear h9
        go_wp2
        go_ret
        exact ⟨rb HV.out.symm, HB.out⟩
      · have t : decide ((9 : Int) < (k : Int)) = false := decide_eq_false (by omega)
        by_cases h2 : 200 < (v.s.size : Int)
        · have HV := Lib.hid (show largeF 0 vs = true by rw [HF.out, HD.out, largeF, decide_eq_false h9, decide_eq_true h2]; rfl)
          have t2 : decide (200 < (v.s.size : Int)) = true := decide_eq_true h2
          go_wp2
          go_ret
          exact ⟨rb HV.out.symm, HB.out⟩
        · have t2 : decide (200 < (v.s.size : Int)) = false := decide_eq_false h2
          have HV := Lib.hid (show largeF 0 vs = largeF (k + 1) (vs.drop (k + 1)) by rw [HF.out, HD.out, largeF, decide_eq_false h9, t2]; rfl)
          go_wp2
          go_round
          case rel => exact ⟨k + 1, by omega, by go_num, HV⟩
          case measure => simp [intOf]; omega
    · have HV := Lib.hid (show largeF 0 vs = false by rw [HF.out, List.drop_eq_nil_of_le (by have := HN.out; omega)]; rfl)
      go_wp2
      go_ret
      exact ⟨rb HV.out.symm, HB.out⟩
def PutG (w : World) (l : List UInt8) (n : Nat) (x : Int) (e : Ending) (w' : World) : Prop := ∃ A c, e = .returned (.tuple #[.slice A n c, .int .i64 x]) ∧ Below w.heap.size w w' ∧ Bs w' A n c l ∧ (A = none → c = 0)
theorem putG {w w' : World} {l : List UInt8} {n : Nat} {x : Int} {e : Ending} (hn : l.length = n) (h : PutPost w l x e w') : PutG w l n x e w' := by
  obtain ⟨v', rfl, hm⟩ := h
  obtain ⟨A, c, e1, hA, _⟩ := hm.row
  obtain ⟨A', c', e2, hb⟩ := hm.bs
  rw [e1] at e2
  injection e2 with e2 e3 e4
  subst e2 e4 hn
  exact ⟨A, c, by rw [e1], hm.2.1, hb, hA⟩
theorem put_got (num : Int) (A : Option Addr) (n c : Nat) (vs : List Vl) (l : List UInt8) (x : Int) (m : Nat) (hl : putB num vs = l) (hx : putE num vs = x) (hm : l.length = m) (w : World) (h : Came w A n num vs) :
    Calls Try.prog 9 #[.agg #[.int .i64 num, .slice A n c]] w (PutG w l m x) :=
  (put_any num A n c vs x hx w h).mono fun _ _ h => putG hm (by rw [← hl]; exact h)
theorem refPut_got (num : Int) (A : Option Addr) (n c : Nat) (vs : List Vl) (l : List UInt8) (x : Int) (m : Nat) (hl : putB num vs = l) (hx : putE num vs = x) (hm : l.length = m) (w : World) (h : Came w A n num vs) :
    Calls Try.prog 10 #[.agg #[.int .i64 num, .slice A n c]] w (PutG w l m x) :=
  (refPut_any num A n c vs x hx w h).mono fun _ _ h => putG hm (by rw [← hl]; exact h)
def GetG (w : World) (num : Int) (vs : List Vl) (n : Nat) (e : Ending) (w' : World) : Prop := ∃ A c, e = .returned (.tuple #[.agg #[.int .i64 num, .slice A n c], .int .i64 0]) ∧ Below w.heap.size w w' ∧ Vals w' w'.heap.size A vs
theorem get_got (A : Option Addr) (n c : Nat) (l : List UInt8) (num : Int) (vs : List Vl) (m : Nat) (hg : ∃ r, getR l = .ok (num, vs) r) (hm : vs.length = m) (w : World) (h : Bs w A n c l) :
    Calls Try.prog 15 #[.slice A n c] w (GetG w num vs m) := by
  obtain ⟨r, hg⟩ := hg
  refine (get_any A n c l w h).mono fun e w' ⟨num', A', n', c', x, he, hb, hs⟩ => ?_
  rcases hs with ⟨vs', r', e1, e2, hv, hl⟩ | ⟨e1, _⟩
  · rw [hg] at e1
    injection e1 with e1 _
    injection e1 with e1 e3
    subst e1 e2 e3 hm hl
    exact ⟨A', c', he, hb, hv⟩
  · rw [hg] at e1; cases e1
theorem get_not (A : Option Addr) (n c : Nat) (l : List UInt8) (y : Int) (hg : getR l = .bad y) (w : World) (h : Bs w A n c l) :
    Calls Try.prog 15 #[.slice A n c] w fun e w' => ∃ c', e = .returned (.tuple #[.agg #[.int .i64 0, .slice none 0 c'], .int .i64 y]) ∧ Below w.heap.size w w' := by
  refine (get_any A n c l w h).mono fun e w' ⟨num', A', n', c', x, he, hb, hs⟩ => ?_
  rcases hs with ⟨vs', r', e1, _⟩ | ⟨e1, _, e2, e3, e4⟩
  · rw [hg] at e1; cases e1
  · rw [hg] at e1
    injection e1 with e1
    subst e1 e2 e3 e4
    exact ⟨c', he, hb⟩
def vW : List Vl := [⟨1, -1, ⟨#[]⟩⟩, ⟨0, 0, ⟨#[]⟩⟩]
theorem putE_W : putE 1 vW = 0 := by decide
theorem putB_W : putB 1 vW = [1, 2, 1, 0, 1] := by
  rw [putB_0 putE_W]
  unfold rowB vW valsB
  rw [sm_small (by decide)]
  simp only [List.flatMap_cons, List.flatMap_nil, valB_0 (v := ⟨0, 0, ⟨#[]⟩⟩) rfl, valB_1 (v := ⟨1, -1, ⟨#[]⟩⟩) rfl]
  rw [show zz (-1) = 1 from rfl, sm_small (by decide)]
  rfl
theorem putB_Z : (putB 0 []).length = 4 := by
  rw [putB_0 (by decide)]
  unfold rowB
  rw [show (0 : Int).toNat = 0 from rfl, sm_small (by decide)]
  rfl
theorem came_zero (w : World) : Came w none 0 0 [] := ⟨Vals.none_, rfl, by decide, by unfold In64; decide, fun v hv => by simp at hv⟩
theorem came_W (w : World) : Came (w.alloc (.cells #[.int .i64 1, .int .i64 (-1), .string ⟨#[]⟩, .int .i64 0, .int .i64 0, .string ⟨#[]⟩] 43)) (some ⟨w.heap.size, 0, none⟩) 2 1 vW := by
  have hx := heap_alloc_new w (.cells #[.int .i64 1, .int .i64 (-1), .string ⟨#[]⟩, .int .i64 0, .int .i64 0, .string ⟨#[]⟩] 43)
  refine ⟨?_, rfl, by decide, by unfold In64; decide, ?_⟩
  · refine Row.vals (vs := vW) fun k u hu => ⟨w.heap.size, 0, rfl, by simp, ?_⟩
    rw [Nat.zero_add]
    simp only [World.cell?, hx]
    rw [if_neg (by simp), ← Array.getElem?_toList]
    exact hu
  · intro v hv
    simp [vW] at hv
    rcases hv with rfl | rfl
    · exact ⟨by unfold In64; decide, by decide⟩
    · exact ⟨by unfold In64; decide, by decide⟩
theorem lit_bs (w : World) : Bs (w.alloc (.cells #[.int .u8 1, .int .u8 2, .int .u8 1, .int .u8 0, .int .u8 1] 5)) (some ⟨w.heap.size, 0, none⟩) 5 5 [1, 2, 1, 0, 1] := by
  have hx := heap_alloc_new w (.cells #[.int .u8 1, .int .u8 2, .int .u8 1, .int .u8 0, .int .u8 1] 5)
  refine ⟨fun k u hu => ⟨w.heap.size, 0, rfl, by simp, ?_⟩, rfl, by decide, by decide⟩
  rw [Nat.zero_add]
  simp only [World.cell?, hx]
  rw [if_neg (by simp), ← Array.getElem?_toList]
  exact hu
set_option maxRecDepth 20000 in
set_option maxHeartbeats 1000000 in
theorem works_any (w : World) : Calls Try.prog 8 #[] w fun e w' => e = .returned (.bool true) ∧ Below w.heap.size w w' := by
  have HC := Lib.hid (came_W w)
  have HL := Lib.hid putB_W
  have HE := Lib.hid putE_W
  have HM := Lib.hid (show ([1, 2, 1, 0, 1] : List UInt8).length = 5 from rfl)
  have HZ := Lib.hid putB_Z
  go_enter Try.func8, Try.ntmps8
  go_wp2_with (first | (go_at_call 9; (with_reducible refine (put_got 1 (some ⟨w.heap.size, 0, none⟩) 2 2 vW [1, 2, 1, 0, 1] 0 5 HL.out HE.out HM.out _ HC.out).mono ?_); rintro e w1 ⟨A1, c1, rfl, hb1, hs1, -⟩; have HS1 := Lib.hid hs1; have HB1 := Lib.hid (on (al (Below.refl w.heap.size w) _) hb1); clear hb1 hs1) | (go_at_call 11; (with_reducible refine (same_got A1 _ 5 5 c1 5 [1, 2, 1, 0, 1] [1, 2, 1, 0, 1] true (decide_eq_true rfl) _ (HS1.out.below (al (Below.refl _ _) _)) (lit_bs w1)).mono ?_); rintro e w2 ⟨rfl, hb2⟩; have HB2 := Lib.hid (on (al HB1.out _) hb2); clear hb2) | (go_at_call 14; (with_reducible refine (size_any 0 none 0 0 [] 4 HZ.out _ (came_zero _)).mono ?_); rintro e w3 ⟨rfl, hb3⟩; have HB3 := Lib.hid (on HB2.out hb3); clear hb3))
  go_ret
  exact ⟨rfl, HB3.out⟩
end Go.Proofs.Ytkpieiolplkifaa.Rw
