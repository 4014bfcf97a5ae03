/- What keys.Put answers: the bytes of right values, or the error. -/
import Derived.Test.YtledpmpfckeejaaKeyPut1
namespace Go.Proofs.Ytledpmpfckeejaa.Key
open Go.RowKit Go.Proofs.Ytledpmpfckeejaa.Mem Go.Proofs.Ytledpmpfckeejaa.Right
set_option linter.unusedVariables false

/-- What came in: values, each of 64 bits, and a text of a string's length. -/
def Wide (vs : List Vl) : Prop := ∀ v ∈ vs, Vl.fits v ∧ v.s.size ≤ maxLen
theorem right_is (v : Vl) (b : Bool) (h : v.ok = b) (w : World) (hs : v.s.size ≤ maxLen) :
    Calls Try.prog 17 #[.agg #[.int .i64 v.k, .int .i64 v.n, .string v.s]] w fun e w' => e = .returned (.bool b) ∧ Below w.heap.size w w' :=
  (right_any v.k v.n v.s w hs).mono fun _ _ ⟨h1, h2⟩ => ⟨by rw [h1, ← h]; rfl, h2⟩
theorem code_snoc {vs : List Vl} {k : Nat} {v : Vl} (h : vs[k]? = some v) : code (vs.take k) ++ Vl.one v = code (vs.take (k + 1)) := by
  rw [List.take_add_one, h, code_app, Option.toList_some, code_one]
theorem ok_snoc {vs : List Vl} {k : Nat} {v : Vl} (h : vs[k]? = some v) (hv : v.ok = true) (ha : (vs.take k).all Vl.ok = true) : (vs.take (k + 1)).all Vl.ok = true := by
  rw [List.take_add_one, h, List.all_append, ha]; simp [hv]
theorem not_ok {vs : List Vl} {k : Nat} {v : Vl} (h : vs[k]? = some v) (hv : v.ok = false) : vs.all Vl.ok = false := by
  rw [List.all_eq_false]; exact ⟨v, List.mem_of_getElem? h, by simp [hv]⟩
theorem put_long {vs : List Vl} (h : 6 < vs.length) : putE vs = 3 ∧ putB vs = [] := by unfold putE putB; rw [if_pos h, if_pos h]; exact ⟨rfl, rfl⟩
theorem put_bad {vs : List Vl} (h : ¬ 6 < vs.length) (ha : vs.all Vl.ok = false) : putE vs = 2 ∧ putB vs = [] := by
  unfold putE putB; rw [if_neg h, if_neg h, if_neg (by rw [ha]; decide), if_neg (by rw [ha]; decide)]; exact ⟨rfl, rfl⟩
theorem put_good {vs : List Vl} (h : ¬ 6 < vs.length) (ha : vs.all Vl.ok = true) : putE vs = 0 ∧ putB vs = code vs := by
  unfold putE putB; rw [if_neg h, if_neg h, if_pos ha, if_pos ha]; exact ⟨rfl, rfl⟩
theorem code_take_len {vs : List Vl} {k : Nat} (h : (vs.take k).all Vl.ok = true) (hk : k ≤ 6) : (code (vs.take k)).length ≤ 100000 := by
  have := code_len (vs := vs.take k) (List.all_eq_true.1 h)
  have := List.length_take_le k vs
  omega
/-- What Put leaves. -/
def PutPost (w : World) (l : List UInt8) (x : Int) (e : Ending) (w' : World) : Prop := ∃ v', e = .returned (.tuple #[v', .int .i64 x]) ∧ Made w.heap.size w v' l w'
theorem put_post {w w' : World} {vs : List Vl} {v' : Value} {l : List UInt8} {x : Int} (h : putE vs = x ∧ putB vs = l) (hm : Made w.heap.size w v' l w') : PutPost w (putB vs) (putE vs) (.returned (.tuple #[v', .int .i64 x])) w' :=
  ⟨v', by rw [h.1], by rw [h.2]; exact hm⟩

set_option maxHeartbeats 1000000 in
theorem Put_any (A : Option Addr) (n c : Nat) (vs : List Vl) (w : World) (hn : n ≤ vs.length) (hn' : vs.length ≤ n) (hN : n ≤ 9223372036854775807) (hz : Wide vs) (h : Vals w w.heap.size A vs) :
    Calls Try.prog 8 #[.slice A n c] w (PutPost w (putB vs) (putE vs)) := by
  have H := Lib.hid h
  have HZ := Lib.hid hz
  clear h hz
  by_cases h6 : 6 < n
  · have HP := Lib.hid (put_long (vs := vs) (by omega))
    go_enter Try.func8, Try.ntmps8
    go_wp2
    go_ret2
    exact put_post HP.out (Made.start (Below.refl _ _))
  · have H6 := Lib.hid (show ¬ 6 < vs.length by omega)
    go_enter Try.func8, Try.ntmps8
    go_wp2
    go_loopw [4, 12] (fun b i wr => ∃ k : Nat, k ≤ n ∧ i = .int .i64 k ∧ Hid (Made w.heap.size w b (code (vs.take k)) wr) ∧ Hid ((vs.take k).all Vl.ok = true)) (fun _ i _ => n - (intOf i).toNat)
    case atStart => exact ⟨0, Nat.zero_le _, rfl, Lib.hid (Made.start (Below.refl _ _)), Lib.hid rfl⟩
    case round =>
      obtain ⟨k, hk, rfl, HM, HK⟩ := hrel
      by_cases hlt : k < n
      · obtain ⟨g, o, v, rfl, hb, hv, c0, c1, c2⟩ := (H.out.below HM.out.2.1 (Nat.le_refl _)).at_ (k := k) (by omega)
        obtain ⟨hf, hs⟩ := HZ.out v (List.mem_of_getElem? hv)
        have HV := Lib.hid hv
        have HS := Lib.hid hs
        have HF := Lib.hid hf
        have hlt' : (k : Int) < (n : Int) := by omega
        clear hv hs hf
        by_cases hok : v.ok = true
        · have HO := Lib.hid hok
          have HL := Lib.hid (code_take_len HK.out (by omega))
          have HK2 := Lib.hid (ok_snoc HV.out hok HK.out)
          clear hok
          go_wp2_with (first | (go_at_call 17; refine (right_is v true HO.out _ HS.out).mono ?_; rintro e w2 ⟨rfl, hb2⟩; have HM2 := Lib.hid ((HM.out.alloc _).below hb2); obtain ⟨d0, d1, d2⟩ := ((Box.made wr v.k v.n v.s).below hb2).cells; clear hb2) | (go_at_call 18; refine (put_any w.heap.size w _ _ v w2 HO.out HF.out HL.out HM2.out).mono ?_; rintro e w3 ⟨v3, rfl, m3⟩; rw [code_snoc HV.out] at m3; have HM3 := Lib.hid m3; clear m3))
          go_roundw
          case rel => exact ⟨k + 1, by omega, by go_num, HM3, HK2⟩
          case measure => simp [intOf]; omega
        · have HO := Lib.hid (show v.ok = false by simpa using hok)
          have HP := Lib.hid (put_bad H6.out (not_ok HV.out HO.out))
          clear hok
          go_wp2_with (first | (go_at_call 17; refine (right_is v false HO.out _ HS.out).mono ?_; rintro e w2 ⟨rfl, hb2⟩; have HM2 := Lib.hid ((HM.out.alloc _).below hb2); clear hb2))
          go_ret2
          exact put_post HP.out (Made.start HM2.out.2.1)
      · have HP := Lib.hid (put_good H6.out (by have := HK.out; rwa [List.take_of_length_le (by omega)] at this))
        have hk2 : k = n := by omega
        subst hk2
        have hm := HM.out
        rw [List.take_of_length_le (by omega)] at hm
        have HM2 := Lib.hid hm
        clear hm
        go_wp2
        go_ret2
        exact put_post HP.out HM2.out
end Go.Proofs.Ytledpmpfckeejaa.Key
