/- What the document's Put answers. -/
import Derived.Test.YtledpmpfckeejaaKeyOne
import Derived.Test.YtledpmpfckeejaaRightRef
namespace Go.Proofs.Ytledpmpfckeejaa.Key
open Go.RowKit Go.Proofs.Ytledpmpfckeejaa.Mem Go.Proofs.Ytledpmpfckeejaa.Right
set_option linter.unusedVariables false

theorem refRight_is (v : Vl) (b : Bool) (h : v.ok = b) (w : World) (hs : v.s.size ≤ maxLen) :
    Calls Try.prog 19 #[.agg #[.int .i64 v.k, .int .i64 v.n, .string v.s]] w fun e w' => e = .returned (.bool b) ∧ Below w.heap.size w w' :=
  (refRight_any v.k v.n v.s w hs).mono fun _ _ ⟨h1, h2⟩ => ⟨by rw [h1, ← h]; rfl, h2⟩

/-- Bytes that a call left, behind those of the call's own. -/
theorem wp_left {B : Nat} {W w0 w1 : World} {v v2 : Value} {l cs : List UInt8} (h : Made B W v l w0) (h2 : Made w0.heap.size w0 v2 cs w1) {ops : Array Oper} {rest : List Oper} {o : Oper} {a : Act} {Q : Exit → Act → World → Prop} (s y : Operand)
    (hgd : o.guard = none) (ho : o.op = .call { callee := .builtin .append, args := #[s, y], argTypes := #[25, 25] })
    (hs : a.eval s = v) (hy : a.eval y = v2) (hl : l.length + cs.length ≤ 2000000)
    (k : ∀ v' w', Made B W v' (l ++ cs) w' → w1.grownBy w' v.ownBlock → wpList Try.prog ops Q rest (a.put o.dst v') w') :
    wpList Try.prog ops Q (o :: rest) a w1 := by
  have hM := h.below h2.2.1
  obtain ⟨A, c, rfl, hA, hr⟩ := h2.row
  exact wp_many elem_byte B s y hgd ho hs hM.1 hy hr (bys_len _) hA (bys_one _) (by omega) (by omega) hM.2.2 fun v' w' g1 g2 _ => k v' w' (hM.grow (by rw [bys_app] at g1; exact g1) g2) g2

set_option maxHeartbeats 1000000 in
theorem refPut_any (A : Option Addr) (n c : Nat) (vs : List Vl) (w : World) (hn : n ≤ vs.length) (hn' : vs.length ≤ n) (hN : n ≤ 9223372036854775807) (hz : Wide vs) (h : Vals w w.heap.size A vs) :
    Calls Try.prog 9 #[.slice A n c] w (PutPost w (putB vs) (putE vs)) := by
  have H := Lib.hid h
  have HZ := Lib.hid hz
  clear h hz
  by_cases h6 : 6 < n
  · have HP := Lib.hid (put_long (vs := vs) (by omega))
    go_enter Try.func9, Try.ntmps9
    go_wp2
    go_ret2
    exact put_post HP.out (Made.start (Below.refl _ _))
  · have H6 := Lib.hid (show ¬ 6 < vs.length by omega)
    go_enter Try.func9, Try.ntmps9
    go_wp2
    go_loopw [4, 5] (fun b i wr => ∃ k : Nat, k ≤ n ∧ i = .int .i64 k ∧ Hid (Made w.heap.size w b (code (vs.take k)) wr) ∧ Hid ((vs.take k).all Vl.ok = true)) (fun _ i _ => n - (intOf i).toNat)
    case atStart => exact ⟨0, Nat.zero_le _, rfl, Lib.hid (Made.start (Below.refl _ _)), Lib.hid rfl⟩
    case round =>
      obtain ⟨k, hk, rfl, HM, HK⟩ := hrel
      by_cases hlt : k < n
      · obtain ⟨g, o, v, rfl, hb, hv, c0, c1, c2⟩ := (H.out.below HM.out.2.1 (Nat.le_refl _)).at_ (k := k) (by omega)
        obtain ⟨hf, hs⟩ := HZ.out v (List.mem_of_getElem? hv)
        have HV := Lib.hid hv
        have HS := Lib.hid hs
        have HF := Lib.hid hf
        have HG := Lib.hid (Nat.lt_of_lt_of_le hb HM.out.2.2)
        have hlt' : (k : Int) < (n : Int) := by omega
        clear hv hs hf
        by_cases hok : v.ok = true
        · have HO := Lib.hid hok
          have HL := Lib.hid (code_take_len HK.out (by omega))
          have HL2 := Lib.hid (vl_len hok)
          have HK2 := Lib.hid (ok_snoc HV.out hok HK.out)
          clear hok
          go_wp2_with (first | (go_at_call 19; refine (refRight_is v true HO.out _ HS.out).mono ?_; rintro e w2 ⟨rfl, hb2⟩; have HM2 := Lib.hid (HM.out.below hb2); obtain ⟨d0, d1, d2⟩ : w2.cell? ⟨g, o + k * 3, none⟩ = some (.int .i64 v.k) ∧ w2.cell? ⟨g, o + k * 3 + 1, none⟩ = some (.int .i64 v.n) ∧ w2.cell? ⟨g, o + k * 3 + 2, none⟩ = some (.string v.s) := ⟨(hb2.cell HG.out).trans c0, (hb2.cell HG.out).trans c1, (hb2.cell HG.out).trans c2⟩; clear hb2) | (go_at_call 20; refine (one_any v w2 HO.out HF.out).mono ?_; rintro e w3 ⟨v3, rfl, m3⟩; have HM3 := Lib.hid m3; clear m3) | (at_builtin; refine wp_left HM2.out HM3.out (.tmp 21) (.tmp 26) rfl rfl rfl rfl (by have := HL.out; have := HL2.out; omega) ?_; intro v4 w4 m4 _; rw [code_snoc HV.out] at m4; have HM4 := Lib.hid m4; clear m4))
          go_roundw
          case rel => exact ⟨k + 1, by omega, by go_num, HM4, HK2⟩
          case measure => simp [intOf]; omega
        · have HO := Lib.hid (show v.ok = false by simpa using hok)
          have HP := Lib.hid (put_bad H6.out (not_ok HV.out HO.out))
          clear hok
          go_wp2_with (first | (go_at_call 19; refine (refRight_is v false HO.out _ HS.out).mono ?_; rintro e w2 ⟨rfl, hb2⟩; have HM2 := Lib.hid (HM.out.below hb2); clear hb2))
          go_ret2
          exact put_post HP.out (Made.start HM2.out.2.1)
      · have HP := Lib.hid (put_good H6.out (by have := HK.out; rwa [List.take_of_length_le (by omega)] at this))
        have hk2 : k = n := by omega
        subst hk2
        have hm := HM.out
        rw [List.take_of_length_le (by omega)] at hm
        have HM2 := Lib.hid hm
        clear hm
        go_wp2
        go_ret2
        exact put_post HP.out HM2.out
end Go.Proofs.Ytledpmpfckeejaa.Key
