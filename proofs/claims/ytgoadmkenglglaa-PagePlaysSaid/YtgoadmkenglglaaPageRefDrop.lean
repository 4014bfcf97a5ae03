/- The document's Drop of slots. -/
import Derived.Test.YtgoadmkenglglaaPageRefPut
namespace Go.Proofs.Ytgoadmkenglglaa.Pg
open Go.RowKit Go.Proofs.Ytgoadmkenglglaa.Mem Go.Proofs.Ytgoadmkenglglaa.Right
set_option linter.unusedVariables false

/-- The answer of the document's Set and Drop. -/
def RefG (w : World) (x : Option (List Sl)) (err : Int) (e : Ending) (w' : World) : Prop :=
  (match x with
  | none => e = .returned (.tuple #[.slice none 0 0, .int .i64 err])
  | some S => ∃ A c, e = .returned (.tuple #[.slice A S.length c, .int .i64 0]) ∧ RL w' A S.length c S) ∧ Below w.heap.size w w'
theorem RL.take {w : World} {A : Option Addr} {n c : Nat} {S : List Sl} (h : RL w A n c S) (k : Nat) (hk : k ≤ n) : RL w A k c (S.take k) := by
  obtain ⟨rs, e, h1, h2, h3, h4, h5, h6⟩ := h
  refine ⟨rs.take k, by rw [List.map_take, e], ?_, by rw [List.length_take]; omega, by omega, h4, h5, fun r hr => h6 r (List.mem_of_mem_take hr)⟩
  rw [rcsAll_take]
  exact fun k u hu => h1 k u (by rw [List.getElem?_take] at hu; split at hu; exact hu; cases hu)
theorem no_data (w : World) : Bs w none 0 0 [] := nil_bs w
set_option maxHeartbeats 1000000 in
theorem drop_ref_no (A : Option Addr) (n c : Nat) (S : List Sl) (z : Int) (w : World) (h : RL w A n c S) (hf : ¬ (0 ≤ z ∧ full S z.toNat = true)) :
    Calls Try.prog 24 #[.slice A n c, .int .i64 z] w (RefG w none 4) := by
  have H := Lib.hid (has_ref A n c S z false (decide_eq_false hf) w h)
  clear h hf
  go_enter Try.func24, Try.ntmps24
  go_wp2_with (go_at_call 40; (with_reducible refine H.out.mono ?_); rintro e w1 ⟨rfl, hb1⟩; have HB1 := Lib.hid hb1; clear hb1)
  go_ret2
  exact ⟨rfl, HB1.out⟩
set_option maxHeartbeats 1000000 in
theorem drop_ref_yes (A : Option Addr) (n c k : Nat) (S : List Sl) (w : World) (h : RL w A n c S) (hn : n ≤ 1000) (hk : k < n) (hf : full S k = true) :
    Calls Try.prog 24 #[.slice A n c, .int .i64 (k : Int)] w (RefG w (some (drp S k)) 0) := by
  have H := Lib.hid (has_ref A n c S (k : Int) true (decide_eq_true ⟨by omega, by rw [Int.toNat_natCast]; exact hf⟩) w h)
  have HR := Lib.hid h
  have hl := h.len
  have HL := Lib.hid hl
  have hlt' : (k : Int) < (n : Int) := by omega
  clear h hf
  go_enter Try.func24, Try.ntmps24
  go_wp2_with (go_at_call 40; (with_reducible refine H.out.mono ?_); rintro e w1 ⟨rfl, hb1⟩; have HB1 := Lib.hid hb1; clear hb1)
  go_at_call 39
  with_reducible refine (copied_got A n c S w w1 HR.out HB1.out hn).mono ?_
  rintro e w2 ⟨v, rfl, hm2⟩
  obtain ⟨g, cg, rfl, hg, hg2⟩ := hm2.copy.form (by omega)
  rw [hl] at hm2 ⊢
  obtain ⟨⟨x0, c0⟩, ⟨x1, c1⟩, f0, f1⟩ := hm2.copy.at_ hl hk
  have HM2 := Lib.hid hm2
  have HS := Lib.hid (show CopyO w (S.set k none) (.slice (some ⟨g, 0, none⟩) n cg) ((w2.setCell ⟨g, k * 2, none⟩ (.bool false)).setCell ⟨g, k * 2 + 1, none⟩ (.slice none 0 0)) from CopyR.set none none 0 hm2 hl hk hg (no_data w))
  obtain ⟨A3, c3, e3, hr3⟩ := CopyO.rl HS.out
  injection e3 with e3 e4 e5
  subst e3 e5
  have HR3 := Lib.hid hr3
  rw [← e4] at hr3
  have HT := Lib.hid (trim_ref g 0 n cg _ _ hr3)
  have HB2 := Lib.hid (show Below w.heap.size w ((w2.setCell ⟨g, k * 2, none⟩ (.bool false)).setCell ⟨g, k * 2 + 1, none⟩ (.slice none 0 0)) by obtain ⟨_, _, h1, _⟩ := HS.out; exact h1.2)
  clear hm2 hr3 e4
  go_wp2_with (go_at_call 41; (with_reducible refine HT.out.mono ?_); rintro e w3 ⟨rfl, hb3⟩; have HB3 := Lib.hid hb3; clear hb3)
  go_ret2
  have hle := lst_le (S.set k none)
  have hn' : (drp S k).length = lst (S.set k none) := by unfold drp; rw [List.length_take]; omega
  refine ⟨⟨some ⟨g, 0, none⟩, cg, by rw [hn']; rfl, ?_⟩, on HB2.out HB3.out⟩
  rw [hn']
  exact (HR3.out.take _ hle).below HB3.out
/-- The document's Drop. -/
theorem drop_ref (A : Option Addr) (n c : Nat) (S : List Sl) (z : Int) (w : World) (h : RL w A n c S) (hn : n ≤ 1000) (x : Option (List Sl)) (y : Int) (hx : dropV S z = (x, y)) :
    Calls Try.prog 24 #[.slice A n c, .int .i64 z] w (RefG w x y) := by
  unfold dropV at hx
  split at hx
  · rename_i hf
    obtain ⟨k, rfl⟩ := Int.eq_ofNat_of_zero_le hf.1
    rw [Int.toNat_natCast] at hf hx
    cases hx
    have hk : k < n := by
      rw [← h.len]
      exact Nat.lt_of_not_le fun h' => by rw [full_not h'] at hf; exact absurd hf.2 (by decide)
    exact drop_ref_yes A n c k S w h hn hk hf.2
  · rename_i hf
    cases hx
    exact drop_ref_no A n c S z w h hf
end Go.Proofs.Ytgoadmkenglglaa.Pg
