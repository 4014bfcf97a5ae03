/- Has a tree few parts? The document's count (registrarref10.count, Few). -/
import Derived.Test.YtbdippgamlknbaaGreatDoorKs06
namespace Go.Proofs.YtbdippgamlknbaaGreatDoor.Ep
open Go.RowKit Go.Proofs.YtbdippgamlknbaaGreatDoor.Mem Go.Proofs.YtbdippgamlknbaaGreatDoor.Right
set_option linter.unusedVariables false
/-- What count answers. -/
def cntR : Option Nat → Array Value
  | none => #[.int .i64 0, .bool false]
  | some m => #[.int .i64 (m : Int), .bool true]
theorem cnt_mk (k o vk vn : Int) (vs nm : List UInt8) (kids : List Ex) (n : Nat) : cnt (.mk k o vk vn vs nm kids) n = if n = 0 ∨ 12 < kids.length ∨ 100 < nm.length ∨ 100 < vs.length then none else cntL kids (n - 1) := by rw [cnt]
theorem cntL_nil (n : Nat) : cntL [] n = some n := by rw [cntL]
theorem cntL_cons (x : Ex) (l : List Ex) (n : Nat) : cntL (x :: l) n = match cnt x n with | none => none | some m => cntL l m := by rw [cntL] <;> rfl
theorem cnt_le {e : Ex} {n m : Nat} (h : cnt e n = some m) : m ≤ n := by have := cnt_size h; omega
set_option maxHeartbeats 4000000 in
theorem count_any : ∀ (e : Ex) (cs : List Value) (n : Nat) (w : World), ExAt w w.heap.size e cs → n ≤ 1000 →
    Calls Tryz.prog 32 #[.agg cs.toArray, .int .i64 (n : Int)] w fun x w' => x = .returned (.tuple (cntR (cnt e n))) ∧ Below w.heap.size w w' := by
  refine Ex.byKids fun k o vk vn vs nm kids ih cs n w h hn => ?_
  obtain ⟨A, kn, c, rfl, hkn, hc1, hc2, hc3, hk⟩ := ex_open h
  rw [cnt_mk]
  obtain ⟨nb, hnb⟩ : ∃ nb, txt nm = nb := ⟨_, rfl⟩
  obtain ⟨vb, hvb⟩ : ∃ vb, txt vs = vb := ⟨_, rfl⟩
  have hns : nb.size = nm.length := by rw [← hnb]; rfl
  have hvs : vb.size = vs.length := by rw [← hvb]; rfl
  rw [hnb, hvb]
  have HB0 := Lib.hid (al (Below.refl w.heap.size w) (.cells #[.int .i64 k, .int .i64 o, .int .i64 vk, .int .i64 vn, .string vb, .string nb, .slice A kn c] 26))
  have HN := Lib.hid hkn
  have t1c : 12 < kids.length ↔ 12 < kn := by rw [hkn]
  clear hkn
  by_cases h0 : n = 0
  · subst h0
    rw [if_pos (.inl rfl)]
    go_enter Tryz.func32, Tryz.ntmps32
    go_wp2
    go_ret2
    exact ⟨rfl, HB0.out⟩
  have t0 : decide ((n : Int) ≤ 0) = false := decide_eq_false (by omega)
  by_cases h1 : 12 < kids.length
  · rw [if_pos (.inr (.inl h1))]
    have t1 : decide (12 < (kn : Int)) = true := decide_eq_true (by have := t1c.1 h1; omega)
    clear h1 t1c
    go_enter Tryz.func32, Tryz.ntmps32
    go_wp2
    go_ret2
    exact ⟨rfl, HB0.out⟩
  have t1 : decide (12 < (kn : Int)) = false := decide_eq_false (fun g => h1 (t1c.2 (by omega)))
  have h12 : kn ≤ 12 := by omega
  by_cases h2 : 100 < nm.length
  · rw [if_pos (.inr (.inr (.inl h2)))]
    have t2 : decide (100 < (nb.size : Int)) = true := decide_eq_true (by omega)
    go_enter Tryz.func32, Tryz.ntmps32
    go_wp2
    go_ret2
    exact ⟨rfl, HB0.out⟩
  have t2 : decide (100 < (nb.size : Int)) = false := decide_eq_false (by omega)
  by_cases h3 : 100 < vs.length
  · rw [if_pos (.inr (.inr (.inr h3)))]
    have t3 : decide (100 < (vb.size : Int)) = true := decide_eq_true (by omega)
    go_enter Tryz.func32, Tryz.ntmps32
    go_wp2
    go_ret2
    exact ⟨rfl, HB0.out⟩
  have t3 : decide (100 < (vb.size : Int)) = false := decide_eq_false (by omega)
  rw [if_neg (by omega)]
  have HK := Lib.hid hk
  obtain ⟨n1, hn1⟩ : ∃ n1, n - 1 = n1 := ⟨_, rfl⟩
  have hn1' : (n : Int) - 1 = (n1 : Int) := by omega
  rw [hn1]
  clear hk h hnb hvb hns hvs hn1 h1 h2 h3 hc1 hc2 hc3 t1c
  go_enter Tryz.func32, Tryz.ntmps32
  go_wp2
  go_loopw [6, 1] (fun i l wr => ∃ (j m : Nat), j ≤ kn ∧ m ≤ 1000 ∧ i = .int .i64 (j : Int) ∧ l = .int .i64 (m : Int) ∧ Hid (cntL kids n1 = cntL (kids.drop j) m) ∧ Hid (Below (w.alloc (.cells #[.int .i64 k, .int .i64 o, .int .i64 vk, .int .i64 vn, .string vb, .string nb, .slice A kn c] 26)).heap.size (w.alloc (.cells #[.int .i64 k, .int .i64 o, .int .i64 vk, .int .i64 vn, .string vb, .string nb, .slice A kn c] 26)) wr)) (fun i _ _ => kn + 1 - (intOf i).toNat)
  case atStart => exact ⟨0, n1, Nat.zero_le _, by omega, rfl, rfl, Lib.hid (by rw [List.drop_zero]), Lib.hid (Below.refl _ _)⟩
  case round =>
    obtain ⟨j, m, hj, hm, rfl, rfl, HL, HB⟩ := hrel
    have HBw := Lib.hid (HB0.out.trans (HB.out.mono HB0.out.size))
    have d6 := HB.out.cell (p := ⟨w.heap.size, 6, none⟩) (by simp)
    by_cases hlt : j < kn
    · obtain ⟨x, hx⟩ := kid_some (l := kids) (j := j) (by have := HN.out; omega)
      obtain ⟨k', o', vk', vn', vs', nm', ks', A', n', c', b, p, e, rfl, hb, hn', c0, c1, c2, c3, c4, c5, c6, hin⟩ := kid_at HK.out hx
      have HI : ∀ W, Below w.heap.size w W → Calls Tryz.prog 32 #[exV k' o' vk' vn' (txt vs') (txt nm') A' n' c', .int .i64 (m : Int)] W fun x' w' => x' = .returned (.tuple (cntR (cnt x m))) ∧ Below W.heap.size W w' := fun W hW => ih x (kid_mem hx) _ m W (ExAt.on hin hW) hm
      rw [drop_kid hx, cntL_cons] at HL
      have c0 := (HBw.out.cell hb).trans c0
      have c1 := (HBw.out.cell hb).trans c1
      have c2 := (HBw.out.cell hb).trans c2
      have c3 := (HBw.out.cell hb).trans c3
      have c4 := (HBw.out.cell hb).trans c4
      have c5 := (HBw.out.cell hb).trans c5
      have c6 := (HBw.out.cell hb).trans c6
      have tl : decide ((j : Int) < (kn : Int)) = true := decide_eq_true (by omega)
      clear hin hn' e
      cases hcx : cnt x m with
      | none =>
        rw [hcx] at HI HL
        simp only [cntR] at HI
        have HI := Lib.hid HI
        go_wp2_with (go_at_call 32; (with_reducible refine (HI.out _ HBw.out).mono ?_); rintro e' w2 ⟨rfl, hb2⟩; have HB2 := Lib.hid hb2; clear hb2)
        go_ret2
        exact ⟨by rw [HL.out]; rfl, Mem.on HBw.out HB2.out⟩
      | some m' =>
        rw [hcx] at HI HL
        simp only [cntR] at HI
        have hm' := cnt_le hcx
        have HI := Lib.hid HI
        go_wp2_with (go_at_call 32; (with_reducible refine (HI.out _ HBw.out).mono ?_); rintro e' w2 ⟨rfl, hb2⟩; have HB2 := Lib.hid hb2; clear hb2)
        go_roundw
        case rel => exact ⟨j + 1, m', by omega, by omega, by go_num, rfl, HL, Lib.hid (HB.out.trans (HB2.out.mono HB.out.size))⟩
        case measure => simp [intOf]; omega
    · have tl : decide ((j : Int) < (kn : Int)) = false := decide_eq_false (by omega)
      have hd : kids.drop j = [] := List.drop_eq_nil_of_le (by have := HN.out; omega)
      rw [hd, cntL_nil] at HL
      go_wp2
      go_ret2
      exact ⟨by rw [HL.out]; rfl, HBw.out⟩
theorem few_any (e : Ex) (cs : List Value) (n : Nat) (w : World) (h : ExAt w w.heap.size e cs) (hn : n ≤ 1000) :
    Calls Tryz.prog 8 #[.agg cs.toArray, .int .i64 (n : Int)] w fun x w' => x = .returned (.bool (cnt e n).isSome) ∧ Below w.heap.size w w' := by
  have HC : ∀ W, Below w.heap.size w W → Calls Tryz.prog 32 #[.agg cs.toArray, .int .i64 (n : Int)] W fun x w' => x = .returned (.tuple (cntR (cnt e n))) ∧ Below W.heap.size W w' := fun W hW => count_any e cs n W (h.on hW) hn
  obtain ⟨k, o, vk, vn, vs, nm, kids⟩ := e
  obtain ⟨A, kn, c, rfl, -⟩ := ex_open h
  have HB0 := Lib.hid (al (Below.refl w.heap.size w) (.cells #[.int .i64 k, .int .i64 o, .int .i64 vk, .int .i64 vn, .string (txt vs), .string (txt nm), .slice A kn c] 26))
  cases hc : cnt (.mk k o vk vn vs nm kids) n with
  | none =>
    rw [hc] at HC
    simp only [cntR] at HC
    have HC := Lib.hid HC
    clear h
    go_enter Tryz.func8, Tryz.ntmps8
    go_wp2_with (go_at_call 32; (with_reducible refine (HC.out _ HB0.out).mono ?_); rintro e' w2 ⟨rfl, hb2⟩; have HB2 := Lib.hid hb2; clear hb2)
    go_ret
    exact ⟨rfl, Mem.on HB0.out HB2.out⟩
  | some m =>
    rw [hc] at HC
    simp only [cntR] at HC
    have HC := Lib.hid HC
    clear h
    go_enter Tryz.func8, Tryz.ntmps8
    go_wp2_with (go_at_call 32; (with_reducible refine (HC.out _ HB0.out).mono ?_); rintro e' w2 ⟨rfl, hb2⟩; have HB2 := Lib.hid hb2; clear hb2)
    go_ret
    exact ⟨rfl, Mem.on HB0.out HB2.out⟩
end Go.Proofs.YtbdippgamlknbaaGreatDoor.Ep
