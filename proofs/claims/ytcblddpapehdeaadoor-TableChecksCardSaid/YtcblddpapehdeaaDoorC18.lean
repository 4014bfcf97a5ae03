/- How high a tree is: the program's way, which hands its parts to a function, and the docume -/
import Derived.Lib.MinMax
import Derived.Test.YtcblddpapehdeaaDoorC04
namespace Go.Proofs.YtcblddpapehdeaaDoor.Ep
open Go.RowKit Go.Proofs.YtcblddpapehdeaaDoor.Mem Go.Proofs.YtcblddpapehdeaaDoor.Right
set_option linter.unusedVariables false
set_option maxHeartbeats 4000000 in
theorem refHeight_any : ∀ (e : Ex) (cs : List Value) (w : World), ExAt w w.heap.size e cs → size e ≤ 1000000 →
    Calls Tryd.prog 87 #[.agg cs.toArray] w fun x w' => x = .returned (.int .i64 (hgt e : Int)) ∧ Below w.heap.size w w' := by
  refine Ex.byKids fun k o vk vn vs nm kids ih cs w h hs => ?_
  obtain ⟨A, kn, c, rfl, hkn, -, -, -, hk⟩ := ex_open h
  rw [size] at hs
  rw [hgt_mk]
  have HB0 := Lib.hid (al (Below.refl w.heap.size w) (.cells #[.int .i64 k, .int .i64 o, .int .i64 vk, .int .i64 vn, .string (txt vs), .string (txt nm), .slice A kn c] 54))
  have HK := Lib.hid hk
  have HN := Lib.hid hkn
  have HSZ := Lib.hid hs
  have hkm : kn ≤ 1000000 := by have := sizeL_len kids; omega
  clear hk h hkn hs
  go_enter Tryd.func87, Tryd.ntmps87
  go_wp2
  go_loopw [4, 3] (fun i l wr => ∃ (j m : Nat), j ≤ kn ∧ m ≤ 1000000 ∧ i = .int .i64 (j : Int) ∧ l = .int .i64 (m : Int) ∧ Hid (m = hgtL (kids.take j)) ∧ Hid (Below (w.alloc (.cells #[.int .i64 k, .int .i64 o, .int .i64 vk, .int .i64 vn, .string (txt vs), .string (txt nm), .slice A kn c] 54)).heap.size (w.alloc (.cells #[.int .i64 k, .int .i64 o, .int .i64 vk, .int .i64 vn, .string (txt vs), .string (txt nm), .slice A kn c] 54)) wr)) (fun i _ _ => kn + 1 - (intOf i).toNat)
  case atStart => exact ⟨0, 0, Nat.zero_le _, by omega, rfl, rfl, Lib.hid (by rw [List.take_zero, hgtL]), Lib.hid (Below.refl _ _)⟩
  case round =>
    obtain ⟨j, m, hj, hm, rfl, rfl, HL, HB⟩ := hrel
    have HBw := Lib.hid (HB0.out.trans (HB.out.mono HB0.out.size))
    have d6 := HB.out.cell (p := ⟨w.heap.size, 6, none⟩) (by simp)
    by_cases hlt : j < kn
    · obtain ⟨x, hx⟩ := kid_some (l := kids) (j := j) (by have := HN.out; omega)
      obtain ⟨k', o', vk', vn', vs', nm', ks', A', n', c', b, p, e, rfl, hb, hn', c0, c1, c2, c3, c4, c5, c6, hin⟩ := kid_at HK.out hx
      have hsx : size x ≤ sizeL kids := sizeL_mem (kid_mem hx)
      obtain ⟨g, hg⟩ : ∃ g, hgt x = g := ⟨_, rfl⟩
      have hg6 : g ≤ 1000000 := by have := hgt_size x; have := HSZ.out; omega
      have HI : ∀ W, Below w.heap.size w W → Calls Tryd.prog 87 #[exV k' o' vk' vn' (txt vs') (txt nm') A' n' c'] W fun x' w' => x' = .returned (.int .i64 (g : Int)) ∧ Below W.heap.size W w' := fun W hW => by
        rw [← hg]
        exact ih x (kid_mem hx) _ W (ExAt.on hin hW) (by have := HSZ.out; omega)
      have HI := Lib.hid HI
      have HT := Lib.hid (show hgtL (kids.take (j + 1)) = max m g by rw [List.take_add_one, hx, HL.out, ← hg]; exact hgtL_snoc _ _)
      have c0 := (HBw.out.cell hb).trans c0
      have c1 := (HBw.out.cell hb).trans c1
      have c2 := (HBw.out.cell hb).trans c2
      have c3 := (HBw.out.cell hb).trans c3
      have c4 := (HBw.out.cell hb).trans c4
      have c5 := (HBw.out.cell hb).trans c5
      have c6 := (HBw.out.cell hb).trans c6
      have tl : decide ((j : Int) < (kn : Int)) = true := decide_eq_true (by omega)
      clear hin hn' e hx hg hsx
      by_cases hgm : m < g
      · have tg : decide ((m : Int) < (g : Int)) = true := decide_eq_true (by omega)
        go_wp2_with (go_at_call 87; (with_reducible refine (HI.out _ HBw.out).mono ?_); rintro e' w2 ⟨rfl, hb2⟩; have HB2 := Lib.hid hb2; clear hb2)
        go_roundw
        case rel => exact ⟨j + 1, g, by omega, by omega, by go_num, rfl, Lib.hid (by rw [HT.out]; omega), Lib.hid (HB.out.trans (HB2.out.mono HB.out.size))⟩
        case measure => simp [intOf]; omega
      · have tg : decide ((m : Int) < (g : Int)) = false := decide_eq_false (by omega)
        go_wp2_with (go_at_call 87; (with_reducible refine (HI.out _ HBw.out).mono ?_); rintro e' w2 ⟨rfl, hb2⟩; have HB2 := Lib.hid hb2; clear hb2)
        go_roundw
        case rel => exact ⟨j + 1, m, by omega, by omega, by go_num, rfl, Lib.hid (by rw [HT.out]; omega), Lib.hid (HB.out.trans (HB2.out.mono HB.out.size))⟩
        case measure => simp [intOf]; omega
    · have tl : decide ((j : Int) < (kn : Int)) = false := decide_eq_false (by omega)
      have hd : kids.take j = kids := List.take_of_length_le (by have := HN.out; omega)
      rw [hd] at HL
      go_wp2
      go_ret
      exact ⟨ri (by rw [← HL.out]; omega), HBw.out⟩
end Go.Proofs.YtcblddpapehdeaaDoor.Ep
