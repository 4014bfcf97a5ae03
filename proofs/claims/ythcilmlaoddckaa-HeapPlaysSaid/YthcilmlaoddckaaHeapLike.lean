/- Two heaps are alike: their items, how many, and their pages. -/
import Derived.Test.YthcilmlaoddckaaHeapDones
namespace Go.Proofs.Ythcilmlaoddckaa.Pg
open Go.RowKit Go.Proofs.Ythcilmlaoddckaa.Mem Go.Proofs.Ythcilmlaoddckaa.Right
set_option linter.unusedVariables false

set_option maxRecDepth 100000 in
set_option maxHeartbeats 4000000 in
theorem like_h (n₀ n₁ B R : Nat) (L : List (List Sl)) (w : World) (h : HP w n₀ B L) (hr : RP w n₁ R L) :
    Calls Try.prog 13 #[.pointer (some ⟨B, 0, none⟩), .pointer (some ⟨R, 0, none⟩)] w fun e w' => e = .returned (.bool true) ∧ Below w.heap.size w w' := by
  have H := Lib.hid h
  have HR := Lib.hid hr
  obtain ⟨m, hm⟩ : ∃ m, (allH L).length = m := ⟨_, rfl⟩
  have hm9 : m ≤ 16384 := by
    have h1 := allH_len L L.length h.ok.each
    have h2 := h.ok.few
    rw [← hm]; unfold allH
    omega
  have HA1 := Lib.hid (all_h n₀ B L w h)
  rw [hm] at HA1
  have HM := Lib.hid hm
  have HLEN : Hid (∀ W, HP W n₀ B L → Calls Try.prog 11 #[.pointer (some ⟨B, 0, none⟩)] W fun e w' => e = .returned (.int .i64 (m : Int)) ∧ Below W.heap.size W w') := Lib.hid fun W hW => (len_h n₀ B L W hW).mono fun e w' ⟨a, b⟩ => ⟨by rw [a, hm], b⟩
  have hmm := bne_same (m : Int)
  obtain ⟨n, hn⟩ : ∃ n, L.length = n := ⟨_, rfl⟩
  have hn64 : n ≤ 64 := by have := h.ok.few; omega
  have hnn := bne_same (n : Int)
  have HPG : Hid (∀ W, HP W n₀ B L → Calls Try.prog 21 #[.pointer (some ⟨B, 0, none⟩)] W fun e w' => ∃ A c, e = .returned (.slice A n c) ∧ PL w' A n c L ∧ Below W.heap.size W w') := Lib.hid fun W hW => by
    have := pages_h n₀ B L W hW
    rwa [hn] at this
  have HPR : Hid (∀ W, RP W n₁ R L → Calls Try.prog 27 #[.pointer (some ⟨R, 0, none⟩)] W fun e w' => ∃ A c, e = .returned (.slice A n c) ∧ PL w' A n c L ∧ Below W.heap.size W w') := Lib.hid fun W hW => by
    have := pages_r n₁ R L W hW
    rwa [hn] at this
  clear h hr hm hn
  go_enter Try.func13, Try.ntmps13
  go_wp2_with first | (go_at_call 14; (with_reducible refine HA1.out.mono ?_); rintro e w1 ⟨A1, c1, rfl, hi1, hb1⟩; have HI1 := Lib.hid hi1; have HB1 := Lib.hid hb1; clear hi1 hb1) | (go_at_call 12; (with_reducible refine (all_r n₁ R L _ (HR.out.below HB1.out)).mono ?_); rintro e w2 ⟨A2, c2, rfl, hi2, hb2⟩; rw [HM.out] at hi2 ⊢; have HI2 := Lib.hid hi2; have HI12 := Lib.hid (HI1.out.below hb2); have HB2 := Lib.hid (Mem.on HB1.out hb2); clear hi2 hb2) | (go_at_call 11; (with_reducible refine (HLEN.out _ (H.out.below HB2.out)).mono ?_); rintro e w3 ⟨rfl, hb3⟩; have HI13 := Lib.hid (HI12.out.below hb3); have HI23 := Lib.hid (HI2.out.below hb3); have HB3 := Lib.hid (Mem.on HB2.out hb3); clear hb3)
  go_loopw [7] (fun i wr => ∃ k : Nat, k ≤ m ∧ i = .int .i64 k ∧ Hid (Below w3.heap.size w3 wr)) (fun i _ => m - (intOf i).toNat)
  case atStart => exact ⟨0, Nat.zero_le _, rfl, Lib.hid (Below.refl _ _)⟩
  case round =>
    obtain ⟨k, hk, rfl, HB⟩ := hrel
    by_cases hlt : k < m
    · obtain ⟨b, o, i, A', c', rfl, hb, hi, c0, c1, c2, hs⟩ := (HI13.out.below HB.out).get hlt
      obtain ⟨b2, o2, i2, A2', c2', rfl, hb2, hi2, d0, d1, d2, hs2⟩ := (HI23.out.below HB.out).get hlt
      obtain rfl : i = i2 := by rw [hi] at hi2; injection hi2
      have hlt' : (k : Int) < (m : Int) := by omega
      have HS := Lib.hid (hs.below (Below.refl _ _).drew)
      have HS2 := Lib.hid (hs2.below (Below.refl _ _).drew)
      have t1 := bne_same (i.p : Int)
      have t2 := bne_same (i.s : Int)
      have HK := Lib.hid (show ∀ W, Below wr.drew.heap.size wr.drew W → (W.cell? ⟨b, o + k * 3, none⟩ = some (.int .i64 (i.p : Int)) ∧ W.cell? ⟨b, o + k * 3 + 1, none⟩ = some (.int .i64 (i.s : Int)) ∧ W.cell? ⟨b, o + k * 3 + 2, none⟩ = some (.slice A' i.d.length c')) ∧ W.cell? ⟨b2, o2 + k * 3, none⟩ = some (.int .i64 (i.p : Int)) ∧ W.cell? ⟨b2, o2 + k * 3 + 1, none⟩ = some (.int .i64 (i.s : Int)) ∧ W.cell? ⟨b2, o2 + k * 3 + 2, none⟩ = some (.slice A2' i.d.length c2') from fun W hW => by
        have hb' := undraw hW
        exact ⟨⟨(hb'.cell (p := ⟨b, _, none⟩) hb).trans c0, (hb'.cell (p := ⟨b, _, none⟩) hb).trans c1, (hb'.cell (p := ⟨b, _, none⟩) hb).trans c2⟩, (hb'.cell (p := ⟨b2, _, none⟩) hb2).trans d0, (hb'.cell (p := ⟨b2, _, none⟩) hb2).trans d1, (hb'.cell (p := ⟨b2, _, none⟩) hb2).trans d2⟩)
      clear hs hs2 hi hi2
      go_upto_region 7 with fail
      go_region_held3 (fun W => W.cell? ⟨b, o + k * 3, none⟩ = some (.int .i64 (i.p : Int)) ∧ W.cell? ⟨b, o + k * 3 + 1, none⟩ = some (.int .i64 (i.s : Int)) ∧ W.cell? ⟨b, o + k * 3 + 2, none⟩ = some (.slice A' i.d.length c') ∧ W.cell? ⟨b2, o2 + k * 3, none⟩ = some (.int .i64 (i.p : Int)) ∧ W.cell? ⟨b2, o2 + k * 3 + 1, none⟩ = some (.int .i64 (i.s : Int)) ∧ W.cell? ⟨b2, o2 + k * 3 + 2, none⟩ = some (.slice A2' i.d.length c2'))
        (first | go_keep | exact ⟨p0, p1, p2, p3, p4, p5⟩)
        (first | (go_simp; go_at_call 17; (with_reducible refine (same_self A' A2' i.d.length c' c2' i.d _ HS.out HS2.out).mono ?_); rintro e w4 ⟨rfl, hb4⟩; have HB4 := Lib.hid (Mem.on HB.out (undraw hb4)); obtain ⟨⟨p0, p1, p2⟩, p3, p4, p5⟩ := HK.out w4 hb4; clear hb4))
      go_wp2
      go_roundw
      case rel => exact ⟨k + 1, by omega, by go_num, HB4⟩
      case measure => simp [intOf]; omega
    · obtain rfl : k = m := by omega
      have HB0 := Lib.hid (Mem.on HB3.out HB.out)
      clear hlt hmm HI1 HI2 HI12 HI13 HI23
      go_wp2_with first | (go_at_call 21; (with_reducible refine (HPG.out _ (H.out.below HB0.out)).mono ?_); rintro e w4 ⟨A4, c4, rfl, hp4, hb4⟩; have HP4 := Lib.hid hp4; have HB4 := Lib.hid (Mem.on HB0.out hb4); clear hp4 hb4) | (go_at_call 27; (with_reducible refine (HPR.out _ (HR.out.below HB4.out)).mono ?_); rintro e w5 ⟨A5, c5, rfl, hp5, hb5⟩; have HP5 := Lib.hid hp5; have HP45 := Lib.hid (HP4.out.below hb5); have HB5 := Lib.hid (Mem.on HB4.out hb5); clear hp5 hb5)
      go_loopw [10] (fun i wr => ∃ j : Nat, j ≤ n ∧ i = .int .i64 j ∧ Hid (Below w5.heap.size w5 wr)) (fun i _ => n - (intOf i).toNat)
      case atStart => exact ⟨0, Nat.zero_le _, rfl, Lib.hid (Below.refl _ _)⟩
      case round =>
        obtain ⟨j, hj, rfl, HB6⟩ := hrel
        by_cases hlt : j < n
        · obtain ⟨b, o, A', c', rfl, hb, c0, hg⟩ := (HP45.out.below HB6.out).get hlt
          obtain ⟨b2, o2, A2', c2', rfl, hb2, d0, hg2⟩ := (HP5.out.below HB6.out).get hlt
          have hlt' : (j : Int) < (n : Int) := by omega
          have HS := Lib.hid (hg.1.below (Below.refl _ _).drew)
          have HS2 := Lib.hid (hg2.1.below (Below.refl _ _).drew)
          have HK := Lib.hid (show ∀ W, Below wr.drew.heap.size wr.drew W → W.cell? ⟨b, o + j, none⟩ = some (.slice A' 512 c') ∧ W.cell? ⟨b2, o2 + j, none⟩ = some (.slice A2' 512 c2') from fun W hW => by
            have hb' := undraw hW
            exact ⟨(hb'.cell (p := ⟨b, _, none⟩) hb).trans c0, (hb'.cell (p := ⟨b2, _, none⟩) hb2).trans d0⟩)
          clear hg hg2
          go_upto_region 15 with fail
          go_region_held3 (fun W => W.cell? ⟨b, o + j, none⟩ = some (.slice A' 512 c') ∧ W.cell? ⟨b2, o2 + j, none⟩ = some (.slice A2' 512 c2'))
            (first | go_keep | exact ⟨p0, p1⟩)
            (first | (go_simp; go_at_call 17; (with_reducible refine (same_self A' A2' 512 c' c2' (pg (pageOf L j)) _ HS.out HS2.out).mono ?_); rintro e w7 ⟨rfl, hb7⟩; have HB7 := Lib.hid (Mem.on HB6.out (undraw hb7)); obtain ⟨p0, p1⟩ := HK.out w7 hb7; clear hb7))
          go_wp2
          go_roundw
          case rel => exact ⟨j + 1, by omega, by go_num, HB7⟩
          case measure => simp [intOf]; omega
        · obtain rfl : j = n := by omega
          go_wp2
          go_ret
          exact ⟨rfl, Mem.on HB5.out HB6.out⟩
end Go.Proofs.Ythcilmlaoddckaa.Pg
