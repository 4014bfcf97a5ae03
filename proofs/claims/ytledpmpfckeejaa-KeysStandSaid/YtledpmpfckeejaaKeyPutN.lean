/- What keys.putNumber leaves: the bytes of a number behind those that are there. -/
import Derived.Test.YtledpmpfckeejaaKeyOwn
namespace Go.Proofs.Ytledpmpfckeejaa.Key
open Go.RowKit Go.Proofs.Ytledpmpfckeejaa.Mem Go.Proofs.Ytledpmpfckeejaa.Right
set_option linter.unusedVariables false

theorem wrap_m64 {n : Int} (h1 : -9223372036854775808 ≤ n) (h2 : n ≤ 9223372036854775807) : IntKind.u64.wrap (IntKind.u64.wrap n + 9223372036854775808) = (m64 n : Int) := by
  unfold m64
  simp only [IntKind.wrap_u64]
  omega

theorem byte_shift (M k : Nat) : ((M : Int) / 2 ^ (8 * (7 - k)) % 256) = ((UInt8.ofNat (M / 256 ^ (7 - k))).toNat : Int) := by
  rw [ofNat_toNat]
  have e : (2 : Int) ^ (8 * (7 - k)) = ((256 ^ (7 - k) : Nat) : Int) := by rw [Int.pow_mul]; norm_cast
  rw [e]
  omega

set_option maxHeartbeats 1000000 in
theorem putN_any (B : Nat) (W : World) (v : Value) (l : List UInt8) (n : Int) (w : World) (hn : -9223372036854775808 ≤ n) (hn' : n ≤ 9223372036854775807) (hl : l.length ≤ 1000000) (h : Made B W v l w) :
    Calls Try.prog 25 #[v, .int .i64 n] w fun e w' => ∃ v', e = .returned v' ∧ Made B W v' (l ++ beN 8 (m64 n)) w' ∧ w.grownBy w' v.ownBlock := by
  have H := Lib.hid h
  have hw := wrap_m64 hn hn'
  obtain ⟨M, hM⟩ : ∃ M, m64 n = M := ⟨_, rfl⟩
  rw [hM] at hw ⊢
  have hlen := beN_len 8 M
  have HLen := Lib.hid hlen
  clear h hM hlen
  go_enter Try.func25, Try.ntmps25
  go_wp2
  go_loopw [11] (fun i wr => ∃ k : Nat, k ≤ 8 ∧ i = .int .i64 k ∧ Hid (Arr wr w.heap.size (part (beN 8 M) k)) ∧ Hid (Below w.heap.size w wr)) (fun i _ => 8 - (intOf i).toNat)
  case atStart => exact ⟨0, by decide, rfl, Lib.hid (Arr.made w _), Lib.hid (al (Below.refl _ _) _)⟩
  case round =>
    obtain ⟨k, hk, rfl, HA, HB⟩ := hrel
    by_cases hlt : k < 8
    · have hlt' : (k : Int) < 8 := by omega
      have hfz := HA.out.open_ k
      obtain ⟨x, hx⟩ : ∃ x, wr.cell? ⟨w.heap.size, k, none⟩ = some x := by
        rw [HA.out.at_cell k, Array.getElem?_eq_getElem (by rw [part_size HLen.out hk]; exact hlt)]; exact ⟨_, rfl⟩
      go_wp2
      go_roundw
      case rel =>
        refine ⟨k + 1, by omega, by go_num, Lib.hid ?_, Lib.hid (HB.out.setCell (Nat.le_refl _) _)⟩
        rw [byte_shift, ← part_put HLen.out hlt (beN_at 8 M k hlt)]
        exact HA.out.put _ _
      case measure => simp [intOf]; omega
    · have hk8 : k = 8 := by omega
      subst hk8
      have HA8 := HA.out
      rw [part_full HLen.out] at HA8
      have HM := Lib.hid (H.out.below HB.out)
      have HR := Lib.hid (show Row wr (w.heap.size + 1) (some ⟨w.heap.size, 0, none⟩) (bys (beN 8 M)) by
        intro j u hu
        refine ⟨_, 0, rfl, by omega, ?_⟩
        rw [Nat.zero_add, HA8.at_cell j]
        simpa using hu)
      have HL := Lib.hid (show (bys (beN 8 M)).length = 8 by rw [bys_len]; exact HLen.out)
      clear HA8
      go_wp2_with (at_builtin; refine wp_many elem_byte B (.tmp 23) (.tmp 24) rfl rfl rfl HM.out.1 rfl HR.out HL.out (fun e => by cases e) (bys_one _) (by omega) (by omega) HM.out.2.2 ?_; intro v' w2 g1 g2 _; have HG := Lib.hid (show Made B W v' (l ++ beN 8 M) w2 from HM.out.grow (by rw [bys_app] at g1; exact g1) g2); have HG2 := Lib.hid (grown_on HB.out g2); clear g1 g2)
      go_ret
      exact ⟨_, rfl, HG.out, HG2.out⟩
end Go.Proofs.Ytledpmpfckeejaa.Key
