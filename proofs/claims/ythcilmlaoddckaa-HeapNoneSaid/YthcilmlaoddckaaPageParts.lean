/- Parts of a page: p[i:j], p[i:]; a page's noughts, its data. -/
import Derived.Test.YthcilmlaoddckaaPageUsed
namespace Go.Proofs.Ythcilmlaoddckaa.Pg
open Go.RowKit Go.Proofs.Ythcilmlaoddckaa.Mem Go.Proofs.Ythcilmlaoddckaa.Right
set_option linter.unusedVariables false

/-- Bytes from a place to a place: where they lie. -/
theorem slice_two (b o n c i j : Nat) (zi zj : Int) (hi : zi = i) (hj : zj = j) (hij : i ≤ j) (hc : j ≤ c) : ∃ o', (i < c → o' = o + i) ∧ ∀ w : World, (Instr.sliceAt 32 (.slice (some ⟨b, o, none⟩) n c) (some (.int .i64 zi)) (some (.int .i64 zj)) none).run Try.prog w = .ok (.slice (some ⟨b, o', none⟩) (j - i) (c - i)) w := by
  subst hi hj
  have hl := Try.underlying32
  have he : Try.prog.elem 32 = 5 := by simp [Program.elem, hl]
  refine ⟨if c = i then o else o + i, fun h => by rw [if_neg (by omega)], fun W => ?_⟩
  have hs : (sizeOf 5).run Try.prog W = .ok 1 W := by kernel_rfl
  rw [run_sliceAt_slice W _ _ _ _ _ (by rw [he]; exact hl), run_slice_lh W 32 _ n c (by rw [he]; exact hl) .i64 .i64 i j (by omega) (by omega) (by omega), he, hs]
  simp only [Result.andThen, sliced, Int.toNat_natCast]
  by_cases h0 : c = i
  · rw [if_pos h0, if_pos (by omega)]
  · rw [if_neg h0, if_neg (by omega)]
    unfold Addr.add
    by_cases h1 : i = 0
    · subst h1; simp
    · simp [h1]
/-- The bytes that such a part reads as. -/
theorem bs_part {w : World} {b o o' c i j n : Nat} {l : List UInt8} (h : Bs w (some ⟨b, o, none⟩) n c l) (hij : i ≤ j) (hj : j ≤ n) (ho : i < c → o' = o + i) : Bs w (some ⟨b, o', none⟩) (j - i) (c - i) ((l.drop i).take (j - i)) := by
  obtain ⟨h1, h2, h3, h4⟩ := h
  refine ⟨row_take (row_from h1 (by omega) h3 ho), ?_, by omega, by omega⟩
  rw [List.length_take, List.length_drop]; omega
theorem Pag.some_ {w : World} {A : Option Addr} {c : Nat} {S : List Sl} (h : Pag w A c S) : ∃ b o, A = some ⟨b, o, none⟩ ∧ b < w.heap.size := by
  obtain ⟨b, o, x, e, hb, _⟩ := h.1.1.byte (k := 0) (by have := h.1.2.1; omega)
  exact ⟨b, o, e, hb⟩
theorem pg_gap {S : List Sl} (h : Fit S) : ((pg S).drop (2 * (S.length + 1))).take (512 - tot S - 2 * (S.length + 1)) = zs (512 - tot S - 2 * (S.length + 1)) := by
  have hr := h.room
  have e : pg S = (two S.length ++ marks S) ++ (zs (510 - 2 * S.length - tot S) ++ tl S) := by unfold pg pgn; rw [List.append_assoc]
  have hl : (two S.length ++ marks S).length = 2 * (S.length + 1) := by rw [List.length_append, len_two, len_marks]; omega
  rw [e, List.drop_left' hl, List.take_left' (by rw [len_zs]; omega)]
  congr 1; omega
/-- The data of the slots from the second of two parts on. -/
theorem pg_data (n : Nat) {S1 S2 : List Sl} {s : Sl} (h : 2 + 2 * (S1 ++ s :: S2).length + tot (S1 ++ s :: S2) ≤ 512) :
    ((pgn n (S1 ++ s :: S2)).drop (512 - tot (S1 ++ s :: S2))).take (tot S2) = tl S2 ∧ ((pgn n (S1 ++ s :: S2)).drop (512 - tot S1 - ln s)).take (ln s) = dat s := by
  have ht : tot (S1 ++ s :: S2) = tot S1 + (ln s + tot S2) := by rw [tot_app]; rfl
  rw [pgn_parts]
  rw [List.length_append, List.length_cons] at h
  have hl : (two n ++ (marks S1 ++ (two (mk s) ++ marks S2)) ++ zs (510 - 2 * (S1.length + 1 + S2.length) - (tot S1 + ln s + tot S2))).length = 512 - tot (S1 ++ s :: S2) := by
    simp only [List.length_append, len_two, len_marks, len_zs]; omega
  constructor
  · rw [← List.append_assoc, List.drop_left' hl, List.take_left' (len_tl _)]
  · rw [← List.append_assoc, ← List.append_assoc, List.drop_left' (by rw [List.length_append, hl, len_tl]; omega)]
    exact List.take_left' rfl
end Go.Proofs.Ythcilmlaoddckaa.Pg
