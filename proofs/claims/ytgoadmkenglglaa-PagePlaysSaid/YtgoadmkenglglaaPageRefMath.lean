/- A page laid slot by slot, as the document lays it; the document's Put put together. -/
import Derived.Test.YtgoadmkenglglaaPageRefPut2
namespace Go.Proofs.Ytgoadmkenglglaa.Pg
open Go.RowKit Go.Proofs.Ytgoadmkenglglaa.Mem Go.Proofs.Ytgoadmkenglglaa.Right
set_option linter.unusedVariables false

theorem put_ref (A A2 : Option Addr) (n c m c2 : Nat) (S : List Sl) (d : List UInt8) (w : World) (h : RL w A n c S) (hS : Ok S) (hd : Bs w A2 m c2 d) (x : Option (List Sl)) (k y : Int) (hx : putV S d = (x, k, y)) :
    Calls Try.prog 22 #[.slice A n c, .slice A2 m c2] w (RefP w x k y) := by
  have hm : d.length = m := hd.2.1
  have hfit := hS.fit.room
  have hl := h.len
  have hle := freeN_le S
  unfold putV at hx
  by_cases h5 : 255 < d.length
  · rw [if_pos h5] at hx
    cases hx
    exact put_ref_long A A2 n c m c2 w (by omega)
  · rw [if_neg h5] at hx
    have ho := size_over (d := d) hS.fit
    have hts := tot_small hS.fit (d := d) (by omega)
    by_cases hk : freeN S = S.length
    · have eu : upd S (freeN S) d = S ++ [some d] := by unfold upd; rw [if_neg (by omega)]
      have ec : (freeN S : Int) = (n : Int) := by omega
      rw [eu] at ho hx hts
      rw [ec] at hx
      have hll : (S ++ [some d]).length = n + 1 := by rw [List.length_append, hl]; rfl
      rw [hll] at ho
      have hgo := fun x hx => put_ref_end A A2 n c m c2 S d w h (by omega) (by omega) hd (by omega) hts x hx
      by_cases hr : roomN S < needN S d.length
      · rw [if_pos hr] at hx
        cases hx
        exact hgo true (decide_eq_true (ho.2 hr))
      · rw [if_neg hr] at hx
        cases hx
        exact hgo false (decide_eq_false fun q => hr (ho.1 q))
    · have hlt : freeN S < S.length := by omega
      have eu : upd S (freeN S) d = S.set (freeN S) (some d) := by unfold upd; rw [if_pos hlt]
      rw [eu] at ho hx hts
      rw [List.length_set, hl] at ho
      have hgo := fun x hx => put_ref_mid A A2 n c (freeN S) m c2 S d w h (by omega) (by omega) hd (by omega) rfl hts x hx
      by_cases hr : roomN S < needN S d.length
      · rw [if_pos hr] at hx
        cases hx
        exact hgo true (decide_eq_true (ho.2 hr))
      · rw [if_neg hr] at hx
        cases hx
        exact hgo false (decide_eq_false fun q => hr (ho.1 q))
theorem splice_one {L : List UInt8} {b : Nat} (x : UInt8) (h : b < L.length) : splice L b [x] = L.set b x := by
  rw [List.set_eq_take_append_cons_drop, if_pos h]
  simp [splice]
theorem splice_more {M d : List UInt8} {f j : Nat} {x : UInt8} (hx : d[j]? = some x) (hf : f + d.length ≤ M.length) : (splice M f (d.take j)).set (f + j) x = splice M f (d.take (j + 1)) := by
  obtain ⟨hj, _⟩ := List.getElem?_eq_some_iff.1 hx
  have hl : (d.take j).length = j := by rw [List.length_take]; omega
  have h1 : (splice M f (d.take j)).length = M.length := splice_len (by omega)
  rw [← splice_one x (by omega), splice_then M (d.take j) [x] (by omega) (by rw [hl]; simp; omega), List.take_add_one, hx]
  rfl
/-- The page, a slot with data further. -/
theorem pgn_some (n : Nat) (T : List Sl) (d : List UInt8) (h : 2 + 2 * (T.length + 1) + (tot T + d.length) ≤ 512) :
    splice (put2 (pgn n T) (2 * (T.length + 1)) (d.length + 1)) (512 - tot T - d.length) d = pgn n (T ++ [some d]) := by
  have e1 : pgn n T = (two n ++ marks T) ++ (two 0 ++ (zs (510 - 2 * (T.length + 1) - (tot T + d.length)) ++ (zs d.length ++ tl T))) := by
    have e2 : zs (510 - 2 * T.length - tot T) = two 0 ++ (zs (510 - 2 * (T.length + 1) - (tot T + d.length)) ++ zs d.length) := by
      rw [show two 0 = zs 2 by decide, zs_app, zs_app]
      congr 1; omega
    unfold pgn
    rw [e2]
    simp only [List.append_assoc]
  have hk : (two n ++ marks T).length = 2 * (T.length + 1) := by rw [List.length_append, len_two, len_marks]; omega
  rw [e1, put2_mid _ _ _ _ hk]
  have e3 : (two n ++ marks T) ++ (two (d.length + 1) ++ (zs (510 - 2 * (T.length + 1) - (tot T + d.length)) ++ (zs d.length ++ tl T))) = ((two n ++ marks T) ++ (two (d.length + 1) ++ zs (510 - 2 * (T.length + 1) - (tot T + d.length)))) ++ (zs d.length ++ tl T) := by simp only [List.append_assoc]
  rw [e3, splice_mid _ _ _ _ (by simp only [List.length_append, len_two, len_marks, len_zs]; omega) (by rw [len_zs])]
  have e4 : tl (T ++ [some d]) = d ++ tl T := by rw [tl_app]; rfl
  have e5 : marks (T ++ [some d]) = marks T ++ two (d.length + 1) := by rw [marks_app]; show _ ++ (two (mk (some d)) ++ []) = _; rw [List.append_nil]; rfl
  have e6 : tot (T ++ [some d]) = tot T + d.length := by rw [tot_app]; rfl
  unfold pgn
  rw [e4, e5, e6, List.length_append]
  show _ = two n ++ (marks T ++ two (d.length + 1) ++ (zs (510 - 2 * (T.length + 1) - (tot T + d.length)) ++ (d ++ tl T)))
  simp only [List.append_assoc]
theorem take_sl {S : List Sl} {k : Nat} (h : k < S.length) : S.take (k + 1) = S.take k ++ [sl S k] := by
  have hs : S[k]? = some S[k] := List.getElem?_eq_getElem h
  rw [List.take_add_one, hs]
  unfold sl; rw [hs]; rfl
end Go.Proofs.Ytgoadmkenglglaa.Pg
