/- slices.Delete of pairs, and of nodes. -/
import Derived.Test.YtjlfacmmokfleaaBtRow
import Derived.Test.YtjlfacmmokfleaaBtCompare
import Derived.Deep.CutRange
import Derived.Deep.RegionLaw
namespace Go.Proofs.Ytjlfacmmokfleaa.Bt
open Go.RowKit Go.Proofs.Ytjlfacmmokfleaa.Mem Go.Proofs.Ytjlfacmmokfleaa.Right
set_option linter.unusedVariables false

theorem del_same_p (A : Option Addr) (n c i : Nat) (w : World) (hi : i ≤ n) (hn : n ≤ 1000000) (hc : n ≤ c) :
    Calls Try.prog 39 #[.slice A n c, .int .i64 (i : Int), .int .i64 (i : Int)] w fun e w' => e = .returned (.slice A n c) ∧ w' = w := by
  obtain ⟨v, hv⟩ := slice_lhm elemP A n c i i n (Nat.le_refl _) hi hc
  have t0 : ((i : Int) == (i : Int)) = true := by simp
  go_enter Try.func39, Try.ntmps39
  go_wp2
  go_ret
  exact ⟨rfl, rfl⟩
/-- What a deletion leaves. -/
def Delp (w : World) (g r c : Nat) (us : List Value) (e : Ending) (w' : World) : Prop := e = .returned (.slice (some ⟨g, 0, none⟩) r c) ∧ w'.ownsRow 0 tP 2 (.slice (some ⟨g, 0, none⟩) r c) r us ∧ w.grownBy w' (some g)
set_option maxHeartbeats 2000000 in
theorem del_p (g n c i j r : Nat) (us : List Value) (w : World) (h : w.ownsRow 0 tP 2 (.slice (some ⟨g, 0, none⟩) n c) n us) (h1 : ∀ u ∈ us, u.oneCell' = true) (hij : i < j) (hj : j ≤ n) (hn : n ≤ 1000000) (hr : i + (n - j) = r) :
    Calls Try.prog 39 #[.slice (some ⟨g, 0, none⟩) n c, .int .i64 (i : Int), .int .i64 (j : Int)] w (Delp w g r c (us.take (i * 2) ++ us.drop (j * 2))) := by
  obtain ⟨A0, c0, ev, hnc, hcm, _⟩ := form_own h
  injection ev with e1 _ ev
  subst e1 ev
  obtain ⟨v, hv⟩ := slice_lhm elemP (some ⟨g, 0, none⟩) n c i j n (by omega) hj hnc
  have hs1 := slice_h elemP (some ⟨g, 0, none⟩) n c i (by omega)
  obtain ⟨o1, ho1, hs2⟩ := slice_l elemP g n c j hj hnc
  obtain ⟨o2, ho2, hs3⟩ := slice_lh elemP g r c r n (by omega) hnc
  have t0 : ((i : Int) == (j : Int)) = false := by simp; omega
  have HT := Lib.hid (show w.drew.ownsRow 0 tP 2 (.slice (some ⟨g, 0, none⟩) i c) i (us.take (i * 2)) from own_take h i (by omega))
  have HC := Lib.hid (show ∀ q u, (us.drop (j * 2))[q]? = some u → w.drew.cell? ((⟨g, o1, none⟩ : Addr).add q) = some u from drop_cells h hj hnc ho1)
  have HL := Lib.hid (show (us.drop (j * 2)).length = (n - j) * 2 by rw [List.length_drop, h.1, Nat.sub_mul])
  have H1 := Lib.hid (show ∀ u ∈ us.drop (j * 2), u.oneCell' = true from fun u hu => h1 u (List.mem_of_mem_drop hu))
  have HO := Lib.hid (show o2 = r * 2 from ho2 (by omega))
  obtain ⟨X, hX⟩ : ∃ X, us.take (i * 2) = X := ⟨_, rfl⟩
  obtain ⟨Y, hY⟩ : ∃ Y, us.drop (j * 2) = Y := ⟨_, rfl⟩
  have HR := Lib.hid hr
  have hrn : r < n := by omega
  rw [hX] at HT ⊢
  rw [hY] at HC HL H1 ⊢
  clear h h1 ho1 ho2 hX hY hr
  go_enter Try.func39, Try.ntmps39
  go_upto_region 5 with (fail)
  go_region_law (refine step_spare elemP rfl (.tmp 22) (.tmp 25) rfl g i c X (by simp [Act.eval, Act.put]) HT.out ⟨g, o1, none⟩ (n - j) (c - j) Y (by simp [Act.eval, Act.put]) HL.out HC.out H1.out (by omega) r HR.out ?_; intro w2 HW2 hg2; have HG2 := Lib.hid (drew_grown hg2); clear hg2)
  go_wp2_with (with_reducible refine wpList_clear_own elemP zeroP rfl (by decide) oneP rfl (.tmp 31) rfl g r c o2 (n - r) (c - r) _ rfl HW2.out (by omega) HO.out (by omega) ?_; intro w3 hw3 hg3; have HW3 := Lib.hid hw3; have HG3 := Lib.hid (grown_trans HG2.out hg3); clear hw3 hg3)
  go_ret
  exact ⟨rfl, HW3.out, HG3.out⟩
theorem del_same_k (A : Option Addr) (n c i : Nat) (w : World) (hi : i ≤ n) (hn : n ≤ 1000000) (hc : n ≤ c) :
    Calls Try.prog 69 #[.slice A n c, .int .i64 (i : Int), .int .i64 (i : Int)] w fun e w' => e = .returned (.slice A n c) ∧ w' = w := by
  obtain ⟨v, hv⟩ := slice_lhm elemK A n c i i n (Nat.le_refl _) hi hc
  have t0 : ((i : Int) == (i : Int)) = true := by simp
  go_enter Try.func69, Try.ntmps69
  go_wp2
  go_ret
  exact ⟨rfl, rfl⟩
/-- What a deletion leaves. -/
def Delk (w : World) (g r c : Nat) (us : List Value) (e : Ending) (w' : World) : Prop := e = .returned (.slice (some ⟨g, 0, none⟩) r c) ∧ w'.ownsRow 0 tK 1 (.slice (some ⟨g, 0, none⟩) r c) r us ∧ w.grownBy w' (some g)
set_option maxHeartbeats 2000000 in
theorem del_k (g n c i j r : Nat) (us : List Value) (w : World) (h : w.ownsRow 0 tK 1 (.slice (some ⟨g, 0, none⟩) n c) n us) (h1 : ∀ u ∈ us, u.oneCell' = true) (hij : i < j) (hj : j ≤ n) (hn : n ≤ 1000000) (hr : i + (n - j) = r) :
    Calls Try.prog 69 #[.slice (some ⟨g, 0, none⟩) n c, .int .i64 (i : Int), .int .i64 (j : Int)] w (Delk w g r c (us.take (i * 1) ++ us.drop (j * 1))) := by
  obtain ⟨A0, c0, ev, hnc, hcm, _⟩ := form_own h
  injection ev with e1 _ ev
  subst e1 ev
  obtain ⟨v, hv⟩ := slice_lhm elemK (some ⟨g, 0, none⟩) n c i j n (by omega) hj hnc
  have hs1 := slice_h elemK (some ⟨g, 0, none⟩) n c i (by omega)
  obtain ⟨o1, ho1, hs2⟩ := slice_l elemK g n c j hj hnc
  obtain ⟨o2, ho2, hs3⟩ := slice_lh elemK g r c r n (by omega) hnc
  have t0 : ((i : Int) == (j : Int)) = false := by simp; omega
  have HT := Lib.hid (show w.drew.ownsRow 0 tK 1 (.slice (some ⟨g, 0, none⟩) i c) i (us.take (i * 1)) from own_take h i (by omega))
  have HC := Lib.hid (show ∀ q u, (us.drop (j * 1))[q]? = some u → w.drew.cell? ((⟨g, o1, none⟩ : Addr).add q) = some u from drop_cells h hj hnc ho1)
  have HL := Lib.hid (show (us.drop (j * 1)).length = (n - j) * 1 by rw [List.length_drop, h.1, Nat.sub_mul])
  have H1 := Lib.hid (show ∀ u ∈ us.drop (j * 1), u.oneCell' = true from fun u hu => h1 u (List.mem_of_mem_drop hu))
  have HO := Lib.hid (show o2 = r * 1 from ho2 (by omega))
  obtain ⟨X, hX⟩ : ∃ X, us.take (i * 1) = X := ⟨_, rfl⟩
  obtain ⟨Y, hY⟩ : ∃ Y, us.drop (j * 1) = Y := ⟨_, rfl⟩
  have HR := Lib.hid hr
  have hrn : r < n := by omega
  rw [hX] at HT ⊢
  rw [hY] at HC HL H1 ⊢
  clear h h1 ho1 ho2 hX hY hr
  go_enter Try.func69, Try.ntmps69
  go_upto_region 5 with (fail)
  go_region_law (refine step_spare elemK rfl (.tmp 22) (.tmp 25) rfl g i c X (by simp [Act.eval, Act.put]) HT.out ⟨g, o1, none⟩ (n - j) (c - j) Y (by simp [Act.eval, Act.put]) HL.out HC.out H1.out (by omega) r HR.out ?_; intro w2 HW2 hg2; have HG2 := Lib.hid (drew_grown hg2); clear hg2)
  go_wp2_with (with_reducible refine wpList_clear_own elemK zeroK rfl (by decide) oneK rfl (.tmp 31) rfl g r c o2 (n - r) (c - r) _ rfl HW2.out (by omega) HO.out (by omega) ?_; intro w3 hw3 hg3; have HW3 := Lib.hid hw3; have HG3 := Lib.hid (grown_trans HG2.out hg3); clear hw3 hg3)
  go_ret
  exact ⟨rfl, HW3.out, HG3.out⟩
end Go.Proofs.Ytjlfacmmokfleaa.Bt
