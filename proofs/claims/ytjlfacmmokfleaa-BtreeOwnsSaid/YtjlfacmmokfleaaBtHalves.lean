/- slices.Clone and halves, of pairs and of nodes. -/
import Derived.Test.YtjlfacmmokfleaaBtDel
import Derived.Maps.AppendAt
namespace Go.Proofs.Ytjlfacmmokfleaa.Bt
open Go.RowKit Go.Proofs.Ytjlfacmmokfleaa.Mem Go.Proofs.Ytjlfacmmokfleaa.Right
set_option linter.unusedVariables false

theorem own_base {w : World} {B B' : Nat} {e : TypeId} {k n : Nat} {v : Value} {us : List Value} (h : w.ownsRow B e k v n us) (hB : B' ≤ B) : w.ownsRow B' e k v n us := by
  obtain ⟨h1, h2⟩ := h
  refine ⟨h1, ?_⟩
  rcases h2 with h2 | ⟨g, cap, cur, rfl, hb, rest⟩
  · exact .inl h2
  · exact .inr ⟨g, cap, cur, rfl, by omega, rest⟩
theorem own_below {w w' : World} {B : Nat} {e : TypeId} {k n : Nat} {v : Value} {us : List Value} (h : w.ownsRow B e k v n us) (hb : Below w.heap.size w w') : w'.ownsRow B e k v n us := by
  obtain ⟨h1, h2⟩ := h
  refine ⟨h1, ?_⟩
  rcases h2 with h2 | ⟨g, cap, cur, rfl, hB, hh, rest⟩
  · exact .inl h2
  · exact .inr ⟨g, cap, cur, rfl, hB, (hb.block g (blk_lt hh)).trans hh, rest⟩
/-- A list in memory that is new. -/
def NewRow (B : Nat) (v : Value) : Prop := ∀ g, v.ownBlock = some g → B ≤ g
theorem newRow_of {w : World} {B : Nat} {e : TypeId} {k n : Nat} {v : Value} {us : List Value} (h : w.ownsRow B e k v n us) : NewRow B v := by
  intro g hg
  rcases h.2 with ⟨rfl, _⟩ | ⟨g', cap, cur, rfl, hb, _⟩
  · cases hg
  · injection hg with hg
    subst hg; exact hb
/-- One row of a world has turned: what is known of another one stands. -/
theorem own_other {w w' : World} {B : Nat} {e : TypeId} {k n : Nat} {v : Value} {us : List Value} {r : Option Nat} (h : w.ownsRow B e k v n us) (hg : w.grownBy w' r) (hne : ∀ g, v.ownBlock = some g → r ≠ some g) : w'.ownsRow B e k v n us := by
  obtain ⟨h1, h2⟩ := h
  refine ⟨h1, ?_⟩
  rcases h2 with h2 | ⟨g, cap, cur, rfl, hB, hh, rest⟩
  · exact .inl h2
  · exact .inr ⟨g, cap, cur, rfl, hB, (hg.block g (blk_lt hh) (fun e => hne g rfl e.symm)).trans hh, rest⟩
theorem clone_nil_p (w : World) : Calls Try.prog 67 #[.slice none 0 0] w fun e w' => e = .returned (.slice none 0 0) ∧ w' = w := by
  have t0 : ∀ w0 : World, (binOp .eql 37 (.slice none 0 0) (.slice none 0 0)).run Try.prog w0 = .ok (.bool true) w0 := fun w0 => Lib.run_eql_slice_nil w0 _ _ none 0 0 0 0 Try.underlying37
  go_enter Try.func67, Try.ntmps67
  go_wp2
  go_ret
  exact ⟨rfl, rfl⟩
/-- A copy of a list. -/
def Clnp (w : World) (m : Nat) (Y : List Value) (e : Ending) (w' : World) : Prop := ∃ v, e = .returned v ∧ w'.ownsRow w.heap.size tP 2 v m Y ∧ Below w.heap.size w w'
set_option maxRecDepth 100000 in
theorem clone_p (a : Addr) (m c : Nat) (Y : List Value) (w : World) (hl : Y.length = m * 2) (hc : ∀ i u, Y[i]? = some u → w.cell? (a.add i) = some u) (hlt : Y ≠ [] → a.block < w.heap.size) (h1 : ∀ u ∈ Y, u.oneCell' = true) (hm : m ≤ 1000) :
    Calls Try.prog 67 #[.slice (some a) m c] w (Clnp w m Y) := by
  have t0 : ∀ w0 : World, (binOp .eql 37 (.slice (some a) m c) (.slice none 0 0)).run Try.prog w0 = .ok (.bool false) w0 := fun w0 => Lib.run_eql_slice_nil w0 _ _ (some a) m c 0 0 Try.underlying37
  have hB := al (Below.refl w.heap.size w) (.cells #[] tP)
  have HO := Lib.hid (show (w.alloc (.cells #[] tP)).ownsRow w.heap.size tP 2 (.slice (some ⟨w.heap.size, 0, none⟩) 0 0) 0 [] from ⟨by simp, .inr ⟨w.heap.size, 0, #[], rfl, Nat.le_refl _, heap_alloc_new w _, Nat.le_refl _, by decide, by simp, by simp⟩⟩)
  have HC := Lib.hid (show ∀ i u, Y[i]? = some u → (w.alloc (.cells #[] tP)).cell? (a.add i) = some u from fun i u hu => by
    have hY : Y ≠ [] := by rintro rfl; simp at hu
    have e : (a.add i).block = a.block := by unfold Addr.add; split <;> rfl
    exact (hB.cell (by rw [e]; exact hlt hY)).trans (hc i u hu))
  have HB := Lib.hid hB
  have H1 := Lib.hid h1
  have HL := Lib.hid hl
  obtain ⟨i, z, ht, hi, hz, hz1, hz2, hzc, hk⟩ := elemP
  have HT := Lib.hid ht
  have HI := Lib.hid hi
  have HZ := Lib.hid hz
  clear hl hc hlt h1 hB ht hi hz
  go_enter Try.func67, Try.ntmps67
  go_wp2_with (at_builtin; refine wpList_append_own_at _ rfl (.tmp 5) (.tmp 6) 37 rfl w.heap.size tP i z 2 32 HT.out HI.out HZ.out hz1 hz2 hzc hk _ 0 [] rfl HO.out a m c Y rfl HL.out HC.out H1.out (by unfold maxLen; omega) (by omega) (by simp) ?_; intro v w2 ho2 hg2 _ _; have HO2 := Lib.hid ho2; have HB2 := Lib.hid (HB.out.grown hg2 (by simp) (fun k hk => (HO.out.lt k hk).1)); clear ho2 hg2)
  go_ret
  have h := HO2.out
  rw [Nat.zero_add, List.nil_append] at h
  exact ⟨v, rfl, h, HB2.out⟩
/-- Two halves of a list: the front where it was, the back anew. -/
def Halvp (w : World) (v : Value) (p q : Nat) (X Y : List Value) (e : Ending) (w' : World) : Prop :=
  ∃ v1 v2, e = .returned (.tuple #[v1, v2]) ∧ w'.ownsRow 0 tP 2 v1 p X ∧ w'.ownsRow 0 tP 2 v2 q Y ∧ v1.ownBlock = v.ownBlock ∧ NewRow w.heap.size v2 ∧ w.grownBy w' v.ownBlock
set_option maxHeartbeats 2000000 in
theorem halves_p (n p q : Nat) (v : Value) (us : List Value) (w : World) (h : w.ownsRow 0 tP 2 v n us) (h1 : ∀ u ∈ us, u.oneCell' = true) (hn : n ≤ 1000) (hp : n / 2 = p) (hq : n - p = q) :
    Calls Try.prog 62 #[v] w (Halvp w v p q (us.take (p * 2)) (us.drop (p * 2))) := by
  have t2 : Int.tdiv (n : Int) 2 = (p : Int) := by rw [Int.tdiv_eq_ediv_of_nonneg (by omega)]; omega
  rcases h.2 with ⟨rfl, rfl⟩ | ⟨g, c, cur, rfl, _, hh, hnc, hcm, _⟩
  · obtain rfl : p = 0 := by omega
    obtain rfl : q = 0 := by omega
    have hu : us = [] := List.eq_nil_of_length_eq_zero (by have := h.1; omega)
    subst hu
    clear t2 h h1 hn hp hq
    go_enter Try.func62, Try.ntmps62
    go_wp2_with first | (go_at_call 67; (with_reducible refine (clone_nil_p _).mono ?_); rintro e w1 ⟨rfl, rfl⟩) | (go_at_call 39; refine (del_same_p none 0 0 0 _ (Nat.le_refl _) (by decide) (Nat.le_refl _)).mono ?_; rintro e w2 ⟨rfl, rfl⟩)
    go_ret2
    exact ⟨_, _, rfl, World.ownsRow_nil _ _ _ _, World.ownsRow_nil _ _ _ _, rfl, fun g hg => by simp [Value.ownBlock] at hg, grown_refl _ _⟩
  · obtain ⟨o1, ho1, hs1⟩ := slice_l elemP g n c p (by omega) hnc
    have hgl := blk_lt hh
    have HC := Lib.hid (clone_p ⟨g, o1, none⟩ q (c - p) (us.drop (p * 2)) w (by rw [List.length_drop, h.1, ← hq, Nat.sub_mul]) (drop_cells h (by omega) hnc ho1) (fun _ => hgl) (fun u hu => h1 u (List.mem_of_mem_drop hu)) (by omega))
    have H := Lib.hid h
    have H1 := Lib.hid h1
    have HL := Lib.hid h.1
    rw [hq] at hs1
    by_cases h0 : n = 0
    · have HD := Lib.hid (show ∀ w1 : World, Calls Try.prog 39 #[.slice (some ⟨g, 0, none⟩) n c, .int .i64 (p : Int), .int .i64 (n : Int)] w1 fun e w' => e = .returned (.slice (some ⟨g, 0, none⟩) n c) ∧ w' = w1 from fun w1 => by
        have e : n = p := by omega
        subst e
        exact del_same_p (some ⟨g, 0, none⟩) n c n w1 (Nat.le_refl _) (by omega) (by omega))
      have HT := Lib.hid (show us = us.take (p * 2) by
        have : us = [] := List.eq_nil_of_length_eq_zero (by have := h.1; omega)
        rw [this]; simp)
      have HNP := Lib.hid (show n = p by omega)
      have hpn : p ≤ n := by omega
      clear h0
      clear h h1 hh ho1
      go_enter Try.func62, Try.ntmps62
      go_wp2_with first | (go_at_call 67; (with_reducible refine HC.out.mono ?_); rintro e w1 ⟨v2, rfl, ho2, hb2⟩; have HO2 := Lib.hid ho2; have HB2 := Lib.hid hb2; have H2 := Lib.hid (own_below H.out hb2); clear ho2 hb2) | (go_at_call 39; (with_reducible refine (HD.out _).mono ?_); rintro e w2 ⟨rfl, rfl⟩)
      go_ret2
      exact ⟨_, _, rfl, by rw [← HT.out, ← HNP.out]; exact H2.out, own_base HO2.out (Nat.zero_le _), rfl, newRow_of HO2.out, grown_below HB2.out⟩
    · have hpn : p < n := by omega
      have HQ := Lib.hid (show us.drop (n * 2) = [] from List.drop_eq_nil_of_le (by rw [h.1]; exact Nat.le_refl _))
      have HD := Lib.hid (fun (w1 : World) (h2 : w1.ownsRow 0 tP 2 (.slice (some ⟨g, 0, none⟩) n c) n us) => del_p g n c p n p us w1 h2 h1 hpn (Nat.le_refl _) (by omega) (by omega))
      clear h h1 hh ho1
      go_enter Try.func62, Try.ntmps62
      go_wp2_with first | (go_at_call 67; (with_reducible refine HC.out.mono ?_); rintro e w1 ⟨v2, rfl, ho2, hb2⟩; have HO2 := Lib.hid ho2; have HB2 := Lib.hid hb2; have H2 := Lib.hid (own_below H.out hb2); clear ho2 hb2) | (go_at_call 39; (with_reducible refine (HD.out _ H2.out).mono ?_); rintro e w2 ⟨rfl, hd2, hg2⟩; have HD2 := Lib.hid hd2; have HG2 := Lib.hid hg2; clear hd2 hg2)
      go_ret2
      have hd := HD2.out
      rw [HQ.out, List.append_nil] at hd
      exact ⟨_, _, rfl, hd, own_other (own_base HO2.out (Nat.zero_le _)) HG2.out (fun g2 hg2 e => by injection e with e; have := newRow_of HO2.out g2 hg2; omega), rfl, newRow_of HO2.out, grown_on HB2.out HG2.out⟩
theorem clone_nil_k (w : World) : Calls Try.prog 68 #[.slice none 0 0] w fun e w' => e = .returned (.slice none 0 0) ∧ w' = w := by
  have t0 : ∀ w0 : World, (binOp .eql 50 (.slice none 0 0) (.slice none 0 0)).run Try.prog w0 = .ok (.bool true) w0 := fun w0 => Lib.run_eql_slice_nil w0 _ _ none 0 0 0 0 Try.underlying50
  go_enter Try.func68, Try.ntmps68
  go_wp2
  go_ret
  exact ⟨rfl, rfl⟩
/-- A copy of a list. -/
def Clnk (w : World) (m : Nat) (Y : List Value) (e : Ending) (w' : World) : Prop := ∃ v, e = .returned v ∧ w'.ownsRow w.heap.size tK 1 v m Y ∧ Below w.heap.size w w'
set_option maxRecDepth 100000 in
theorem clone_k (a : Addr) (m c : Nat) (Y : List Value) (w : World) (hl : Y.length = m * 1) (hc : ∀ i u, Y[i]? = some u → w.cell? (a.add i) = some u) (hlt : Y ≠ [] → a.block < w.heap.size) (h1 : ∀ u ∈ Y, u.oneCell' = true) (hm : m ≤ 1000) :
    Calls Try.prog 68 #[.slice (some a) m c] w (Clnk w m Y) := by
  have t0 : ∀ w0 : World, (binOp .eql 50 (.slice (some a) m c) (.slice none 0 0)).run Try.prog w0 = .ok (.bool false) w0 := fun w0 => Lib.run_eql_slice_nil w0 _ _ (some a) m c 0 0 Try.underlying50
  have hB := al (Below.refl w.heap.size w) (.cells #[] tK)
  have HO := Lib.hid (show (w.alloc (.cells #[] tK)).ownsRow w.heap.size tK 1 (.slice (some ⟨w.heap.size, 0, none⟩) 0 0) 0 [] from ⟨by simp, .inr ⟨w.heap.size, 0, #[], rfl, Nat.le_refl _, heap_alloc_new w _, Nat.le_refl _, by decide, by simp, by simp⟩⟩)
  have HC := Lib.hid (show ∀ i u, Y[i]? = some u → (w.alloc (.cells #[] tK)).cell? (a.add i) = some u from fun i u hu => by
    have hY : Y ≠ [] := by rintro rfl; simp at hu
    have e : (a.add i).block = a.block := by unfold Addr.add; split <;> rfl
    exact (hB.cell (by rw [e]; exact hlt hY)).trans (hc i u hu))
  have HB := Lib.hid hB
  have H1 := Lib.hid h1
  have HL := Lib.hid hl
  obtain ⟨i, z, ht, hi, hz, hz1, hz2, hzc, hk⟩ := elemK
  have HT := Lib.hid ht
  have HI := Lib.hid hi
  have HZ := Lib.hid hz
  clear hl hc hlt h1 hB ht hi hz
  go_enter Try.func68, Try.ntmps68
  go_wp2_with (at_builtin; refine wpList_append_own_at _ rfl (.tmp 5) (.tmp 6) 50 rfl w.heap.size tK i z 1 8 HT.out HI.out HZ.out hz1 hz2 hzc hk _ 0 [] rfl HO.out a m c Y rfl HL.out HC.out H1.out (by unfold maxLen; omega) (by omega) (by simp) ?_; intro v w2 ho2 hg2 _ _; have HO2 := Lib.hid ho2; have HB2 := Lib.hid (HB.out.grown hg2 (by simp) (fun k hk => (HO.out.lt k hk).1)); clear ho2 hg2)
  go_ret
  have h := HO2.out
  rw [Nat.zero_add, List.nil_append] at h
  exact ⟨v, rfl, h, HB2.out⟩
/-- Two halves of a list: the front where it was, the back anew. -/
def Halvk (w : World) (v : Value) (p q : Nat) (X Y : List Value) (e : Ending) (w' : World) : Prop :=
  ∃ v1 v2, e = .returned (.tuple #[v1, v2]) ∧ w'.ownsRow 0 tK 1 v1 p X ∧ w'.ownsRow 0 tK 1 v2 q Y ∧ v1.ownBlock = v.ownBlock ∧ NewRow w.heap.size v2 ∧ w.grownBy w' v.ownBlock
set_option maxHeartbeats 2000000 in
theorem halves_k (n p q : Nat) (v : Value) (us : List Value) (w : World) (h : w.ownsRow 0 tK 1 v n us) (h1 : ∀ u ∈ us, u.oneCell' = true) (hn : n ≤ 1000) (hp : n / 2 = p) (hq : n - p = q) :
    Calls Try.prog 63 #[v] w (Halvk w v p q (us.take (p * 1)) (us.drop (p * 1))) := by
  have t2 : Int.tdiv (n : Int) 2 = (p : Int) := by rw [Int.tdiv_eq_ediv_of_nonneg (by omega)]; omega
  rcases h.2 with ⟨rfl, rfl⟩ | ⟨g, c, cur, rfl, _, hh, hnc, hcm, _⟩
  · obtain rfl : p = 0 := by omega
    obtain rfl : q = 0 := by omega
    have hu : us = [] := List.eq_nil_of_length_eq_zero (by have := h.1; omega)
    subst hu
    clear t2 h h1 hn hp hq
    go_enter Try.func63, Try.ntmps63
    go_wp2_with first | (go_at_call 68; (with_reducible refine (clone_nil_k _).mono ?_); rintro e w1 ⟨rfl, rfl⟩) | (go_at_call 69; refine (del_same_k none 0 0 0 _ (Nat.le_refl _) (by decide) (Nat.le_refl _)).mono ?_; rintro e w2 ⟨rfl, rfl⟩)
    go_ret2
    exact ⟨_, _, rfl, World.ownsRow_nil _ _ _ _, World.ownsRow_nil _ _ _ _, rfl, fun g hg => by simp [Value.ownBlock] at hg, grown_refl _ _⟩
  · obtain ⟨o1, ho1, hs1⟩ := slice_l elemK g n c p (by omega) hnc
    have hgl := blk_lt hh
    have HC := Lib.hid (clone_k ⟨g, o1, none⟩ q (c - p) (us.drop (p * 1)) w (by rw [List.length_drop, h.1, ← hq, Nat.sub_mul]) (drop_cells h (by omega) hnc ho1) (fun _ => hgl) (fun u hu => h1 u (List.mem_of_mem_drop hu)) (by omega))
    have H := Lib.hid h
    have H1 := Lib.hid h1
    have HL := Lib.hid h.1
    rw [hq] at hs1
    by_cases h0 : n = 0
    · have HD := Lib.hid (show ∀ w1 : World, Calls Try.prog 69 #[.slice (some ⟨g, 0, none⟩) n c, .int .i64 (p : Int), .int .i64 (n : Int)] w1 fun e w' => e = .returned (.slice (some ⟨g, 0, none⟩) n c) ∧ w' = w1 from fun w1 => by
        have e : n = p := by omega
        subst e
        exact del_same_k (some ⟨g, 0, none⟩) n c n w1 (Nat.le_refl _) (by omega) (by omega))
      have HT := Lib.hid (show us = us.take (p * 1) by
        have : us = [] := List.eq_nil_of_length_eq_zero (by have := h.1; omega)
        rw [this]; simp)
      have HNP := Lib.hid (show n = p by omega)
      have hpn : p ≤ n := by omega
      clear h0
      clear h h1 hh ho1
      go_enter Try.func63, Try.ntmps63
      go_wp2_with first | (go_at_call 68; (with_reducible refine HC.out.mono ?_); rintro e w1 ⟨v2, rfl, ho2, hb2⟩; have HO2 := Lib.hid ho2; have HB2 := Lib.hid hb2; have H2 := Lib.hid (own_below H.out hb2); clear ho2 hb2) | (go_at_call 69; (with_reducible refine (HD.out _).mono ?_); rintro e w2 ⟨rfl, rfl⟩)
      go_ret2
      exact ⟨_, _, rfl, by rw [← HT.out, ← HNP.out]; exact H2.out, own_base HO2.out (Nat.zero_le _), rfl, newRow_of HO2.out, grown_below HB2.out⟩
    · have hpn : p < n := by omega
      have HQ := Lib.hid (show us.drop (n * 1) = [] from List.drop_eq_nil_of_le (by rw [h.1]; exact Nat.le_refl _))
      have HD := Lib.hid (fun (w1 : World) (h2 : w1.ownsRow 0 tK 1 (.slice (some ⟨g, 0, none⟩) n c) n us) => del_k g n c p n p us w1 h2 h1 hpn (Nat.le_refl _) (by omega) (by omega))
      clear h h1 hh ho1
      go_enter Try.func63, Try.ntmps63
      go_wp2_with first | (go_at_call 68; (with_reducible refine HC.out.mono ?_); rintro e w1 ⟨v2, rfl, ho2, hb2⟩; have HO2 := Lib.hid ho2; have HB2 := Lib.hid hb2; have H2 := Lib.hid (own_below H.out hb2); clear ho2 hb2) | (go_at_call 69; (with_reducible refine (HD.out _ H2.out).mono ?_); rintro e w2 ⟨rfl, hd2, hg2⟩; have HD2 := Lib.hid hd2; have HG2 := Lib.hid hg2; clear hd2 hg2)
      go_ret2
      have hd := HD2.out
      rw [HQ.out, List.append_nil] at hd
      exact ⟨_, _, rfl, hd, own_other (own_base HO2.out (Nat.zero_le _)) HG2.out (fun g2 hg2 e => by injection e with e; have := newRow_of HO2.out g2 hg2; omega), rfl, newRow_of HO2.out, grown_on HB2.out HG2.out⟩
end Go.Proofs.Ytjlfacmmokfleaa.Bt
