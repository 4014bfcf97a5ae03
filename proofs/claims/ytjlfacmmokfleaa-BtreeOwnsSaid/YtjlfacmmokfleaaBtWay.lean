/- The child where a pair belongs. -/
import Derived.Test.YtjlfacmmokfleaaBtFind
namespace Go.Proofs.Ytjlfacmmokfleaa.Bt
open Go.RowKit Go.Proofs.Ytjlfacmmokfleaa.Mem Go.Proofs.Ytjlfacmmokfleaa.Right
set_option linter.unusedVariables false

/-- The question of way. -/
def qW {d : Nat} (ks : List (Mt d)) (p : Kn) (i : Nat) : Bool := match ks[i]? with
  | some m => match prs d m with
    | r :: _ => ltb p r.k
    | [] => true
  | none => true
/-- Children that have pairs. -/
def Full {d : Nat} (ks : List (Mt d)) : Prop := ∀ m ∈ ks, ∃ r t, prs d m = r :: t
theorem kids_across {d : Nat} {ks : List (Mt d)} (h : Sorted (ks.flatMap (prs d))) {i j : Nat} {a b : Mt d} (hij : i < j) (ha : ks[i]? = some a) (hb : ks[j]? = some b) : ∀ x ∈ prs d a, ∀ y ∈ prs d b, ltb x.k y.k = true := by
  intro x hx y hy
  have e : ks = ks.take (i + 1) ++ ks.drop (i + 1) := (List.take_append_drop _ _).symm
  rw [e, List.flatMap_append] at h
  refine h.across x (List.mem_flatMap.2 ⟨a, ?_, hx⟩) y (List.mem_flatMap.2 ⟨b, ?_, hy⟩)
  · exact List.mem_of_getElem? (i := i) (by rw [List.getElem?_take, if_pos (by omega)]; exact ha)
  · exact List.mem_of_getElem? (i := j - (i + 1)) (by rw [List.getElem?_drop, show i + 1 + (j - (i + 1)) = j by omega]; exact hb)
theorem qW_up {d : Nat} {ks : List (Mt d)} (h : Sorted (ks.flatMap (prs d))) (hf : Full ks) (p : Kn) (i j : Nat) (hij : i ≤ j) (hj : j < ks.length) (hi : qW ks p i = true) : qW ks p j = true := by
  by_cases e : i = j
  · subst e; exact hi
  obtain ⟨b, hb⟩ : ∃ b, ks[j]? = some b := ⟨_, List.getElem?_eq_getElem hj⟩
  obtain ⟨a, ha⟩ : ∃ a, ks[i]? = some a := ⟨_, List.getElem?_eq_getElem (by omega)⟩
  obtain ⟨r, t, hr⟩ := hf a (List.mem_of_getElem? ha)
  obtain ⟨s, u, hs⟩ := hf b (List.mem_of_getElem? hb)
  unfold qW at *
  rw [ha] at hi
  rw [hb]
  simp only [hr, hs] at hi ⊢
  exact ltb_trans hi (kids_across h (by omega : i < j) ha hb r (by rw [hr]; simp) s (by rw [hs]; simp))
/-- A way: the child number k is the one where a pair belongs. -/
def Way {d : Nat} (ks : List (Mt d)) (p : Kn) (k : Nat) : Prop :=
  ∃ K1 x K2, ks = K1 ++ x :: K2 ∧ K1.length = k ∧ (∀ a ∈ K1.flatMap (prs d), ltb a.k p = true) ∧ (∀ c ∈ K2.flatMap (prs d), ltb p c.k = true)
theorem way_is {d : Nat} {ks : List (Mt d)} {p : Kn} {j : Nat} (h : Sorted (ks.flatMap (prs d))) (hf : Full ks) (hn : 0 < ks.length) (hj : j ≤ ks.length) (h1 : ∀ i : Nat, i < j → qW ks p i = false) (h2 : ∀ i : Nat, j ≤ i → i < ks.length → qW ks p i = true) : Way ks p (j - 1) := by
  have hlt : j - 1 < ks.length := by omega
  refine ⟨ks.take (j - 1), ks[j - 1], ks.drop (j - 1 + 1), ?_, by rw [List.length_take]; omega, ?_⟩
  · rw [← List.drop_eq_getElem_cons hlt, List.take_append_drop]
  · refine way_parts (k := ks[j - 1]) ?_ ?_ ?_
    · rw [← List.drop_eq_getElem_cons hlt, List.take_append_drop]; exact h
    · by_cases e : j = 0
      · left; subst e; rfl
      · right
        obtain ⟨r, t, hr⟩ := hf ks[j - 1] (List.getElem_mem hlt)
        have := h1 (j - 1) (by omega)
        unfold qW at this
        rw [List.getElem?_eq_getElem hlt] at this
        simp only [hr] at this
        exact ⟨r, t, hr, this⟩
    · intro q hq
      obtain ⟨i, hi⟩ := List.mem_iff_getElem?.1 hq
      rw [List.getElem?_drop] at hi
      obtain ⟨r, t, hr⟩ := hf q (List.mem_of_getElem? hi)
      have := h2 (j - 1 + 1 + i) (by omega) (List.getElem?_eq_some_iff.1 hi).1
      unfold qW at this
      rw [hi] at this
      simp only [hr] at this
      exact ⟨r, t, hr, this⟩
theorem full_inn {d : Nat} {m : Mt (d + 2)} (h : Inn (d + 2) m) : Full (nks m) := fun k hk => by
  obtain ⟨h1, h2, _⟩ := h.2 k hk
  cases e : prs (d + 1) k with
  | nil => exact absurd e (prs_some h1 (by omega))
  | cons r t => exact ⟨r, t, rfl⟩
theorem sorted_kids {d : Nat} {m : Mt (d + 1)} (h : Sorted (prs (d + 1) m)) : Sorted ((nks m).flatMap (prs d)) := by
  rw [prs_eq] at h; exact h.right
/-- A leaf has no children: the way is 0. -/
theorem way_none (b : Nat) (vp vk : Value) (ps : List Pr) (p : Pr) (w : World) (h : Nod w b vp vk ps []) :
    Calls Try.prog 48 #[.pointer (some ⟨b, 0, none⟩), prv p] w fun e w' => e = .returned (.int .i64 0) ∧ Below w.heap.size w w' := by
  have hB0 : Below w.heap.size w ((w.alloc (.cells #[.pointer (some ⟨b, 0, none⟩)] tK)).alloc (.cells #[.slice p.a p.key.length p.c, .int .i64 p.num] tP)) := al (al (Below.refl _ _) _) _
  have HA := Lib.hid (show Asks ((w.alloc (.cells #[.pointer (some ⟨b, 0, none⟩)] tK)).alloc (.cells #[.slice p.a p.key.length p.c, .int .i64 p.num] tP)) w.heap.size (w.heap.size + 1) b p from
    ⟨(Cel.new w tK #[.pointer (some ⟨b, 0, none⟩)] rfl).alloc _, Cel.new _ tP #[.slice p.a p.key.length p.c, .int .i64 p.num] (by simp)⟩)
  have HB0 := Lib.hid hB0
  have H := Lib.hid (h.below hB0)
  clear h hB0
  go_enter Try.func48, Try.ntmps48
  go_upto_region 1 with (fail)
  generalize ((w.alloc (.cells #[.pointer (some ⟨b, 0, none⟩)] tK)).alloc (.cells #[.slice p.a p.key.length p.c, .int .i64 p.num] tP)) = W at HB0 HA H ⊢
  obtain ⟨A, c, A', c', _, ev, ⟨y0, y1⟩, _⟩ := H.out.open_
  have z0 := HA.out.1.at_ 0
  obtain ⟨n, hn⟩ : ∃ n, ([] : List Nat).length = n := ⟨_, rfl⟩
  rw [hn] at y1
  have HN := Lib.hid (show n = 0 from hn.symm)
  clear hn ev
  have HASK := Lib.hid (search_branch n (.pointer (some ⟨w.heap.size + 1, 0, none⟩)) (.pointer (some ⟨w.heap.size, 0, none⟩)) (fun _ => true) W (by have := HN.out; omega) (fun i j _ h => by have := HN.out; omega) (fun W2 i hW2 hi => by have := HN.out; omega))
  go_wp2_with first | (go_at_call 58; (with_reducible refine HASK.out.mono ?_); rintro e w2 ⟨j, rfl, hj, _, _, hb2⟩; have HB2 := Lib.hid hb2; have hj0 := Nat.le_zero.1 (Nat.le_trans hj (Nat.le_of_eq HN.out)); subst hj0; clear hb2)
  go_ret
  exact ⟨rfl, Mem.on HB0.out HB2.out⟩
/-- The first place from which on a question is answered by yes. -/
def FT (n : Nat) (q : Nat → Bool) (j : Nat) : Prop := j ≤ n ∧ (∀ i : Nat, i < j → q i = false) ∧ (∀ i : Nat, j ≤ i → i < n → q i = true)
theorem FT.unique {n : Nat} {q : Nat → Bool} {i j : Nat} (h : FT n q i) (k : FT n q j) : i = j := by
  rcases Nat.lt_trichotomy i j with e | e | e
  · have h1 := h.2.2 i (Nat.le_refl _) (Nat.lt_of_lt_of_le e k.1)
    rw [k.2.1 i e] at h1; cases h1
  · exact e
  · have h1 := k.2.2 j (Nat.le_refl _) (Nat.lt_of_lt_of_le e h.1)
    rw [h.2.1 j e] at h1; cases h1
open Classical in
noncomputable def firstT (n : Nat) (q : Nat → Bool) : Nat := if h : ∃ j, FT n q j then Classical.choose h else 0
theorem firstT_eq {n : Nat} {q : Nat → Bool} {j : Nat} (h : FT n q j) : firstT n q = j := by
  have hx : ∃ j, FT n q j := ⟨j, h⟩
  unfold firstT
  rw [dif_pos hx]
  exact (Classical.choose_spec hx).unique h
theorem ft_any : ∀ (n : Nat) (q : Nat → Bool), (∀ i j, i ≤ j → j < n → q i = true → q j = true) → ∃ j, FT n q j
  | 0, q, _ => ⟨0, Nat.le_refl _, fun i h => by omega, fun i h h2 => by omega⟩
  | n + 1, q, h => by
    obtain ⟨j, h1, h2, h3⟩ := ft_any n q (fun i j hi hj => h i j hi (by omega))
    by_cases e : j = n
    · subst e
      cases hq : q j with
      | true => exact ⟨j, by omega, h2, fun i h4 h5 => by obtain rfl : i = j := by omega
                                                          exact hq⟩
      | false => exact ⟨j + 1, by omega, fun i hi => by
          by_cases e : i = j
          · subst e; exact hq
          · exact h2 i (by omega), fun i h4 h5 => by omega⟩
    · exact ⟨j, by omega, h2, fun i h4 h5 => h j i h4 h5 (h3 j (Nat.le_refl _) (by omega))⟩
set_option maxHeartbeats 1000000 in
theorem way_det (d : Nat) (m : Mt (d + 2)) (p : Pr) (w : World) (h : Rep w (d + 2) m) (hi : Inn (d + 2) m) (hs : 1 ≤ sz (d + 2) m) (hs2 : sz (d + 2) m ≤ 1000) (hS : Sorted (prs (d + 2) m)) (hp : KeyA w p) :
    Calls Try.prog 48 #[.pointer (some ⟨nb m, 0, none⟩), prv p] w fun e w' => ∃ j : Nat, e = .returned (.int .i64 ((j - 1 : Nat) : Int)) ∧ FT (nks m).length (qW (nks m) p.k) j ∧ Below w.heap.size w w' := by
  have hB0 : Below w.heap.size w ((w.alloc (.cells #[.pointer (some ⟨nb m, 0, none⟩)] tK)).alloc (.cells #[.slice p.a p.key.length p.c, .int .i64 p.num] tP)) := al (al (Below.refl _ _) _) _
  have HA := Lib.hid (show Asks ((w.alloc (.cells #[.pointer (some ⟨nb m, 0, none⟩)] tK)).alloc (.cells #[.slice p.a p.key.length p.c, .int .i64 p.num] tP)) w.heap.size (w.heap.size + 1) (nb m) p from
    ⟨(Cel.new w tK #[.pointer (some ⟨nb m, 0, none⟩)] rfl).alloc _, Cel.new _ tP #[.slice p.a p.key.length p.c, .int .i64 p.num] (by simp)⟩)
  have HB0 := Lib.hid hB0
  have H := Lib.hid (Rep.below hB0 h)
  have HP := Lib.hid (hp.below hB0)
  have HS := Lib.hid (sorted_kids hS)
  have HF := Lib.hid (full_inn hi)
  have HI := Lib.hid hi
  obtain ⟨x, t, e, e2, _⟩ := first_kid hi hs
  obtain ⟨n, hn⟩ : ∃ n, (nks m).length = n := ⟨_, rfl⟩
  have hn0 : 0 < n := by rw [← hn, e]; simp
  have hn1 : n ≤ 1000 := by rw [sz_eq, e2, hn] at hs2; simpa using hs2
  have HN := Lib.hid hn
  clear h hp hB0 hS hi hs hs2 e e2 hn
  go_enter Try.func48, Try.ntmps48
  go_upto_region 1 with (fail)
  generalize ((w.alloc (.cells #[.pointer (some ⟨nb m, 0, none⟩)] tK)).alloc (.cells #[.slice p.a p.key.length p.c, .int .i64 p.num] tP)) = W at HB0 HA H HP ⊢
  obtain ⟨A, c, A', c', _, ev, ⟨y0, y1⟩, _⟩ := H.out.node.open_
  have z0 := HA.out.1.at_ 0
  rw [nbs_len, HN.out] at y1
  have HASK := Lib.hid (search_branch n (.pointer (some ⟨w.heap.size + 1, 0, none⟩)) (.pointer (some ⟨w.heap.size, 0, none⟩)) (qW (nks m) p.k) W (by omega) (fun i j h1 h2 => qW_up HS.out HF.out p.k i j h1 (by rw [HN.out]; exact h2)) (fun W2 i hW2 hi => by
    obtain ⟨x, hx⟩ : ∃ x, (nks m)[i]? = some x := ⟨_, List.getElem?_eq_getElem (by rw [HN.out]; exact hi)⟩
    obtain ⟨r, t, hr⟩ := HF.out x (List.mem_of_getElem? hx)
    obtain ⟨i1, i2, _⟩ := HI.out.2 x (List.mem_of_getElem? hx)
    exact way_ask d w.heap.size (w.heap.size + 1) m x p r t i _ W2 (Rep.below hW2 H.out) i1 (by omega) hx hr (HA.out.below hW2) (HP.out.below hW2) (by unfold qW; rw [hx]; simp only [hr])))
  clear ev
  go_upto_region 2 with (go_at_call 58; (with_reducible refine HASK.out.mono ?_); rintro e w2 ⟨j, rfl, hj, hj1, hj2, hb2⟩; have HJ1 := Lib.hid hj1; have HJ2 := Lib.hid hj2; have HB2 := Lib.hid hb2; clear hj1 hj2 hb2)
  have t1 : IntKind.i64.wrap ((j : Int) - 1) = (j : Int) - 1 := by rw [IntKind.wrap_i64]; omega
  go_wp2
  all_goals go_ret
  all_goals exact ⟨j, ri (by omega), ⟨by rw [HN.out]; exact hj, HJ1.out, fun i h1 h2 => HJ2.out i h1 (by rw [← HN.out]; exact h2)⟩, Mem.on HB0.out HB2.out⟩
/-- The number of the child on the way. -/
noncomputable def wayN {d : Nat} (m : Mt (d + 1)) (p : Kn) : Nat := firstT (nks m).length (qW (nks m) p) - 1
theorem wayN_spec {d : Nat} {m : Mt (d + 2)} {p : Kn} (hi : Inn (d + 2) m) (hs : 1 ≤ sz (d + 2) m) (hS : Sorted (prs (d + 2) m)) : Way (nks m) p (wayN m p) ∧ wayN m p < (nks m).length := by
  obtain ⟨x, t, e, e2, _⟩ := first_kid hi hs
  have hn0 : 0 < (nks m).length := by rw [e]; simp
  obtain ⟨j, hj⟩ := ft_any (nks m).length (qW (nks m) p) (fun i j h1 h2 => qW_up (sorted_kids hS) (full_inn hi) p i j h1 h2)
  unfold wayN
  rw [firstT_eq hj]
  exact ⟨way_is (sorted_kids hS) (full_inn hi) hn0 hj.1 hj.2.1 hj.2.2, by have := hj.1; omega⟩
theorem way_fix (d : Nat) (m : Mt (d + 2)) (p : Pr) (w W : World) (h : Rep w (d + 2) m) (hi : Inn (d + 2) m) (hs : 1 ≤ sz (d + 2) m) (hs2 : sz (d + 2) m ≤ 1000) (hS : Sorted (prs (d + 2) m)) (hp : KeyA w p) (hW : Below w.heap.size w W) :
    Calls Try.prog 48 #[.pointer (some ⟨nb m, 0, none⟩), prv p] W fun e w' => e = .returned (.int .i64 (wayN m p.k : Int)) ∧ Below w.heap.size w w' :=
  (way_det d m p W (Rep.below hW h) hi hs hs2 hS (hp.below hW)).mono fun _ _ ⟨j, e, hj, hb⟩ => ⟨by rw [e]; unfold wayN; rw [firstT_eq hj], Mem.on hW hb⟩
theorem way_any (d : Nat) (m : Mt (d + 2)) (p : Pr) (w : World) (h : Rep w (d + 2) m) (hi : Inn (d + 2) m) (hs : 1 ≤ sz (d + 2) m) (hs2 : sz (d + 2) m ≤ 1000) (hS : Sorted (prs (d + 2) m)) (hp : KeyA w p) :
    Calls Try.prog 48 #[.pointer (some ⟨nb m, 0, none⟩), prv p] w fun e w' => ∃ k : Nat, e = .returned (.int .i64 (k : Int)) ∧ Way (nks m) p.k k ∧ k < (nks m).length ∧ Below w.heap.size w w' :=
  (way_fix d m p w w h hi hs hs2 hS hp (Below.refl _ _)).mono fun _ _ ⟨e, hb⟩ => ⟨_, e, (wayN_spec hi hs hS).1, (wayN_spec hi hs hS).2, hb⟩
end Go.Proofs.Ytjlfacmmokfleaa.Bt
