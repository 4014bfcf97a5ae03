/- A tree as its user has it: New, Len, Has, Put, Drop, Depth. -/
import Derived.Test.YtjlfacmmokfleaaBtTop
import Derived.Test.YtjlfacmmokfleaaBtDo2
import Derived.Test.YtjlfacmmokfleaaBtHas
namespace Go.Proofs.Ytjlfacmmokfleaa.Bt
open Go.RowKit Go.Proofs.Ytjlfacmmokfleaa.Mem Go.Proofs.Ytjlfacmmokfleaa.Right
set_option linter.unusedVariables false

/-- At block tb a tree of these pairs; its blocks are none below n₀, and none of X. -/
def BT (w : World) (n₀ tb : Nat) (X : List Nat) (L : List Pr) : Prop :=
  ∃ d, ∃ m : Mt (d + 1), TR w tb d m ∧ prs (d + 1) m = L ∧ n₀ ≤ tb ∧ (∀ y ∈ foot (d + 1) m, n₀ ≤ y) ∧ tb ∉ X ∧ ∀ y ∈ X, y ∉ foot (d + 1) m ∧ y < w.heap.size
theorem BT.below {w w' : World} {n₀ tb : Nat} {X : List Nat} {L : List Pr} (h : BT w n₀ tb X L) (hb : Below w.heap.size w w') : BT w' n₀ tb X L := by
  obtain ⟨d, m, h1, h2, h3, h4, h5, h6⟩ := h
  exact ⟨d, m, h1.below hb, h2, h3, h4, h5, fun y hy => ⟨(h6 y hy).1, Nat.lt_of_lt_of_le (h6 y hy).2 hb.size⟩⟩
theorem BT.sorted {w : World} {n₀ tb : Nat} {X : List Nat} {L : List Pr} (h : BT w n₀ tb X L) : Sorted L := by
  obtain ⟨d, m, h1, h2, _⟩ := h
  rw [← h2]; exact h1.sorted
theorem BT.lt {w : World} {n₀ tb : Nat} {X : List Nat} {L : List Pr} (h : BT w n₀ tb X L) : n₀ ≤ w.heap.size := by
  obtain ⟨d, m, h1, _, h3, _⟩ := h
  have := h1.cel.lt; omega
/-- What a call of a tree leaves: all below n₀, all of other types, all of X. -/
structure Kp (n₀ : Nat) (X : List Nat) (w w' : World) : Prop where
  below : Below n₀ w w'
  ty : ∀ (b : Nat) (cs : Array Value) (t : TypeId) (fr : Nat × Nat), w.heap[b]? = some (.cells cs t fr) → t ∉ [tN, tP, tK, tT] → w'.heap[b]? = some (.cells cs t fr)
  x : ∀ y ∈ X, y < w.heap.size → w'.heap[y]? = w.heap[y]?
theorem Kp.of {n₀ : Nat} {X : List Nat} {w w' : World} (h : Below w.heap.size w w') (hn : n₀ ≤ w.heap.size) : Kp n₀ X w w' :=
  ⟨h.mono hn, fun b cs t fr hb _ => (h.block b (blk_lt hb)).trans hb, fun y _ hy => h.block y hy⟩
theorem Kp.trans {n₀ : Nat} {X : List Nat} {a b c : World} (h : Kp n₀ X a b) (k : Kp n₀ X b c) : Kp n₀ X a c :=
  ⟨h.below.trans k.below, fun j cs t fr hj ht => k.ty j cs t fr (h.ty j cs t fr hj ht) ht, fun y hy hl => (k.x y hy (Nat.lt_of_lt_of_le hl h.below.size)).trans (h.x y hy hl)⟩
theorem Kp.cel {n₀ : Nat} {X : List Nat} {w w' : World} (h : Kp n₀ X w w') {b : Nat} {t : TypeId} {cs : Array Value} (hc : Cel w b t cs) (ht : t ∉ [tN, tP, tK, tT]) : Cel w' b t cs := h.ty b cs t _ hc ht
theorem Rep.ty {w : World} : ∀ (d : Nat) (m : Mt d), Rep w d m → ∀ y ∈ foot d m, ∃ cs t fr, w.heap[y]? = some (.cells cs t fr) ∧ t ∈ [tN, tP, tK, tT]
  | 0, e, _ => nomatch e
  | d + 1, m, h => by
    intro y hy
    have hrow : ∀ {e : TypeId} {k n : Nat} {v : Value} {us : List Value}, w.ownsRow 0 e k v n us → e ∈ [tN, tP, tK, tT] → y ∈ blk v → ∃ cs t fr, w.heap[y]? = some (.cells cs t fr) ∧ t ∈ [tN, tP, tK, tT] := fun {e k n v us} ho he hb => by
      rcases ho.2 with ⟨rfl, _⟩ | ⟨g, cap, cur, rfl, _, hh, _⟩
      · simp [blk, Value.ownBlock] at hb
      · simp [blk, Value.ownBlock] at hb
        subst hb
        exact ⟨_, _, _, hh, he⟩
    rcases (in_foot m y).1 hy with rfl | hy | hy | ⟨k, hk, hy⟩
    · exact ⟨_, _, _, h.node.1, by simp⟩
    · exact hrow h.node.2.1 (by simp) hy
    · exact hrow h.node.2.2.1 (by simp) hy
    · exact Rep.ty d k (h.kids k hk) y hy
theorem TDone.bt {w w' : World} {n₀ tb d : Nat} {X : List Nat} {m : Mt (d + 1)} {ps : List Pr} (h : TR w tb d m) (hd : TDone w w' tb d m ps) (h3 : n₀ ≤ tb) (h4 : ∀ y ∈ foot (d + 1) m, n₀ ≤ y) (h5 : tb ∉ X) (h6 : ∀ y ∈ X, y ∉ foot (d + 1) m ∧ y < w.heap.size) : BT w' n₀ tb X ps ∧ Kp n₀ X w w' := by
  obtain ⟨d', m', k1, k2, k3, k4⟩ := hd
  have htl := h.cel.lt
  refine ⟨⟨d', m', k1, k2, h3, fun y hy => ?_, h5, fun y hy => ⟨fun e => ?_, Nat.lt_of_lt_of_le (h6 y hy).2 k4.size⟩⟩, ⟨k4.below (fun y hy => ?_) (by omega), fun b cs t fr hb ht => ?_, fun y hy hl => ?_⟩⟩
  · rcases k3 y hy with e | e
    · exact h4 y e
    · omega
  · rcases k3 y e with e | e
    · exact (h6 y hy).1 e
    · have := (h6 y hy).2; omega
  · rcases List.mem_cons.1 hy with rfl | hy
    · exact h3
    · exact h4 y hy
  · refine (k4.block b (blk_lt hb) (fun e => ?_)).trans hb
    rcases List.mem_cons.1 e with rfl | e
    · have := hb.symm.trans h.cel
      injection this with this
      injection this with _ e2 _
      exact ht (by rw [e2]; simp)
    · obtain ⟨cs2, t2, fr2, k5, k6⟩ := Rep.ty _ _ h.rep b e
      have := hb.symm.trans k5
      injection this with this
      injection this with _ e2 _
      exact ht (by rw [e2]; exact k6)
  · refine k4.block y hl (fun e => ?_)
    rcases List.mem_cons.1 e with rfl | e
    · exact h5 hy
    · exact (h6 y hy).1 e
theorem new_t (w : World) : Calls Try.prog 7 #[] w fun e w' => ∃ tb, e = .returned (.pointer (some ⟨tb, 0, none⟩)) ∧ BT w' w.heap.size tb [] [] ∧ Below w.heap.size w w' := by
  go_enter Try.func7, Try.ntmps7
  go_wp2
  go_ret
  have hb := al (Below.refl w.heap.size w) (.cells #[.slice none 0 0, .slice none 0 0] tN)
  have hN : Cel (w.alloc (.cells #[.slice none 0 0, .slice none 0 0] tN)) w.heap.size tN #[.slice none 0 0, .slice none 0 0] := Cel.new w _ _ rfl
  refine ⟨_, rfl, ⟨0, mkN w.heap.size (.slice none 0 0) (.slice none 0 0) [] [], ⟨Cel.new _ tT _ (by simp), Rep.mk ⟨hN.alloc _, World.ownsRow_nil _ _ _ _, World.ownsRow_nil _ _ _ _, fun r hr => absurd (show r ∈ ([] : List Pr) from hr) (by simp)⟩ (fun k hk => absurd (show k ∈ ([] : List (Mt 0)) from hk) (by simp)), fun y => ?_, fun e => ?_, ?_, fun e => absurd rfl e, by rw [sz_eq]; simp [nps_mk, nks_mk], by rw [prs_zero, nps_mk]; exact List.Pairwise.nil⟩, by rw [prs_zero]; rfl, by simp, fun y hy => ?_, by simp, by simp⟩, al hb _⟩
  · rw [ct_eq, nb_mk, nvp_mk, nvk_mk, nks_mk, cts_nil, bc_no (v := .slice none 0 0) (by simp [Value.ownBlock])]
    have := one_le w.heap.size y; omega
  · rcases (in_foot _ _).1 e with e | e | e | ⟨k, hk, _⟩
    · rw [nb_mk] at e; simp at e
    · rw [nvp_mk] at e; simp [blk, Value.ownBlock] at e
    · rw [nvk_mk] at e; simp [blk, Value.ownBlock] at e
    · rw [nks_mk] at hk; simp at hk
  · rw [inn_eq]
    exact ⟨fun e => absurd rfl e, fun k hk => absurd (show k ∈ ([] : List (Mt 0)) from hk) (by simp)⟩
  · rcases (in_foot _ _).1 hy with e | e | e | ⟨k, hk, _⟩
    · rw [nb_mk] at e; omega
    · rw [nvp_mk] at e; simp [blk, Value.ownBlock] at e
    · rw [nvk_mk] at e; simp [blk, Value.ownBlock] at e
    · rw [nks_mk] at hk; simp at hk
theorem len_t (w : World) (n₀ tb n : Nat) (X : List Nat) (L : List Pr) (h : BT w n₀ tb X L) (hn : L.length = n) : Calls Try.prog 11 #[.pointer (some ⟨tb, 0, none⟩)] w fun e w' => e = .returned (.int .i64 (n : Int)) ∧ w' = w := by
  obtain ⟨d, m, h1, h2, _⟩ := h
  rw [← h2] at hn
  have y0 : w.cell? ⟨tb, 0, none⟩ = some (.pointer (some ⟨nb m, 0, none⟩)) := h1.cel.at_ 0
  have y1 : w.cell? ⟨tb, 1, none⟩ = some (.int .i64 (n : Int)) := by rw [← hn]; exact h1.cel.at_ 1
  have HM := Lib.hid (made_any tb (nb m) w y0)
  clear h1 h2 hn
  go_enter Try.func11, Try.ntmps11
  go_wp2_with (go_at_call 24; (with_reducible refine HM.out.mono ?_); rintro e w1 ⟨rfl, rfl⟩)
  go_ret
  exact ⟨rfl, rfl⟩
theorem hasT_t (w : World) (n₀ tb : Nat) (X : List Nat) (L : List Pr) (A : Option Addr) (n c : Nat) (l : List UInt8) (x : Int) (q : Bool) (h : BT w n₀ tb X L) (hk : Bs w A n c l) (hq : has (l, x) L = q) :
    Calls Try.prog 19 #[.pointer (some ⟨tb, 0, none⟩), .slice A n c, .int .i64 x] w fun e w' => e = .returned (.bool q) ∧ Below w.heap.size w w' := by
  obtain ⟨d, m, h1, h2, _⟩ := h
  obtain rfl := hk.2.1
  have y0 : w.cell? ⟨tb, 0, none⟩ = some (.pointer (some ⟨nb m, 0, none⟩)) := h1.cel.at_ 0
  have HM := Lib.hid (made_any tb (nb m) w y0)
  have HH := Lib.hid (has_any d m ⟨A, c, l, x⟩ q w h1.rep h1.inn (fun e => by have := h1.two e; omega) h1.le h1.sorted hk (by rw [h2]; exact hq))
  clear h1 h2 hk hq
  go_enter Try.func19, Try.ntmps19
  go_wp2_with first | (go_at_call 24; (with_reducible refine HM.out.mono ?_); rintro e w1 ⟨rfl, rfl⟩) | (go_at_call 40; (refine HH.out.mono ?_); rintro e w2 ⟨rfl, hb2⟩; have HB2 := Lib.hid hb2; clear hb2)
  go_ret
  exact ⟨rfl, HB2.out⟩
/-- How deep a tree of these pairs may be. -/
def Deep (L : List Pr) (n : Nat) : Prop := (L = [] ∧ n = 0) ∨ (L ≠ [] ∧ ∃ d, n = d + 1 ∧ (d ≠ 0 → 2 * 4 ^ d ≤ L.length) ∧ L.length ≤ 8 ^ (d + 1))
theorem tr_deep {w : World} {tb d : Nat} {m : Mt (d + 1)} (h : TR w tb d m) : (d ≠ 0 → 2 * 4 ^ d ≤ (prs (d + 1) m).length) ∧ (prs (d + 1) m).length ≤ 8 ^ (d + 1) := by
  refine ⟨fun hd => ?_, ?_⟩
  · have h1 := prs_ge d m h.inn
    have h2 := Nat.mul_le_mul_left (4 ^ d) (h.two hd)
    omega
  · have h1 := prs_le d m h.inn
    have h2 := Nat.mul_le_mul_left (8 ^ d) h.le
    rw [Nat.pow_succ]
    omega
theorem depth_t (w : World) (n₀ tb : Nat) (X : List Nat) (L : List Pr) (h : BT w n₀ tb X L) (hl : L.length ≤ 1000) :
    Calls Try.prog 16 #[.pointer (some ⟨tb, 0, none⟩)] w fun e w' => ∃ n : Nat, e = .returned (.int .i64 (n : Int)) ∧ Deep L n ∧ w' = w := by
  obtain ⟨nL, hnL⟩ : ∃ n, L.length = n := ⟨_, rfl⟩
  have HLN := Lib.hid (len_t w n₀ tb nL X L h hnL)
  obtain ⟨d, m, h1, h2, _⟩ := h
  have y0 : w.cell? ⟨tb, 0, none⟩ = some (.pointer (some ⟨nb m, 0, none⟩)) := h1.cel.at_ 0
  have hdp := tr_deep h1
  have hd : d ≤ 1000 := by
    by_cases e : d = 0
    · omega
    · have h3 := hdp.1 e
      have h4 : d < 4 ^ d := Nat.lt_pow_self (by decide)
      rw [h2, hnL] at h3
      omega
  have HD := Lib.hid (depth_any d m w h1.rep h1.inn (fun e => by have := h1.two e; omega) hd)
  rw [h2] at hdp
  have HDP := Lib.hid hdp
  have HNL := Lib.hid hnL
  clear h1 h2 hdp hnL
  by_cases e0 : nL = 0
  · have t0 : ((nL : Int) == 0) = true := by simp [e0]
    have HE := Lib.hid e0
    clear e0
    go_enter Try.func16, Try.ntmps16
    go_wp2_with (go_at_call 11; (with_reducible refine HLN.out.mono ?_); rintro e w1 ⟨rfl, rfl⟩)
    go_ret
    exact ⟨0, rfl, .inl ⟨List.eq_nil_of_length_eq_zero (by rw [HNL.out, HE.out]), rfl⟩, rfl⟩
  · have t0 : ((nL : Int) == 0) = false := beq_no (by omega)
    have HE := Lib.hid e0
    clear e0
    go_enter Try.func16, Try.ntmps16
    go_wp2_with first | (go_at_call 11; (with_reducible refine HLN.out.mono ?_); rintro e w1 ⟨rfl, rfl⟩) | (go_at_call 29; (with_reducible refine HD.out.mono ?_); rintro e w2 ⟨rfl, rfl⟩)
    go_ret
    exact ⟨d + 1, rfl, .inr ⟨fun e => by rw [e] at HNL; exact HE.out HNL.out.symm, d, rfl, HDP.out⟩, rfl⟩
end Go.Proofs.Ytjlfacmmokfleaa.Bt
