import Derived.Test.YthcilmlaoddckaaHeapAlls
/- The document's heap in memory: a struct with a list of lists of slots; an element of it written, one more behind it, fewer. -/
namespace Go.Proofs.Ythcilmlaoddckaa.Pg
open Go.RowKit Go.Proofs.Ythcilmlaoddckaa.Mem Go.Proofs.Ythcilmlaoddckaa.Right
set_option linter.unusedVariables false

/-- Where a list of slots lies. -/
structure Sr where
  A : Option Addr
  n : Nat
  c : Nat
def slv (r : Sr) : Value := .slice r.A r.n r.c
def Slc (u : Value) : Prop := ∃ A n c, u = .slice A n c
/-- A value that is the list of these pages' slots, in a block of its own that holds lists of slots alone. -/
def Arr (w : World) (n₀ : Nat) (v : Value) (L : List (List Sl)) : Prop :=
  ∃ rs : List Sr, rs.length = L.length ∧ (∀ (k : Nat) (r : Sr) (S : List Sl), rs[k]? = some r → L[k]? = some S → RL w r.A r.n r.c S) ∧
    ((v = .slice none 0 0 ∧ L = []) ∨ ∃ g cap cur, v = .slice (some ⟨g, 0, none⟩) L.length cap ∧ n₀ ≤ g ∧ w.heap[g]? = some (.cells cur 72 (0, 0)) ∧ L.length ≤ cap ∧ cap ≤ maxLen ∧ cur.size = cap ∧ cur.toList.take L.length = rs.map slv ∧ ∀ u ∈ cur.toList, Slc u)
theorem Arr.below {w w' : World} {n₀ : Nat} {v : Value} {L : List (List Sl)} (h : Arr w n₀ v L) (hb : Below w.heap.size w w') : Arr w' n₀ v L := by
  obtain ⟨rs, h1, h2, h3⟩ := h
  refine ⟨rs, h1, fun k r S e1 e2 => (h2 k r S e1 e2).below hb, ?_⟩
  rcases h3 with h3 | ⟨g, cap, cur, e, hg, hh, rest⟩
  · exact .inl h3
  · exact .inr ⟨g, cap, cur, e, hg, (hb.block g (blk_lt hh)).trans hh, rest⟩
theorem Arr.frm {T : List TypeId} {n₁ : Nat} {w w' : World} {n₀ : Nat} {v : Value} {L : List (List Sl)} (h : Arr w n₀ v L) (hf : Frm T n₁ w w') (t1 : 72 ∉ T) (t2 : 74 ∉ T) : Arr w' n₀ v L := by
  obtain ⟨rs, h1, h2, h3⟩ := h
  refine ⟨rs, h1, fun k r S e1 e2 => hf.rl t2 (h2 k r S e1 e2), ?_⟩
  rcases h3 with h3 | ⟨g, cap, cur, e, hg, hh, rest⟩
  · exact .inl h3
  · exact .inr ⟨g, cap, cur, e, hg, hf.2.1 g cur _ _ hh t1, rest⟩
theorem Arr.nil (w : World) (n₀ : Nat) : Arr w n₀ (.slice none 0 0) [] := ⟨[], rfl, fun k r S h => by simp at h, .inl ⟨rfl, rfl⟩⟩
theorem Arr.form {w : World} {n₀ : Nat} {v : Value} {L : List (List Sl)} (h : Arr w n₀ v L) : ∃ A c, v = .slice A L.length c ∧ L.length ≤ c ∧ c ≤ 9223372036854775807 := by
  obtain ⟨rs, h1, h2, h3⟩ := h
  rcases h3 with ⟨rfl, rfl⟩ | ⟨g, cap, cur, rfl, hg, hh, hc, hm, _⟩
  · exact ⟨none, 0, rfl, by simp, by decide⟩
  · exact ⟨_, cap, rfl, hc, by unfold maxLen at hm; omega⟩
/-- The list of slots at a place. -/
theorem Arr.get {w : World} {n₀ k : Nat} {v : Value} {L : List (List Sl)} (h : Arr w n₀ v L) (hk : k < L.length) :
    ∃ g cap r, v = .slice (some ⟨g, 0, none⟩) L.length cap ∧ n₀ ≤ g ∧ L.length ≤ cap ∧ w.cell? ⟨g, k, none⟩ = some (slv r) ∧ w.frozen? ⟨g, k, none⟩ = false ∧ RL w r.A r.n r.c (pageOf L k) := by
  obtain ⟨rs, h1, h2, h3⟩ := h
  rcases h3 with ⟨_, rfl⟩ | ⟨g, cap, cur, e, hg, hh, hc, hm, hs, ht, _⟩
  · simp at hk
  · obtain ⟨r, hr⟩ : ∃ r, rs[k]? = some r := ⟨_, List.getElem?_eq_getElem (by omega)⟩
    refine ⟨g, cap, r, e, hg, hc, ?_, by simp [World.frozen?, hh], h2 k r _ hr (pageOf_lt hk)⟩
    have h4 : (cur.toList.take L.length)[k]? = some (slv r) := by rw [ht, List.getElem?_map, hr]; rfl
    rw [List.getElem?_take, if_pos hk] at h4
    rw [cell_of_row _ _ _ _ _ _ hh, ← Array.getElem?_toList]
    exact h4
theorem slc_slv (r : Sr) : Slc (slv r) := ⟨r.A, r.n, r.c, rfl⟩
theorem take_set' {us : List Value} {k n : Nat} {x : Value} (hk : k < n) : (us.set k x).take n = (us.take n).set k x := by
  rw [List.take_set]
theorem cells_no_byte {cur : Array Value} (h : ∀ u ∈ cur.toList, Slc u) (j : Nat) (z : Int) : cur[j]? ≠ some (.int .u8 z) := fun e => by
  have hm : (Value.int .u8 z) ∈ cur.toList := by
    rw [← Array.getElem?_toList] at e
    exact List.mem_of_getElem? e
  obtain ⟨A, n, c, h2⟩ := h _ hm
  cases h2
/-- An element written. -/
theorem Arr.set {w : World} {n₀ k g cap n : Nat} {L : List (List Sl)} {S : List Sl} {r : Sr} (h : Arr w n₀ (.slice (some ⟨g, 0, none⟩) n cap) L) (hk : k < L.length) (hr : RL w r.A r.n r.c S) :
    Arr (w.setCell ⟨g, k, none⟩ (slv r)) n₀ (.slice (some ⟨g, 0, none⟩) n cap) (L.set k S) ∧ Frm [72] n₀ w (w.setCell ⟨g, k, none⟩ (slv r)) := by
  obtain ⟨rs, h1, h2, h3⟩ := h
  rcases h3 with ⟨e, _⟩ | ⟨g', cap', cur, e, hg, hh, hc, hm, hs, ht, ha⟩
  · cases e
  · injection e with e1 e2 e3
    injection e1 with e1
    injection e1 with e1
    subst e1 e2 e3
    have hf : Frm [72] n₀ w (w.setCell ⟨g, k, none⟩ (slv r)) := Frm.set (t := 72) (cs := cur) hh (by decide) hg (cells_no_byte ha) _
    refine ⟨⟨rs.set k r, by rw [List.length_set, List.length_set]; exact h1, fun j r' S' e1 e2 => ?_, .inr ⟨g, cap, cur.setIfInBounds k (slv r), by rw [List.length_set], hg, Cel.set (t := 72) (cs := cur) hh k _, by rw [List.length_set]; exact hc, hm, by simp; exact hs, ?_, ?_⟩⟩, hf⟩
    · rw [List.getElem?_set] at e1 e2
      by_cases ej : k = j
      · rw [if_pos ej] at e1 e2
        split at e1
        · split at e2
          · injection e1 with e1
            injection e2 with e2
            subst e1 e2
            exact hf.rl (by decide) hr
          · omega
        · cases e1
      · rw [if_neg ej] at e1 e2
        exact hf.rl (by decide) (h2 j r' S' e1 e2)
    · rw [Array.toList_setIfInBounds, List.length_set, List.take_set, ht, List.map_set]
    · intro u hu
      rw [Array.toList_setIfInBounds] at hu
      rcases List.mem_or_eq_of_mem_set hu with hu | rfl
      · exact ha u hu
      · exact slc_slv r
/-- Fewer of them. -/
theorem Arr.take {w : World} {n₀ g cap n : Nat} {L : List (List Sl)} (h : Arr w n₀ (.slice (some ⟨g, 0, none⟩) n cap) L) (k : Nat) (hk : k ≤ L.length) : Arr w n₀ (.slice (some ⟨g, 0, none⟩) k cap) (L.take k) := by
  obtain ⟨rs, h1, h2, h3⟩ := h
  rcases h3 with ⟨e, _⟩ | ⟨g', cap', cur, e, hg, hh, hc, hm, hs, ht, ha⟩
  · cases e
  · injection e with e1 e2 e3
    injection e1 with e1
    injection e1 with e1
    subst e1 e2 e3
    have hl : (L.take k).length = k := by rw [List.length_take]; omega
    refine ⟨rs.take k, by rw [List.length_take, List.length_take, h1], fun j r S e1 e2 => ?_, .inr ⟨g, cap, cur, by rw [hl], hg, hh, by omega, hm, hs, ?_, ha⟩⟩
    · rw [List.getElem?_take] at e1 e2
      split at e1
      · rename_i hj
        rw [if_pos hj] at e2
        exact h2 j r S e1 e2
      · cases e1
    · rw [hl, List.map_take, ← ht, List.take_take, Nat.min_eq_left hk]
theorem infoSlots : (Try.prog.info? 72).map (fun i => (i.zero, i.size, i.bytes)) = some (some (.slice none 0 0), 1, 24) := by kernel_rfl
theorem zero_slc (n : Nat) : ∀ u ∈ (Builtin.zeroCells (Value.slice none 0 0).cells n).toList, Slc u := by
  intro u hu
  unfold Builtin.zeroCells at hu
  rw [Array.toList_map] at hu
  obtain ⟨i, _, rfl⟩ := List.mem_map.1 hu
  have e : (Value.slice none 0 0).cells = #[.slice none 0 0] := rfl
  rw [e]
  have : i % (#[Value.slice none 0 0] : Array Value).size = 0 := by
    have : (#[Value.slice none 0 0] : Array Value).size = 1 := rfl
    rw [this]; omega
  rw [this]
  exact ⟨none, 0, 0, rfl⟩
theorem frm_alloc {T : List TypeId} {n₀ : Nat} {w : World} (hn : n₀ ≤ w.heap.size) (o o' : Obj) : Frm T n₀ w ((w.alloc o).drew.alloc o') :=
  Frm.of (al (al (Below.refl w.heap.size w) o).drew o') hn
/-- One list of slots behind the others. -/
theorem wp_arr {n₀ : Nat} {w : World} {ops : Array Oper} {rest : List Oper} {o : Oper} {a : Act} {Q : Exit → Act → World → Prop} (s y : Operand)
    (hgd : o.guard = none) (ho : o.op = .call { callee := .builtin .append, args := #[s, y], argTypes := #[26, 26] })
    {v : Value} {L : List (List Sl)} {S : List Sl} {r : Sr} (hs : a.eval s = v) (h : Arr w n₀ v L) (hy : a.eval y = .slice (some ⟨w.heap.size, 0, none⟩) 1 1) (hr : RL w r.A r.n r.c S) (hl : L.length ≤ 1000) (hn₀ : n₀ ≤ w.heap.size)
    (k : ∀ v' w', Arr w' n₀ v' (L ++ [S]) → Frm [72] n₀ w w' → wpList Try.prog ops Q rest (a.put o.dst v') w') :
    wpList Try.prog ops Q (o :: rest) a (w.alloc (.cells #[slv r] 72)) := by
  obtain ⟨i, hi, hz, hz1, hz2⟩ := info_parts infoSlots
  have ht := Try.underlying26
  obtain ⟨w1, hw1⟩ : ∃ w1, w.alloc (.cells #[slv r] 72) = w1 := ⟨_, rfl⟩
  have hnew : ∀ j u, ([slv r] : List Value)[j]? = some u → w1.cell? ((⟨w.heap.size, 0, none⟩ : Addr).add j) = some u := by rw [← hw1]; exact cell_one_new w _ _
  obtain ⟨rs, h1, h2, h3⟩ := h
  -- what the growing arm leaves
  have hgo : ∀ cap, L.length + 1 ≤ cap → cap ≤ maxLen → ∀ zs : Array Value, zs.size = cap - (L.length + 1) → (∀ u ∈ zs.toList, Slc u) →
      Arr (w1.drew.alloc (.cells ((rs.map slv).toArray ++ [slv r].toArray ++ zs) 72)) n₀ (.slice (some ⟨w1.heap.size, 0, none⟩) (L.length + 1) cap) (L ++ [S]) ∧ Frm [72] n₀ w (w1.drew.alloc (.cells ((rs.map slv).toArray ++ [slv r].toArray ++ zs) 72)) := by
    intro cap hc hm zs hzs hza
    have hf : Frm [72] n₀ w (w1.drew.alloc (.cells ((rs.map slv).toArray ++ [slv r].toArray ++ zs) 72)) := by rw [← hw1]; exact frm_alloc hn₀ _ _
    have hBl : Below w.heap.size w (w1.drew.alloc (.cells ((rs.map slv).toArray ++ [slv r].toArray ++ zs) 72)) := by rw [← hw1]; exact al (al (Below.refl w.heap.size w) _).drew _
    have hw1s : w1.heap.size = w.heap.size + 1 := by rw [← hw1]; simp
    refine ⟨⟨rs ++ [r], by simp; exact h1, fun j r' S' e1 e2 => ?_, .inr ⟨w1.heap.size, cap, _, by simp, by omega, heap_alloc_new w1.drew _, by simp; exact hc, hm, ?_, ?_, ?_⟩⟩, hf⟩
    · rcases Nat.lt_or_ge j rs.length with hj | hj
      · rw [List.getElem?_append_left hj] at e1
        rw [List.getElem?_append_left (by omega)] at e2
        exact (h2 j r' S' e1 e2).below hBl
      · rw [List.getElem?_append_right hj] at e1
        rw [List.getElem?_append_right (by omega)] at e2
        cases hjj : j - rs.length with
        | zero =>
          rw [hjj] at e1
          rw [show j - L.length = 0 by omega] at e2
          simp at e1 e2
          subst e1 e2
          exact hr.below hBl
        | succ q => rw [hjj] at e1; simp at e1
    · simp; omega
    · simp only [Array.toList_append, List.append_assoc]
      rw [← List.append_assoc, List.take_left' (by simp; exact h1)]
      simp
    · intro u hu
      simp only [Array.toList_append, List.append_assoc] at hu
      rcases List.mem_append.1 hu with hu | hu
      · obtain ⟨r', _, rfl⟩ := List.mem_map.1 hu
        exact slc_slv r'
      · rcases List.mem_append.1 hu with hu | hu
        · simp at hu; subst hu; exact slc_slv r
        · exact hza u hu
  have hml : L.length + 1 ≤ maxLen := by unfold maxLen; omega
  have hzz : ∀ m, (Builtin.zeroCells (Value.slice none 0 0).cells m).size = m := fun m => by rw [size_zeroCells]; exact Nat.mul_one m
  rw [hw1]
  refine wpList_plain hgd fun K hK => ?_
  unfold Oper.wp execOp
  rcases h3 with ⟨rfl, rfl⟩ | ⟨g, cap, cur, rfl, hg, hh, hc, hm, hsz, htk, ha⟩
  · have hrs : rs = [] := List.eq_nil_of_length_eq_zero h1
    subst hrs
    have hrun := run_append_nil (P := Try.prog) w1 26 o.type 72 i _ ht hi hz ⟨w.heap.size, 0, none⟩ 1 1 [slv r] (by rw [hz1]; rfl) hnew (by decide) (by decide) (by rw [hz2]; decide)
    obtain ⟨g1, g2⟩ := hgo (grownCap w1 1 0 72) (grownCap_ge w1 1 0 _) (grownCap_le_maxLen w1 1 0 _ hml) _ (hzz _) (zero_slc _)
    simp only [ho, resolve, invoke, builtin, Sem.run_bind, Sem.run_pure, Result.andThen_ok, List.map_toArray, List.map_cons, List.map_nil, hs, hy, hrun]
    simp only [List.map_nil, List.length_nil, Nat.zero_add] at g1 g2
    have e0 : (#[] : Array Value) ++ [slv r].toArray ++ Builtin.zeroCells (Value.slice none 0 0).cells (grownCap w1 1 0 72 - 1) = [slv r].toArray ++ Builtin.zeroCells (Value.slice none 0 0).cells (grownCap w1 1 0 72 - 1) := by simp
    rw [e0] at g1 g2
    exact hK _ _ (k _ _ g1 g2)
  · have hh1 : w1.heap[g]? = some (.cells cur 72 (0, 0)) := by rw [← hw1]; exact (Below.heap_alloc w _ g (blk_lt hh)).trans hh
    by_cases hroom : L.length + 1 ≤ cap
    · have hrun := run_append_room (P := Try.prog) w1 26 o.type 72 i ht hi g L.length cap cur hh1 ⟨w.heap.size, 0, none⟩ 1 1 [slv r] (by rw [hz1]; rfl) hnew (by intro u hu; simp at hu; subst hu; rfl) hroom (by rw [hz1]; simp; omega)
      rw [hz1] at hrun
      simp only [ho, resolve, invoke, builtin, Sem.run_bind, Sem.run_pure, Result.andThen_ok, List.map_toArray, List.map_cons, List.map_nil, hs, hy, hrun]
      obtain ⟨cur', hcur'⟩ : ∃ cur', (cur.toList.take (L.length * 1) ++ [slv r] ++ cur.toList.drop (L.length * 1 + [slv r].length)).toArray = cur' := ⟨_, rfl⟩
      have hl' : cur'.toList = rs.map slv ++ ([slv r] ++ cur.toList.drop (L.length + 1)) := by
        rw [← hcur', Nat.mul_one, htk, List.append_assoc]; rfl
      rw [hcur']
      have hw1s : w1.heap.size = w.heap.size + 1 := by rw [← hw1]; simp
      have hgw := blk_lt hh
      have hnew' := setRow_heap w1 g cur cur' 72 _ hh1
      have hf : Frm [72] n₀ w (w1.setRow g cur') := by
        refine ⟨⟨?_, ?_, ?_, ?_, fun j hj => ?_⟩, fun j cs t fr hj ht' => ?_, fun p z hp => ?_⟩
        · rw [← hw1]; rfl
        · rw [← hw1]; rfl
        · rw [← hw1]; rfl
        · simp [World.setRow]; omega
        · rw [setRow_other _ _ _ _ (by omega), ← hw1]
          exact Below.heap_alloc w _ j (by omega)
        · have hne : j ≠ g := by
            rintro rfl
            rw [hh] at hj
            injection hj with hj
            injection hj with _ e2 _
            exact ht' (by rw [← e2]; simp)
          rw [setRow_other _ _ _ _ hne, ← hw1]
          exact (Below.heap_alloc w _ j (blk_lt hj)).trans hj
        · by_cases e : p.block = g
          · exfalso
            obtain ⟨b, off, sp⟩ := p
            cases World.cell?_spot hp
            simp only at e
            subst e
            rw [cell_of_row _ _ _ _ _ _ hh] at hp
            exact cells_no_byte ha _ _ hp
          · have hpl := cell_lt' hp
            rw [← hp]
            refine World.cell?_of_block (w := w) ?_
            rw [setRow_other _ _ _ _ e, ← hw1]
            exact Below.heap_alloc w _ p.block hpl
      refine hK _ _ (k _ _ ⟨rs ++ [r], by simp; exact h1, fun j r' S' e1 e2 => ?_, .inr ⟨g, cap, cur', by simp, hg, hnew', by simp; exact hroom, hm, ?_, ?_, ?_⟩⟩ hf)
      · rcases Nat.lt_or_ge j rs.length with hj | hj
        · rw [List.getElem?_append_left hj] at e1
          rw [List.getElem?_append_left (by omega)] at e2
          exact hf.rl (by decide) (h2 j r' S' e1 e2)
        · rw [List.getElem?_append_right hj] at e1
          rw [List.getElem?_append_right (by omega)] at e2
          cases hjj : j - rs.length with
          | zero =>
            rw [hjj] at e1
            rw [show j - L.length = 0 by omega] at e2
            simp at e1 e2
            subst e1 e2
            exact hf.rl (by decide) hr
          | succ q => rw [hjj] at e1; simp at e1
      · rw [← Array.length_toList, hl']
        have : cur.toList.length = cur.size := Array.length_toList
        simp
        omega
      · rw [hl', ← List.append_assoc, List.take_left' (by simp; exact h1)]
        simp
      · intro u hu
        rw [hl'] at hu
        rcases List.mem_append.1 hu with hu | hu
        · obtain ⟨r', _, rfl⟩ := List.mem_map.1 hu
          exact slc_slv r'
        · rcases List.mem_append.1 hu with hu | hu
          · simp at hu; subst hu; exact slc_slv r
          · exact ha u (List.mem_of_mem_drop hu)
    · have holds : ∀ j u, (rs.map slv)[j]? = some u → w1.cell? ((⟨g, 0, none⟩ : Addr).add j) = some u := by
        intro j u hu
        have e2 : (⟨g, 0, none⟩ : Addr).add j = ⟨g, j, none⟩ := by unfold Addr.add; split <;> simp_all
        rw [e2, cell_of_row _ _ _ _ _ _ hh1, ← Array.getElem?_toList]
        rw [← htk, List.getElem?_take] at hu
        split at hu
        · exact hu
        · cases hu
      have hrun := run_append_grow (P := Try.prog) w1 26 o.type 72 i _ ht hi hz ⟨g, 0, none⟩ L.length cap (rs.map slv) (by rw [hz1, List.length_map, h1, Nat.mul_one]) holds ⟨w.heap.size, 0, none⟩ 1 1 [slv r] (by rw [hz1]; rfl) hnew (by omega) (by omega) (growslice_fits (by omega) (by rw [hz2]; omega))
      obtain ⟨g1, g2⟩ := hgo (grownCap w1 (L.length + 1) cap 72) (grownCap_ge w1 _ _ _) (grownCap_le_maxLen w1 _ _ _ hml) _ (hzz _) (zero_slc _)
      simp only [ho, resolve, invoke, builtin, Sem.run_bind, Sem.run_pure, Result.andThen_ok, List.map_toArray, List.map_cons, List.map_nil, hs, hy, hrun]
      exact hK _ _ (k _ _ g1 g2)
end Go.Proofs.Ythcilmlaoddckaa.Pg
/- The document's heap: is there data; its Get. -/
namespace Go.Proofs.Ythcilmlaoddckaa.Pg
open Go.RowKit Go.Proofs.Ythcilmlaoddckaa.Mem Go.Proofs.Ythcilmlaoddckaa.Right
set_option linter.unusedVariables false

/-- Block B is a heap of the document's, of these pages. -/
def RP (w : World) (n₀ B : Nat) (L : List (List Sl)) : Prop := n₀ ≤ B ∧ ((∀ S ∈ L, Ok S) ∧ L.length ≤ 64) ∧ ∃ v, Cel w B 28 #[v] ∧ Arr w n₀ v L
theorem RP.below {w w' : World} {n₀ B : Nat} {L : List (List Sl)} (h : RP w n₀ B L) (hb : Below w.heap.size w w') : RP w' n₀ B L := by
  obtain ⟨h1, h2, v, h3, h4⟩ := h
  exact ⟨h1, h2, v, h3.below hb, h4.below hb⟩
theorem RP.frm {T : List TypeId} {n₁ : Nat} {w w' : World} {n₀ B : Nat} {L : List (List Sl)} (h : RP w n₀ B L) (hf : Frm T n₁ w w') (t0 : 28 ∉ T) (t1 : 72 ∉ T) (t2 : 74 ∉ T) : RP w' n₀ B L := by
  obtain ⟨h1, h2, v, h3, h4⟩ := h
  exact ⟨h1, h2, v, hf.cel t0 h3, h4.frm hf t1 t2⟩
theorem RP.lt {w : World} {n₀ B : Nat} {L : List (List Sl)} (h : RP w n₀ B L) : B < w.heap.size := by
  obtain ⟨_, _, v, h3, _⟩ := h
  exact blk_lt h3
theorem RP.base {w : World} {n₀ B : Nat} {L : List (List Sl)} (h : RP w n₀ B L) : n₀ ≤ B := h.1
theorem RP.each {w : World} {n₀ B : Nat} {L : List (List Sl)} (h : RP w n₀ B L) : ∀ S ∈ L, Ok S := h.2.1.1
theorem RP.few {w : World} {n₀ B : Nat} {L : List (List Sl)} (h : RP w n₀ B L) : L.length ≤ 64 := h.2.1.2
theorem RP.size {w : World} {n₀ B : Nat} {L : List (List Sl)} (h : RP w n₀ B L) : n₀ ≤ w.heap.size := Nat.le_of_lt (Nat.lt_of_le_of_lt h.base h.lt)
theorem RP.open_ {w : World} {n₀ B : Nat} {L : List (List Sl)} (h : RP w n₀ B L) : ∃ A c, (w.cell? ⟨B, 0, none⟩ = some (.slice A L.length c) ∧ w.frozen? ⟨B, 0, none⟩ = false) ∧ Cel w B 28 #[.slice A L.length c] ∧ Arr w n₀ (.slice A L.length c) L ∧ L.length ≤ c ∧ c ≤ 9223372036854775807 := by
  obtain ⟨_, _, v, h3, h4⟩ := h
  obtain ⟨A, c, rfl, hc⟩ := h4.form
  exact ⟨A, c, ⟨h3.at_ 0, h3.open_ 0⟩, h3, h4, hc⟩
/-- Is there data at a place? -/
def hasH (L : List (List Sl)) (p s : Int) : Bool := decide (inH L p ∧ 0 ≤ s ∧ full (pageOf L p.toNat) s.toNat = true)
set_option maxRecDepth 100000 in
set_option maxHeartbeats 2000000 in
theorem has_in (n₀ B : Nat) (L : List (List Sl)) (k j : Nat) (w : World) (h : RP w n₀ B L) (hk : k < L.length) (hj : j < (pageOf L k).length) :
    Calls Try.prog 39 #[.pointer (some ⟨B, 0, none⟩), .agg #[.int .i64 (k : Int), .int .i64 (j : Int)]] w fun e w' => e = .returned (.bool (sl (pageOf L k) j).isSome) ∧ Below w.heap.size w w' := by
  obtain ⟨A, c, ⟨y0, _⟩, _, hA, hc1, hc2⟩ := h.open_
  obtain ⟨g, cap, r, ev, hg, _, cg, _, hr⟩ := hA.get hk
  injection ev with e1 e2 e3
  subst e1 e3
  obtain ⟨rA, rn, rc⟩ := r
  have hrl := hr.len
  simp only at hrl hr
  obtain ⟨b, o, A', c', e4, hb, s0, _, _⟩ := hr.get (k := j) (by omega)
  subst e4
  have hB0 := al (Below.refl w.heap.size w) (.cells #[.int .i64 (k : Int), .int .i64 (j : Int)] 62)
  have x0 := fun ob : Obj => ((al (Below.refl w.heap.size w) ob).cell (p := ⟨B, 0, none⟩) h.lt).trans y0
  have x1 : ∀ ob : Obj, (w.alloc ob).cell? ⟨g, k, none⟩ = some (.slice (some ⟨b, o, none⟩) rn rc) := fun ob => ((al (Below.refl w.heap.size w) ob).cell (p := ⟨g, k, none⟩) (cell_lt cg)).trans cg
  have x2 := fun ob : Obj => ((al (Below.refl w.heap.size w) ob).cell (p := ⟨b, o + j * 2, none⟩) hb).trans s0
  have hkn : (k : Int) < (L.length : Int) := by omega
  have hjn : (j : Int) < (rn : Int) := by omega
  have d1 : decide ((0 : Int) ≤ (k : Int)) = true := decide_eq_true (by omega)
  have d2 : decide (k < L.length) = true := decide_eq_true hk
  have d3 : decide ((0 : Int) ≤ (j : Int)) = true := decide_eq_true (by omega)
  have d4 : decide (j < rn) = true := decide_eq_true (by omega)
  obtain ⟨n, hn⟩ : ∃ n, L.length = n := ⟨_, rfl⟩
  rw [hn] at x0 hkn d2
  have HB0 := Lib.hid hB0
  have hn64 : n ≤ 64 := by have := h.few; omega
  clear h hA hr cg y0 s0 hc1 hc2 hB0 hn hk hj
  go_enter Try.func39, Try.ntmps39
  go_wp2
  go_quiet (fail)
  go_wp2
  go_ret
  exact ⟨rfl, below_drewN HB0.out _⟩
set_option maxRecDepth 100000 in
set_option maxHeartbeats 2000000 in
theorem has_slot (n₀ B : Nat) (L : List (List Sl)) (k : Nat) (s : Int) (w : World) (h : RP w n₀ B L) (hk : k < L.length) (hs : s < 0 ∨ ((pageOf L k).length : Int) ≤ s) :
    Calls Try.prog 39 #[.pointer (some ⟨B, 0, none⟩), .agg #[.int .i64 (k : Int), .int .i64 s]] w fun e w' => e = .returned (.bool false) ∧ Below w.heap.size w w' := by
  obtain ⟨A, c, ⟨y0, _⟩, _, hA, hc1, hc2⟩ := h.open_
  obtain ⟨g, cap, r, ev, hg, _, cg, _, hr⟩ := hA.get hk
  injection ev with e1 e2 e3
  subst e1 e3
  obtain ⟨rA, rn, rc⟩ := r
  have hrl := hr.len
  simp only at hrl hr
  have hB0 := al (Below.refl w.heap.size w) (.cells #[.int .i64 (k : Int), .int .i64 s] 62)
  have x0 := fun ob : Obj => ((al (Below.refl w.heap.size w) ob).cell (p := ⟨B, 0, none⟩) h.lt).trans y0
  have x1 : ∀ ob : Obj, (w.alloc ob).cell? ⟨g, k, none⟩ = some (.slice rA rn rc) := fun ob => ((al (Below.refl w.heap.size w) ob).cell (p := ⟨g, k, none⟩) (cell_lt cg)).trans cg
  have hkn : (k : Int) < (L.length : Int) := by omega
  have d1 : decide ((0 : Int) ≤ (k : Int)) = true := decide_eq_true (by omega)
  have d2 : decide (k < L.length) = true := decide_eq_true hk
  obtain ⟨n, hn⟩ : ∃ n, L.length = n := ⟨_, rfl⟩
  rw [hn] at x0 hkn d2
  have HB0 := Lib.hid hB0
  have hn64 : n ≤ 64 := by have := h.few; omega
  clear h hA hr cg y0 hc1 hc2 hB0 hn hk
  by_cases h0 : 0 ≤ s
  · obtain ⟨j, rfl⟩ := Int.eq_ofNat_of_zero_le h0
    have d3 : decide ((0 : Int) ≤ (j : Int)) = true := decide_eq_true (by omega)
    have d4 : decide (j < rn) = false := decide_eq_false (by omega)
    clear hs h0
    go_enter Try.func39, Try.ntmps39
    go_wp2
    go_quiet (fail)
    go_wp2
    go_ret
    exact ⟨rfl, below_drewN HB0.out _⟩
  · have d3 : decide ((0 : Int) ≤ s) = false := decide_eq_false h0
    clear hs h0
    go_enter Try.func39, Try.ntmps39
    go_wp2
    go_quiet (fail)
    go_wp2
    go_ret
    exact ⟨rfl, below_drewN HB0.out _⟩
set_option maxRecDepth 100000 in
set_option maxHeartbeats 2000000 in
theorem has_page (n₀ B : Nat) (L : List (List Sl)) (p s : Int) (w : World) (h : RP w n₀ B L) (hp : ¬ inH L p) :
    Calls Try.prog 39 #[.pointer (some ⟨B, 0, none⟩), .agg #[.int .i64 p, .int .i64 s]] w fun e w' => e = .returned (.bool false) ∧ Below w.heap.size w w' := by
  obtain ⟨A, c, ⟨y0, _⟩, _, hA, hc1, hc2⟩ := h.open_
  have hB0 := al (Below.refl w.heap.size w) (.cells #[.int .i64 p, .int .i64 s] 62)
  have x0 := fun ob : Obj => ((al (Below.refl w.heap.size w) ob).cell (p := ⟨B, 0, none⟩) h.lt).trans y0
  unfold inH at hp
  obtain ⟨n, hn⟩ : ∃ n, L.length = n := ⟨_, rfl⟩
  rw [hn] at x0 hp
  have HB0 := Lib.hid hB0
  have hn64 : n ≤ 64 := by have := h.few; omega
  clear h hA y0 hc1 hc2 hB0 hn
  by_cases h0 : 0 ≤ p
  · obtain ⟨k, rfl⟩ := Int.eq_ofNat_of_zero_le h0
    rw [Int.toNat_natCast] at hp
    have d1 : decide ((0 : Int) ≤ (k : Int)) = true := decide_eq_true (by omega)
    have d2 : decide (k < n) = false := decide_eq_false (by omega)
    clear hp h0
    go_enter Try.func39, Try.ntmps39
    go_wp2
    go_quiet (fail)
    go_wp2
    go_ret
    exact ⟨rfl, below_drewN HB0.out _⟩
  · have d1 : decide ((0 : Int) ≤ p) = false := decide_eq_false h0
    clear hp h0
    go_enter Try.func39, Try.ntmps39
    go_wp2
    go_quiet (fail)
    go_wp2
    go_ret
    exact ⟨rfl, below_drewN HB0.out _⟩
theorem has_any (n₀ B : Nat) (L : List (List Sl)) (p s : Int) (x : Bool) (hx : hasH L p s = x) (w : World) (h : RP w n₀ B L) :
    Calls Try.prog 39 #[.pointer (some ⟨B, 0, none⟩), .agg #[.int .i64 p, .int .i64 s]] w fun e w' => e = .returned (.bool x) ∧ Below w.heap.size w w' := by
  unfold hasH at hx
  by_cases hp : inH L p
  · obtain ⟨k, rfl⟩ := Int.eq_ofNat_of_zero_le hp.1
    have hk := hp.2
    rw [Int.toNat_natCast] at hk hx
    by_cases hs : s < 0 ∨ ((pageOf L k).length : Int) ≤ s
    · have : x = false := by
        rw [← hx]
        refine decide_eq_false fun ⟨_, h2, h3⟩ => ?_
        rw [full_not (by omega)] at h3
        cases h3
      subst this
      exact has_slot n₀ B L k s w h hk hs
    · obtain ⟨j, rfl⟩ := Int.eq_ofNat_of_zero_le (show (0 : Int) ≤ s by omega)
      refine (has_in n₀ B L k j w h hk (by omega)).mono fun e w' ⟨he, hb⟩ => ⟨?_, hb⟩
      rw [he, ← hx, Int.toNat_natCast, full_sl]
      cases (sl (pageOf L k) j).isSome <;> simp [hp]
  · have : x = false := by
      rw [← hx]
      exact decide_eq_false fun h2 => hp h2.1
    subst this
    exact has_page n₀ B L p s w h hp
end Go.Proofs.Ythcilmlaoddckaa.Pg
/- The document's heap: Get; trim. -/
namespace Go.Proofs.Ythcilmlaoddckaa.Pg
open Go.RowKit Go.Proofs.Ythcilmlaoddckaa.Mem Go.Proofs.Ythcilmlaoddckaa.Right
set_option linter.unusedVariables false

/-- Where there is data: page and slot as numbers. -/
theorem has_at {L : List (List Sl)} {p s : Int} (h : hasH L p s = true) : ∃ k j d : _, p = ((k : Nat) : Int) ∧ s = ((j : Nat) : Int) ∧ k < L.length ∧ j < (pageOf L k).length ∧ (pageOf L k)[j]? = some (some d) := by
  obtain ⟨⟨h1, h2⟩, h3, h4⟩ := of_decide_eq_true h
  obtain ⟨k, rfl⟩ := Int.eq_ofNat_of_zero_le h1
  obtain ⟨j, rfl⟩ := Int.eq_ofNat_of_zero_le h3
  rw [Int.toNat_natCast] at h2 h4
  rw [Int.toNat_natCast] at h4
  obtain ⟨d, hd⟩ := full_dat h4
  exact ⟨k, j, d, rfl, rfl, h2, (List.getElem?_eq_some_iff.1 hd).1, hd⟩
theorem getH_no {L : List (List Sl)} {p s : Int} (h : hasH L p s = false) : getH L p s = (none, 4) := by
  have hn := of_decide_eq_false h
  unfold getH
  by_cases hp : inH L p
  · rw [if_pos hp]
    unfold getV
    by_cases hs : 0 ≤ s
    · rw [if_pos hs]
      have hf : full (pageOf L p.toNat) s.toNat = false := by
        cases hf : full (pageOf L p.toNat) s.toNat with
        | false => rfl
        | true => exact absurd ⟨hp, hs, hf⟩ hn
      unfold full at hf
      split at hf
      · cases hf
      · rename_i hx
        split
        · rename_i d he; exact absurd he (hx d)
        · rfl
    · rw [if_neg hs]
  · rw [if_neg hp]
theorem getH_yes {L : List (List Sl)} {k j : Nat} {d : List UInt8} (hk : k < L.length) (hd : (pageOf L k)[j]? = some (some d)) : getH L (k : Int) (j : Int) = (some d, 0) := by
  unfold getH
  rw [if_pos ⟨by omega, by rw [Int.toNat_natCast]; exact hk⟩, Int.toNat_natCast]
  unfold getV
  rw [if_pos (by omega), Int.toNat_natCast, hd]
set_option maxRecDepth 100000 in
set_option maxHeartbeats 2000000 in
theorem get_r (n₀ B : Nat) (L : List (List Sl)) (p s : Int) (w : World) (h : RP w n₀ B L) (x : Option (List UInt8)) (y : Int) (hx : getH L p s = (x, y)) :
    Calls Try.prog 25 #[.pointer (some ⟨B, 0, none⟩), .agg #[.int .i64 p, .int .i64 s]] w (GotB w x y) := by
  have hB0 := al (Below.refl w.heap.size w) (.cells #[.int .i64 p, .int .i64 s] 62)
  have HB0 := Lib.hid hB0
  have HZ0 := Lib.hid (Cel.new w 62 #[.int .i64 p, .int .i64 s] rfl)
  cases hh : hasH L p s with
  | false =>
    rw [getH_no hh] at hx
    cases hx
    have H := Lib.hid (has_any n₀ B L p s false hh _ (h.below hB0))
    clear h hh hB0
    go_enter Try.func25, Try.ntmps25
    go_wp2_with (go_at_call 39; (with_reducible refine H.out.mono ?_); rintro e w1 ⟨rfl, hb1⟩; have HB1 := Lib.hid (Mem.on HB0.out hb1); clear hb1)
    go_ret2
    exact ⟨rfl, HB1.out⟩
  | true =>
    obtain ⟨k, j, d, rfl, rfl, hk, hj, hd⟩ := has_at hh
    rw [getH_yes hk hd] at hx
    cases hx
    have H := Lib.hid (has_any n₀ B L (k : Int) (j : Int) true hh _ (h.below hB0))
    have hsl : sl (pageOf L k) j = some d := by unfold sl; rw [hd]; rfl
    obtain ⟨A, c, ⟨y0, _⟩, _, hA, hc1, hc2⟩ := h.open_
    obtain ⟨g, cap, r, ev, hg, _, cg, _, hr⟩ := hA.get hk
    injection ev with e1 e2 e3
    subst e1 e3
    obtain ⟨rA, rn, rc⟩ := r
    have hrl := hr.len
    simp only at hrl hr
    obtain ⟨b, o, A', c', e4, hb, _, s1, hbs⟩ := hr.get (k := j) (by omega)
    subst e4
    rw [hsl] at s1 hbs
    have s1' : w.cell? ⟨b, o + j * 2 + 1, none⟩ = some (.slice A' d.length c') := s1
    have HBS : Hid (Bs w A' d.length c' d) := Lib.hid hbs
    have hkn : (k : Int) < (L.length : Int) := by omega
    have hjn : (j : Int) < (rn : Int) := by omega
    have hcg : w.cell? ⟨g, k, none⟩ = some (.slice (some ⟨b, o, none⟩) rn rc) := cg
    have HK : Hid (∀ W, Below w.heap.size w W → W.cell? ⟨B, 0, none⟩ = some (.slice (some ⟨g, 0, none⟩) L.length c) ∧ W.cell? ⟨g, k, none⟩ = some (.slice (some ⟨b, o, none⟩) rn rc) ∧ W.cell? ⟨b, o + j * 2 + 1, none⟩ = some (.slice A' d.length c')) := Lib.hid fun W hW =>
      ⟨(hW.cell (p := ⟨B, 0, none⟩) h.lt).trans y0, (hW.cell (p := ⟨g, k, none⟩) (cell_lt cg)).trans hcg, (hW.cell (p := ⟨b, _, none⟩) hb).trans s1'⟩
    obtain ⟨n, hn⟩ : ∃ n, L.length = n := ⟨_, rfl⟩
    rw [hn] at HK hkn
    clear h hh hA hr cg hcg s1 s1' hbs y0 hB0 hc1 hc2 hn hsl hd
    go_enter Try.func25, Try.ntmps25
    go_wp2_with (go_at_call 39; (with_reducible refine H.out.mono ?_); rintro e w1 ⟨rfl, hb1⟩; have HB1 := Lib.hid (Mem.on HB0.out hb1); have z0 := (HZ0.out.below hb1).at_ 0; have z1 := (HZ0.out.below hb1).at_ 1; obtain ⟨q0, q1, q2⟩ := HK.out w1 HB1.out; clear hb1)
    go_quiet (fail)
    go_wp2
    go_ret2
    exact ⟨A', c', rfl, HBS.out.below (below_drewN HB1.out _), below_drewN HB1.out _⟩
/-- What a call of the document's heap leaves: its answer, the heap then. -/
def RM (w : World) (n₀ B : Nat) (L : List (List Sl)) (r : Value) (e : Ending) (w' : World) : Prop := e = .returned r ∧ RP w' n₀ B L ∧ Frm [28, 72] n₀ w w'
/-- A heap has another list. -/
theorem RP.turn {w : World} {n₀ B : Nat} {v : Value} {L L' : List (List Sl)} (h : RP w n₀ B L) (hA : Arr w n₀ v L') (hv : Slc v) (hO : ∀ S ∈ L', Ok S) (hl : L'.length ≤ 64) :
    RP (w.setCell ⟨B, 0, none⟩ v) n₀ B L' ∧ Frm [28] n₀ w (w.setCell ⟨B, 0, none⟩ v) := by
  obtain ⟨h1, h2, u, h3, h4⟩ := h
  obtain ⟨A0, c0, rfl, _⟩ := h4.form
  have hf : Frm [28] n₀ w (w.setCell ⟨B, 0, none⟩ v) := Frm.set h3 (by decide) h1 (fun j z => by
    match j with
    | 0 => intro e; cases e
    | j + 1 => intro e; simp at e) _
  exact ⟨⟨h1, ⟨hO, hl⟩, v, h3.set 0 _, hA.frm hf (by decide) (by decide)⟩, hf⟩
theorem Arr.slc {w : World} {n₀ : Nat} {v : Value} {L : List (List Sl)} (h : Arr w n₀ v L) : Slc v := by
  obtain ⟨A, c, rfl, _⟩ := h.form
  exact ⟨_, _, _, rfl⟩
theorem Arr.take_ {w : World} {n₀ n c : Nat} {A : Option Addr} {L : List (List Sl)} (h : Arr w n₀ (.slice A n c) L) (k : Nat) (hk : k ≤ L.length) : Arr w n₀ (.slice A k c) (L.take k) := by
  cases hL : L with
  | nil =>
    subst hL
    obtain rfl : k = 0 := by simpa using hk
    obtain ⟨rs, h1, h2, h3⟩ := h
    rcases h3 with ⟨e, _⟩ | ⟨g, cap, cur, e, rest⟩
    · injection e with e1 e2 e3
      subst e1 e2 e3
      exact Arr.nil _ _
    · injection e with e1 e2 e3
      subst e1 e3
      exact ⟨rs, h1, fun k r S _ e => by simp at e, .inr ⟨g, c, cur, rfl, rest⟩⟩
  | cons S L' =>
    obtain ⟨g, cap, r, ev, _⟩ := h.get (k := 0) (by rw [hL]; simp)
    injection ev with e1 e2 e3
    subst e1 e3
    rw [← hL]
    exact h.take k hk
theorem slots_r (A : Option Addr) (n c : Nat) (S : List Sl) (w : World) (h : RL w A n c S) (hn : n ≤ 1000) :
    Calls Try.prog 61 #[.slice A n c] w fun e w' => ∃ A' c', e = .returned (.slice A' (slotsN S S.length).length c') ∧ Below w.heap.size w w' :=
  (slots_ref A n c S w h hn).mono fun e w' ⟨v, he, ho, hb⟩ => by
    obtain ⟨A', c', rfl, _⟩ := Row.form ho
    exact ⟨A', c', he, hb⟩
theorem trim_each {L : List (List Sl)} (h : ∀ S ∈ L, Ok S) : ∀ S ∈ trimH L, Ok S := fun S hS => h S (List.mem_of_mem_take hS)
set_option maxRecDepth 100000 in
set_option maxHeartbeats 2000000 in
theorem trim_r (n₀ B : Nat) (L : List (List Sl)) (w : World) (h : RP w n₀ B L) :
    Calls Try.prog 42 #[.pointer (some ⟨B, 0, none⟩)] w (RM w n₀ B (trimH L) (.tuple #[])) := by
  have H := Lib.hid h
  obtain ⟨n, hn⟩ : ∃ n, L.length = n := ⟨_, rfl⟩
  have hn64 : n ≤ 64 := by have := h.few; omega
  obtain ⟨A, c, ⟨y0, f0⟩, _, hA, hc1, hc2⟩ := h.open_
  have HA := Lib.hid hA
  have HN := Lib.hid hn
  rw [hn] at y0 hc1 HA
  have hB := h.lt
  have HK : Hid (∀ W, Below w.heap.size w W → W.cell? ⟨B, 0, none⟩ = some (.slice A n c) ∧ W.frozen? ⟨B, 0, none⟩ = false) := Lib.hid fun W hW => by
    obtain ⟨A9, c9, ⟨y9, f9⟩, _⟩ := (h.below hW).open_
    exact ⟨(hW.cell (p := ⟨B, 0, none⟩) hB).trans y0, f9⟩
  clear h hA hn f0
  go_enter Try.func42, Try.ntmps42
  go_wp2
  go_loopw [2] (fun i wr => ∃ k : Nat, k ≤ n ∧ i = .int .i64 k ∧ Hid (top (L.take k) = top L) ∧ Hid (Below w.heap.size w wr)) (fun i _ => (intOf i).toNat)
  case atStart => exact ⟨n, Nat.le_refl _, rfl, Lib.hid (by rw [List.take_of_length_le (by rw [HN.out]; exact Nat.le_refl _)]), Lib.hid (Below.refl _ _)⟩
  case round =>
    clear y0
    obtain ⟨k, hk, rfl, HT, HB⟩ := hrel
    obtain ⟨y0, f0⟩ := HK.out wr HB.out
    rcases Nat.eq_zero_or_pos k with h0 | hpos
    · subst h0
      have HS := Lib.hid (show top L = 0 by rw [← HT.out]; rfl)
      go_wp2
      go_end0
      have hA1 := (HA.out.below HB.out).take_ 0 (Nat.zero_le _)
      have hturn := (H.out.below HB.out).turn hA1 ⟨_, _, _, rfl⟩ (fun S hS => by simp at hS) (by simp)
      refine ⟨rfl, ?_, (Frm.of HB.out H.out.size).trans (hturn.2.more (by decide))⟩
      unfold trimH
      rw [HS.out]
      exact hturn.1
    · obtain ⟨j, rfl⟩ : ∃ j, k = j + 1 := ⟨k - 1, by omega⟩
      have hjL : j < L.length := by rw [HN.out]; omega
      obtain ⟨g, cap, r, ev, hg, _, cg, _, hr⟩ := (HA.out.below HB.out).get hjL
      injection ev with e1 e2 e3
      subst e1 e3
      obtain ⟨rA, rn, rc⟩ := r
      have hcg : wr.cell? ⟨g, j, none⟩ = some (.slice rA rn rc) := cg
      have hOK := ok_page H.out.each j
      have hrn : rn ≤ 1000 := by
        have h1 := hr.len
        have h2 := hOK.fit.room
        simp only at h1
        omega
      have HS := Lib.hid (slots_r rA rn rc (pageOf L j) wr hr hrn)
      have hne := slots_none hOK
      obtain ⟨m, hm⟩ : ∃ m, (slotsN (pageOf L j) (pageOf L j).length).length = m := ⟨_, rfl⟩
      rw [hm] at hne HS
      have hjn : (j : Int) < (n : Int) := by omega
      clear hr cg
      by_cases h0 : m = 0
      · subst h0
        have HT2 := Lib.hid (show top (L.take j) = top L by rw [← HT.out, top_next hjL, if_pos (hne.1 rfl)])
        clear hne hm e2
        go_wp2_with (go_at_call 61; (with_reducible refine HS.out.mono ?_); rintro e w1 ⟨A1, c1, rfl, hb1⟩; have HB1 := Lib.hid (Mem.on HB.out hb1); clear hb1)
        go_roundw
        case rel => exact ⟨j, by omega, by go_num, HT2, HB1⟩
        case measure => simp [intOf]
      · have HT2 := Lib.hid (show top L = j + 1 by rw [← HT.out, top_next hjL, if_neg (fun e => h0 (hne.2 e))])
        have h0' : ¬ (m : Int) = 0 := by omega
        clear hne hm e2
        go_wp2_with (go_at_call 61; (with_reducible refine HS.out.mono ?_); rintro e w1 ⟨A1, c1, rfl, hb1⟩; have HB1 := Lib.hid (Mem.on HB.out hb1); clear y0 f0; obtain ⟨y0, f0⟩ := HK.out w1 HB1.out; clear hb1)
        go_end0
        have hA1 := (HA.out.below HB1.out).take_ (j + 1) (by omega)
        have hturn := (H.out.below HB1.out).turn hA1 ⟨_, _, _, rfl⟩ (fun S hS => H.out.each S (List.mem_of_mem_take hS)) (by rw [List.length_take]; have := H.out.few; omega)
        refine ⟨rfl, ?_, (Frm.of HB1.out H.out.size).trans (hturn.2.more (by decide))⟩
        unfold trimH
        rw [HT2.out]
        exact hturn.1
end Go.Proofs.Ythcilmlaoddckaa.Pg
