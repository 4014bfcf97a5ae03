/- One column less: parts of a list of columns in memory, put together in a list of the call' -/
import Derived.Test.YtcblddpapehdeaaDoorM39
import Derived.Test.YtcblddpapehdeaaDoorM41
namespace Go.Proofs.YtcblddpapehdeaaDoor.Tk
open Go.RowKit Go.Proofs.YtcblddpapehdeaaDoor.Mem Go.Proofs.YtcblddpapehdeaaDoor.Ep Go.Proofs.YtcblddpapehdeaaDoor.Sm Go.Proofs.YtcblddpapehdeaaDoor.Right Go.Proofs.YtcblddpapehdeaaDoor.Lx Go.ChangeShapes Go.WideShapes
set_option linter.unusedVariables false
def coC (c : Co) : List Value := [.string (txt c.nm), .int .i64 c.ty, .bool c.nn]
theorem coC_len : ∀ l : List Co, (l.flatMap coC).length = l.length * 3
  | [] => rfl
  | c :: l => by
    rw [List.flatMap_cons, List.length_append, coC_len l, List.length_cons]
    show 3 + _ = _
    omega
theorem coC_one (l : List Co) : ∀ u ∈ l.flatMap coC, u.oneCell' = true := by
  intro u hu
  obtain ⟨c, _, hc⟩ := List.mem_flatMap.1 hu
  simp [coC] at hc
  rcases hc with rfl | rfl | rfl <;> rfl
theorem flat3_at : ∀ {l : List Co} {j : Nat} {u : Value}, (l.flatMap coC)[j]? = some u → ∃ c, l[j / 3]? = some c ∧ (coC c)[j % 3]? = some u
  | [], j, u, h => by simp at h
  | c :: l, j, u, h => by
    rw [List.flatMap_cons] at h
    by_cases hj : j < 3
    · rw [List.getElem?_append_left (by show j < 3; exact hj)] at h
      exact ⟨c, by rw [Nat.div_eq_of_lt hj]; rfl, by rw [Nat.mod_eq_of_lt hj]; exact h⟩
    · rw [List.getElem?_append_right (by show 3 ≤ j; omega)] at h
      obtain ⟨d, h1, h2⟩ := flat3_at (j := j - 3) h
      refine ⟨d, ?_, ?_⟩
      · rw [show j / 3 = (j - 3) / 3 + 1 by omega, List.getElem?_cons_succ]; exact h1
      · rw [show j % 3 = (j - 3) % 3 by omega]; exact h2
theorem at_flat3 {l : List Co} {q : Nat} {c : Co} (h : l[q]? = some c) : (l.flatMap coC)[q * 3]? = some (.string (txt c.nm)) ∧ (l.flatMap coC)[q * 3 + 1]? = some (.int .i64 c.ty) ∧ (l.flatMap coC)[q * 3 + 2]? = some (.bool c.nn) := by
  induction l generalizing q with
  | nil => simp at h
  | cons d l ih =>
    rw [List.flatMap_cons]
    cases q with
    | zero =>
      simp at h
      subst h
      exact ⟨rfl, rfl, rfl⟩
    | succ q =>
      rw [List.getElem?_cons_succ] at h
      obtain ⟨h1, h2, h3⟩ := ih h
      refine ⟨?_, ?_, ?_⟩
      · rw [List.getElem?_append_right (by show 3 ≤ _; omega)]
        show (l.flatMap coC)[(q + 1) * 3 - 3]? = _
        rw [show (q + 1) * 3 - 3 = q * 3 by omega]; exact h1
      · rw [List.getElem?_append_right (by show 3 ≤ _; omega)]
        show (l.flatMap coC)[(q + 1) * 3 + 1 - 3]? = _
        rw [show (q + 1) * 3 + 1 - 3 = q * 3 + 1 by omega]; exact h2
      · rw [List.getElem?_append_right (by show 3 ≤ _; omega)]
        show (l.flatMap coC)[(q + 1) * 3 + 2 - 3]? = _
        rw [show (q + 1) * 3 + 2 - 3 = q * 3 + 2 by omega]; exact h3
/-- Columns as they lie, cell by cell. -/
theorem cols_cells {w : World} {S : Nat → Prop} {b o : Nat} {l : List Co} (h : RowIn w S (some ⟨b, o, none⟩) 3 (l.map coDt) 0) : ∀ j u, (l.flatMap coC)[j]? = some u → w.cell? ⟨b, o + j, none⟩ = some u := by
  intro j u hu
  obtain ⟨c, h1, h2⟩ := flat3_at hu
  obtain ⟨b', o', e, _, p0, p1, p2⟩ := co_at h h1
  injection e with e
  injection e with e1 e2
  subst e1 e2
  have h3 : j = j / 3 * 3 + j % 3 := by omega
  have h4 : j % 3 = 0 ∨ j % 3 = 1 ∨ j % 3 = 2 := by omega
  rcases h4 with h4 | h4 | h4
  · rw [h4] at h2 h3; cases h2; rw [h3]; exact p0
  · rw [h4] at h2 h3; cases h2; rw [h3]; exact p1
  · rw [h4] at h2 h3; cases h2; rw [h3]; exact p2
theorem cells_cols {w : World} {B : Nat} {A : Option Addr} {n c : Nat} {l : List Co} (h : Row w B A (l.flatMap coC)) (hn : n = l.length) (hm : n ≤ maxLen) (hA : A = none → c = 0) : LsIn w B A n c 3 (l.map coDt) := by
  refine ⟨by rw [List.length_map]; exact hn, hm, hA, RowIn.of fun j d hd => ?_⟩
  rw [List.getElem?_map] at hd
  obtain ⟨x, hx, rfl⟩ := Option.map_eq_some_iff.1 hd
  obtain ⟨h1, h2, h3⟩ := at_flat3 hx
  obtain ⟨b, o, e, hb, c0⟩ := h _ _ h1
  obtain ⟨b1, o1, e1, _, c1⟩ := h _ _ h2
  obtain ⟨b2, o2, e2, _, c2⟩ := h _ _ h3
  rw [e] at e1 e2
  cases e1
  cases e2
  refine ⟨b, o, coC x, e, hb, rfl, fun i u hu => ?_, co_in.2 rfl⟩
  match i, hu with
  | 0, hu => cases hu; rw [show o + (0 + j) * 3 + 0 = o + j * 3 by omega]; exact c0
  | 1, hu => cases hu; rw [show o + (0 + j) * 3 + 1 = o + (j * 3 + 1) by omega]; exact c1
  | 2, hu => cases hu; rw [show o + (0 + j) * 3 + 2 = o + (j * 3 + 2) by omega]; exact c2
theorem flat_take (l : List Co) (k : Nat) : (l.take k).flatMap coC = (l.flatMap coC).take (k * 3) := by
  have h : l.flatMap coC = (l.take k).flatMap coC ++ (l.drop k).flatMap coC := by rw [← List.flatMap_append, List.take_append_drop]
  by_cases hk : k ≤ l.length
  · rw [h, List.take_left' (by rw [coC_len, List.length_take]; omega)]
  · rw [List.take_of_length_le (by omega), List.take_of_length_le (by rw [coC_len]; omega)]
theorem flat_drop (l : List Co) (k : Nat) : (l.drop k).flatMap coC = (l.flatMap coC).drop (k * 3) := by
  have h : l.flatMap coC = (l.take k).flatMap coC ++ (l.drop k).flatMap coC := by rw [← List.flatMap_append, List.take_append_drop]
  by_cases hk : k ≤ l.length
  · rw [h, List.drop_left' (by rw [coC_len, List.length_take]; omega)]
  · rw [List.drop_of_length_le (by omega), List.drop_of_length_le (by rw [coC_len]; omega)]; rfl
theorem cells_take {w : World} {b o : Nat} {l : List Co} {k : Nat} (h : ∀ j u, (l.flatMap coC)[j]? = some u → w.cell? ⟨b, o + j, none⟩ = some u) : ∀ j u, ((l.take k).flatMap coC)[j]? = some u → w.cell? ((⟨b, o, none⟩ : Addr).add j) = some u := by
  intro j u hu
  have e2 : (⟨b, o, none⟩ : Addr).add j = ⟨b, o + j, none⟩ := by unfold Addr.add; split <;> simp_all
  rw [flat_take, List.getElem?_take] at hu
  split at hu
  · rw [e2]; exact h j u hu
  · cases hu
theorem cells_drop {w : World} {b o o' : Nat} {l : List Co} {k : Nat} (h : ∀ j u, (l.flatMap coC)[j]? = some u → w.cell? ⟨b, o + j, none⟩ = some u) (ho : k < l.length → o' = o + k * 3) : ∀ j u, ((l.drop k).flatMap coC)[j]? = some u → w.cell? ((⟨b, o', none⟩ : Addr).add j) = some u := by
  intro j u hu
  have e2 : (⟨b, o', none⟩ : Addr).add j = ⟨b, o' + j, none⟩ := by unfold Addr.add; split <;> simp_all
  have hk : k < l.length := by
    refine Nat.lt_of_not_le fun g => ?_
    rw [List.drop_of_length_le g] at hu
    simp at hu
  rw [flat_drop, List.getElem?_drop] at hu
  rw [e2, ho hk, Nat.add_assoc]
  exact h _ u hu
theorem elemCo : ElemN Tryd.prog tCos tCol 3 32 := ElemN.of (z := .agg #[.string ⟨#[]⟩, .int .i64 0, .bool false]) (by kernel_rfl) (by kernel_rfl) rfl (by decide)
/-- append of a part that may be empty, as a step of a region that draws. -/
theorem step_part {ops : Array Oper} {o : Oper} {a : Act} {w : World} {K : Act → World → Prop} {Q : Exit → Act → World → Prop} {E : Prop} (hgd : o.guard = none) (s x : Operand)
    (ho : o.op = .call { callee := .builtin .append, args := #[s, x], argTypes := #[tCos, tCos] }) (base : Nat) (v : Value) (n : Nat) (xs : List Value) (hs : a.eval s = v) (hown : w.ownsRow base tCol 3 v n xs)
    (ad : Addr) (m c : Nat) (news : List Value) (hx : a.eval x = .slice (some ad) m c) (hl : news.length = m * 3) (hnews : ∀ j u, news[j]? = some u → w.cell? (ad.add j) = some u) (h1 : ∀ u ∈ news, u.oneCell' = true)
    (M : Nat) (ys : List Value) (hM : n + m = M) (hy : xs ++ news = ys) (hnm : M ≤ 1000) (hb : base ≤ w.heap.size)
    (h : ∀ A cap w', w'.ownsRow base tCol 3 (.slice A M cap) M ys → w.grownBy w' v.ownBlock → K (a.put o.dst (.slice A M cap)) w') :
    if Region.wanted o (yielded ops a.tmps) = true then Oper.wp Tryd.prog o a w K Q else E := by
  subst hM hy
  have hw : Region.wanted o (yielded ops a.tmps) = true := by simp [Region.wanted, hgd]
  rw [if_pos hw]
  obtain ⟨i, z, ht, hi, hz, hz1, hz2, hzc, hk⟩ := elemCo
  obtain ⟨v', w', hr, h2, h3, h4, h5⟩ := run_append_own_at (P := Tryd.prog) w base tCos o.type tCol i z 3 32 ht hi hz hz1 hz2 hzc (by decide) v n xs hown ad m c news hl hnews h1 (by unfold maxLen; omega) (by omega) hb
  unfold Oper.wp execOp
  simp only [ho, resolve, invoke, builtin, Sem.run_bind, Sem.run_pure, Result.andThen_ok, List.map_toArray, List.map_cons, List.map_nil, hs, hx, hr]
  obtain ⟨A, cap, rfl⟩ := own_slice h2
  exact h A cap w' h2 h3
theorem slice3_h (A : Option Addr) (n c j : Nat) (z : Int) (hz : z = j) (hc : j ≤ c) (w : World) : (Instr.sliceAt tCos (.slice A n c) none (some (.int .i64 z)) none).run Tryd.prog w = .ok (.slice A j c) w := by
  subst hz
  have hl : Tryd.prog.underlying tCos = some (.slice tCol) := by kernel_rfl
  have he : Tryd.prog.elem tCos = tCol := by simp [Program.elem, hl]
  have hs : (sizeOf tCol).run Tryd.prog w = .ok 3 w := by kernel_rfl
  rw [run_sliceAt_slice w _ _ _ _ _ (by rw [he]; exact hl), run_slice_h w tCos _ n c (by rw [he]; exact hl) .i64 j (by omega) (by omega), he, hs]
  simp only [Result.andThen, sliced, Int.toNat_natCast, Nat.sub_zero, Nat.zero_mul]
  by_cases h0 : c = 0
  · rw [if_pos h0]
  · rw [if_neg h0]
    cases A with
    | none => rfl
    | some a => simp [Addr.add]
theorem slice3_l (b o n c k : Nat) (z : Int) (hz : z = k) (hk : k ≤ n) (hc : n ≤ c) : ∃ o', (k < c → o' = o + k * 3) ∧ ∀ w : World, (Instr.sliceAt tCos (.slice (some ⟨b, o, none⟩) n c) (some (.int .i64 z)) none none).run Tryd.prog w = .ok (.slice (some ⟨b, o', none⟩) (n - k) (c - k)) w := by
  subst hz
  have hl : Tryd.prog.underlying tCos = some (.slice tCol) := by kernel_rfl
  have he : Tryd.prog.elem tCos = tCol := by simp [Program.elem, hl]
  refine ⟨if c = k then o else o + k * 3, fun h => by rw [if_neg (by omega)], fun W => ?_⟩
  have hs : (sizeOf tCol).run Tryd.prog W = .ok 3 W := by kernel_rfl
  rw [run_sliceAt_slice W _ _ _ _ _ (by rw [he]; exact hl), run_slice_l W tCos _ n c (by rw [he]; exact hl) .i64 k (by omega) (by omega), he, hs]
  simp only [Result.andThen, sliced, Int.toNat_natCast]
  by_cases h0 : c = k
  · rw [if_pos h0, if_pos (by omega)]
  · rw [if_neg h0, if_neg (by omega)]
    unfold Addr.add
    by_cases h1 : k = 0
    · subst h1; simp
    · simp; omega
theorem fb_cap {w : World} {S : Nat → Prop} {f : Fb} {x : Tb} (h : DtIn w S (tbDt x) (f.cells x)) : f.n3 ≤ f.a3 ∧ f.a3 ≤ maxLen := by
  obtain ⟨u1, u2, u3, e, g1, g2, g3⟩ := tb_in.1 h
  obtain ⟨A, c, e1, h1, h2, -⟩ := g1
  unfold Fb.cells at e
  simp only [List.cons.injEq] at e
  have e3 := e.2.2.2.1
  rw [e1] at e3
  injection e3 with _ e4 e5
  exact ⟨by omega, by omega⟩
/-- One column less. -/
def cut (x : Tb) (k : Nat) : Tb := { x with cols := x.cols.take k ++ x.cols.drop (k + 1) }
section
variable {x : Tb} {k : Nat}
theorem mem_cut {c : Co} (h : c ∈ (cut x k).cols) : c ∈ x.cols := by
  rcases List.mem_append.1 h with h | h
  · exact List.mem_of_mem_take h
  · exact List.mem_of_mem_drop h
theorem cut_len (hk : k < x.cols.length) : (cut x k).cols.length = x.cols.length - 1 := by
  show (x.cols.take k ++ x.cols.drop (k + 1)).length = _
  rw [List.length_append, List.length_take, List.length_drop]
  omega
theorem FwT.cut (h : FwT x) (k : Nat) (hk : k < x.cols.length) : FwT (cut x k) where
  sizes := ⟨by rw [cut_len hk]; have := h.sizes.1; omega, h.sizes.2⟩
  own := h.own
  cols := fun c hc => h.cols c (mem_cut hc)
  cons := h.cons
  idx := h.idx
structure ChkOk (x : Tb) : Prop where
  nam : namedB x = true
  num : numB x = true
  cnt : cntB x = true
  unl : repsB (unlL x) = false
  thr : thB x = true
  deep : x.cons.any deepB = false
  wrong : x.cons.any wrongB = false
theorem chk_ok (h : chkT x = 0) : ChkOk x := by
  unfold chkT chkB at h
  have key : ∀ q1 q2 q3 q4 q5 q6 q7 : Bool, (cond q1 (cond q2 (cond q3 (cond q4 19 (cond q5 (cond q6 17 (cond q7 2 0)) 4)) 3) 2) 18 : Int) = 0 → q1 = true ∧ q2 = true ∧ q3 = true ∧ q4 = false ∧ q5 = true ∧ q6 = false ∧ q7 = false := by
    intro q1 q2 q3 q4 q5 q6 q7
    cases q1 <;> cases q2 <;> cases q3 <;> cases q4 <;> cases q5 <;> cases q6 <;> cases q7 <;> simp
  obtain ⟨h1, h2, h3, h4, h5, h6, h7⟩ := key _ _ _ _ _ _ _ h
  exact ⟨h1, h2, h3, h4, h5, h6, h7⟩
theorem plOk_iff {cols : List Co} {l : List Bs} : plOk cols l ↔ ∀ s ∈ l, ∃ c ∈ cols, c.nm = s := by
  unfold plOk
  constructor
  · intro h s hs
    have h1 := h s hs
    refine Classical.byContradiction fun g => ?_
    rw [colI_no fun y hy e => g ⟨y, hy, e⟩] at h1
    omega
  · intro h s hs
    obtain ⟨c, hc, e⟩ := h s hs
    rcases pd_all cols cols.length rfl s with ⟨h1, h2⟩ | ⟨h1, _⟩
    · exfalso
      have := (pd_at cols cols.length rfl cols.length (Nat.le_refl _) s).2
      obtain ⟨j, hj, rfl⟩ := List.mem_iff_getElem.1 hc
      -- the least one of the name
      have hle : ∀ n, (∃ j, j < n ∧ nmAt cols j = s) → ∃ j, j < n ∧ nmAt cols j = s ∧ ∀ i, i < j → nmAt cols i ≠ s := by
        intro n
        induction n with
        | zero => rintro ⟨j, hj, _⟩; omega
        | succ n ih =>
          rintro ⟨j, hj, e⟩
          by_cases g : ∃ j, j < n ∧ nmAt cols j = s
          · obtain ⟨i, hi, e2, e3⟩ := ih g
            exact ⟨i, by omega, e2, e3⟩
          · have : j = n := by
              refine Classical.byContradiction fun q => g ⟨j, by omega, e⟩
            subst this
            exact ⟨j, hj, e, fun i hi e2 => g ⟨i, hi, e2⟩⟩
      obtain ⟨i, hi, e2, e3⟩ := hle cols.length ⟨j, hj, by rw [nmAt_is (List.getElem?_eq_getElem hj)]; exact e⟩
      have h5 := (this i (by omega) hi e2 fun q _ hq => e3 q hq).1
      rw [h5] at h2
      cases h2
    · exact h1
theorem nodup_of_rep {l : List Bs} (h : repB l = false) : l.Nodup := by
  unfold repB at h
  exact Classical.not_not.1 (of_decide_eq_false h)
theorem rep_of_nodup {l : List Bs} (h : l.Nodup) : repB l = false := by
  unfold repB
  exact decide_eq_false fun g => g h
/-- Of a table that may be, with one column less: it may be just if nothing used it. -/
theorem chk_cut (h : ChkOk x) (hk : k < x.cols.length) (h2 : 2 ≤ x.cols.length) {nm : Bs} (hnm : (x.cols.map (·.nm))[k]? = some nm) : chkT (cut x k) = cond (hasB nm (usesL x)) 4 0 := by
  have e1 : namedB (cut x k) = true := by
    have h1 := of_decide_eq_true (show decide (∀ s ∈ allT x, kindOf s = 1) = true from h.nam)
    refine decide_eq_true fun s hs => h1 s ?_
    unfold allT at hs ⊢
    simp only [List.mem_append] at hs ⊢
    rcases hs with hs | hs | hs
    · exact .inl hs
    · obtain ⟨c, hc, rfl⟩ := List.mem_map.1 hs
      exact .inr (.inl (List.mem_map.2 ⟨c, mem_cut hc, rfl⟩))
    · exact .inr (.inr hs)
  have e2 : numB (cut x k) = true := by
    have h1 := of_decide_eq_true (show decide (NumT x) = true from h.num)
    exact num_yes ⟨fun c hc => h1.cols c (mem_cut hc), h1.cons, h1.ver⟩
  have e3 : cntB (cut x k) = true := by
    have h1 := of_decide_eq_true (show decide (CntT x) = true from h.cnt)
    refine cnt_yes ⟨h1.cons, h1.idx, ?_⟩
    rw [cut_len hk]
    have := h1.sizes
    exact ⟨by omega, by omega, this.2.2⟩
  have hun := h.unl
  unfold repsB at hun
  rw [List.any_eq_false] at hun
  have hall : ∀ l ∈ unlL x, repB l = false := fun l hl => by simpa using hun l hl
  have hnd : (x.cols.map (·.nm)).Nodup := nodup_of_rep (hall _ (by unfold unlL; simp))
  have e4 : repsB (unlL (cut x k)) = false := by
    refine reps_not fun l hl => ?_
    unfold unlL at hl
    simp only [List.mem_append, List.mem_cons, List.not_mem_nil, or_false] at hl
    rcases hl with (hl | rfl | rfl) | hl
    · exact hall l (by unfold unlL; exact List.mem_append_left _ (List.mem_append_left _ hl))
    · refine rep_of_nodup ?_
      show ((x.cols.take k ++ x.cols.drop (k + 1)).map (·.nm)).Nodup
      have hsub : (x.cols.take k ++ x.cols.drop (k + 1)).Sublist x.cols := by
        have h1 : x.cols = x.cols.take k ++ x.cols.drop k := (List.take_append_drop k x.cols).symm
        conv => rhs; rw [h1]
        refine List.Sublist.append (List.Sublist.refl _) ?_
        rw [List.drop_eq_getElem_cons hk]
        exact List.sublist_cons_self _ _
      exact (hsub.map (·.nm)).nodup hnd
    · exact hall _ (by unfold unlL; simp [cut])
    · exact hall l (by unfold unlL; exact List.mem_append_right _ hl)
  have hth := of_decide_eq_true (show decide (∀ l ∈ usesL x, plOk x.cols l) = true from h.thr)
  obtain ⟨ck, hck, rfl⟩ : ∃ c, x.cols[k]? = some c ∧ c.nm = nm := by
    rw [List.getElem?_map] at hnm
    obtain ⟨c, hc, e⟩ := Option.map_eq_some_iff.1 hnm
    exact ⟨c, hc, e⟩
  have hkey : ∀ s, (∃ c ∈ (cut x k).cols, c.nm = s) ↔ (∃ c ∈ x.cols, c.nm = s) ∧ s ≠ ck.nm := by
    intro s
    have hsplit : x.cols = x.cols.take k ++ ck :: x.cols.drop (k + 1) := by
      obtain ⟨hk', rfl⟩ := List.getElem?_eq_some_iff.1 hck
      rw [← List.drop_eq_getElem_cons hk', List.take_append_drop]
    have hnd2 := hnd
    rw [hsplit, List.map_append, List.map_cons, List.nodup_append] at hnd2
    obtain ⟨n1, n2, n3⟩ := hnd2
    rw [List.nodup_cons] at n2
    constructor
    · rintro ⟨c, hc, rfl⟩
      refine ⟨⟨c, mem_cut hc, rfl⟩, fun e => ?_⟩
      rcases List.mem_append.1 hc with hc | hc
      · exact n3 _ (List.mem_map.2 ⟨c, hc, rfl⟩) _ (List.mem_cons_self ..) e
      · exact n2.1 (e ▸ List.mem_map.2 ⟨c, hc, rfl⟩)
    · rintro ⟨⟨c, hc, rfl⟩, hne⟩
      rw [hsplit] at hc
      rcases List.mem_append.1 hc with hc | hc
      · exact ⟨c, List.mem_append_left _ hc, rfl⟩
      · rcases List.mem_cons.1 hc with rfl | hc
        · exact absurd rfl hne
        · exact ⟨c, List.mem_append_right _ hc, rfl⟩
  have e5 : thB (cut x k) = !hasB ck.nm (usesL x) := by
    cases hq : hasB ck.nm (usesL x) with
    | true =>
      unfold hasB at hq
      obtain ⟨l, hl, hs⟩ := List.any_eq_true.1 hq
      refine decide_eq_false fun g => ?_
      have := plOk_iff.1 (g l hl) ck.nm (of_decide_eq_true hs)
      exact ((hkey _).1 this).2 rfl
    | false =>
      unfold hasB at hq
      rw [List.any_eq_false] at hq
      refine decide_eq_true fun l hl => plOk_iff.2 fun s hs => (hkey s).2 ⟨plOk_iff.1 (hth l hl) s hs, fun e => ?_⟩
      exact hq l hl (decide_eq_true (e ▸ hs))
  unfold chkT
  rw [e1, e2, e3, e4, e5]
  show chkB true true true false _ (x.cons.any deepB) (x.cons.any wrongB) = _
  rw [h.deep, h.wrong]
  cases hasB ck.nm (usesL x) <;> rfl
theorem ok_places (h : ChkOk x) {c : Cn} (hc : c ∈ x.cons) : plE x.cols c.cols = 0 := by
  have hth := of_decide_eq_true (show decide (∀ l ∈ usesL x, plOk x.cols l) = true from h.thr)
  exact (pl_yes (hth c.cols (by unfold usesL useC; exact List.mem_append_left _ (List.mem_flatMap.2 ⟨c, hc, List.mem_cons_self ..⟩)))).2
end
end Go.Proofs.YtcblddpapehdeaaDoor.Tk
