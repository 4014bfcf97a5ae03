import Derived.Test.YtlkmhdbmcfblkaaGreatDoorLexLongs
/- Tokens in memory: each lies in three cells; one more behind those that the call made. -/
namespace Go.Proofs.YtlkmhdbmcfblkaaGreatDoor.Lx
open Go.RowKit Go.Proofs.YtlkmhdbmcfblkaaGreatDoor.Mem Go.Proofs.YtlkmhdbmcfblkaaGreatDoor.Right
set_option linter.unusedVariables false

/-- A text, as the model has it. -/
def txt (l : List UInt8) : ByteArray := ⟨l.toArray⟩
def tcell (t : Tk) : List Value := [.int .i64 (t.kind : Int), .string (txt t.text), .int .i64 (t.at_ : Int)]
def tcells (ts : List Tk) : List Value := ts.flatMap tcell
theorem tcells_len : ∀ (ts : List Tk), (tcells ts).length = ts.length * 3
  | [] => rfl
  | t :: r => by
    have := tcells_len r
    unfold tcells at this ⊢
    rw [List.flatMap_cons, List.length_append, this, List.length_cons]
    show 3 + r.length * 3 = _
    omega
theorem tcells_snoc (ts : List Tk) (t : Tk) : tcells ts ++ tcell t = tcells (ts ++ [t]) := by simp [tcells]
theorem tcells_at : ∀ {ts : List Tk} {j : Nat} {t : Tk}, ts[j]? = some t → (tcells ts)[j * 3]? = some (.int .i64 (t.kind : Int)) ∧ (tcells ts)[j * 3 + 1]? = some (.string (txt t.text)) ∧ (tcells ts)[j * 3 + 2]? = some (.int .i64 (t.at_ : Int))
  | [], j, t, h => by simp at h
  | u :: r, 0, t, h => by
    simp at h; subst h
    exact ⟨rfl, rfl, rfl⟩
  | u :: r, j + 1, t, h => by
    rw [List.getElem?_cons_succ] at h
    have e : tcells (u :: r) = tcell u ++ tcells r := by simp [tcells]
    have hl : (tcell u).length = 3 := rfl
    have go : ∀ d, (tcells (u :: r))[(j + 1) * 3 + d]? = (tcells r)[j * 3 + d]? := fun d => by
      rw [e, List.getElem?_append_right (by rw [hl]; omega), hl]
      congr 1
      omega
    obtain ⟨h0, h1, h2⟩ := tcells_at h
    exact ⟨(go 0).trans h0, (go 1).trans h1, (go 2).trans h2⟩
theorem tcell_one (t : Tk) : ∀ u ∈ tcell t, u.oneCell' = true := by
  intro u hu
  simp [tcell] at hu
  rcases hu with rfl | rfl | rfl <;> rfl
/-- From A on the tokens can be read; they lie in a block below B. -/
def Toks (w : World) (B : Nat) (A : Option Addr) (ts : List Tk) : Prop :=
  ∀ j t, ts[j]? = some t → ∃ b o, A = some ⟨b, o, none⟩ ∧ b < B ∧ w.cell? ⟨b, o + j * 3, none⟩ = some (.int .i64 (t.kind : Int)) ∧ w.cell? ⟨b, o + j * 3 + 1, none⟩ = some (.string (txt t.text)) ∧ w.cell? ⟨b, o + j * 3 + 2, none⟩ = some (.int .i64 (t.at_ : Int))
theorem Toks.none_ {w : World} {B : Nat} {A : Option Addr} : Toks w B A [] := fun k u h => by simp at h
theorem Toks.below {w w' : World} {B B' : Nat} {A : Option Addr} {ts : List Tk} (h : Toks w B A ts) (hb : Below B' w w') (hB : B ≤ B') : Toks w' B A ts := fun j t hj => by
  obtain ⟨b, o, e, h0, c0, c1, c2⟩ := h j t hj
  have hk : ∀ p : Addr, p.block < B → w'.cell? p = w.cell? p := fun p hp => hb.cell (by omega)
  exact ⟨b, o, e, h0, (hk _ h0).trans c0, (hk _ h0).trans c1, (hk _ h0).trans c2⟩
theorem toks_of_row {w : World} {B : Nat} {A : Option Addr} {ts : List Tk} (h : Row w B A (tcells ts)) : Toks w B A ts := fun j t hj => by
  obtain ⟨h0, h1, h2⟩ := tcells_at hj
  obtain ⟨b, o, e, hb, c0⟩ := h _ _ h0
  have again : ∀ d v, (tcells ts)[j * 3 + d]? = some v → w.cell? ⟨b, o + (j * 3 + d), none⟩ = some v := fun d v hv => by
    obtain ⟨b', o', e', _, c⟩ := h _ _ hv
    rw [e] at e'
    injection e' with e'
    injection e' with f1 f2
    subst f1 f2
    exact c
  exact ⟨b, o, e, hb, c0, by rw [Nat.add_assoc]; exact again 1 _ h1, by rw [Nat.add_assoc]; exact again 2 _ h2⟩
/-- What the call made can be read. -/
theorem toks_own {w : World} {base : Nat} {e : TypeId} {v : Value} {n : Nat} {ts : List Tk} (h : w.ownsRow base e 3 v n (tcells ts)) : ∃ A c, v = .slice A n c ∧ Toks w w.heap.size A ts ∧ n = ts.length := by
  have hn : n = ts.length := by
    have := h.1
    rw [tcells_len] at this; omega
  rcases h.2 with ⟨rfl, rfl⟩ | ⟨g, cap, cur, rfl, _⟩
  · exact ⟨none, 0, rfl, toks_of_row (Row.own3 h), hn⟩
  · exact ⟨_, cap, rfl, toks_of_row (Row.own3 h), hn⟩
/-- One token behind a list of the call's own. -/
theorem wp_tok {P : Program} {w0 : World} {x : Tk} {ops : Array Oper} {rest : List Oper} {o : Oper} {a : Act} {Q : Exit → Act → World → Prop} {t e : TypeId} {bytes g : Nat} (E : ElemN P t e 3 bytes) (base : Nat) (hg : w0.heap.size = g) (s y : Operand)
    (hgd : o.guard = none) (ho : o.op = .call { callee := .builtin .append, args := #[s, y], argTypes := #[t, t] })
    {v : Value} {n : Nat} {ts : List Tk} (hs : a.eval s = v) (hown : w0.ownsRow base e 3 v n (tcells ts)) (hy : a.eval y = .slice (some ⟨g, 0, none⟩) 1 1)
    (hn : n < 9223372036854775807) (hby : (n + 1) * bytes ≤ 140737488355328) (hB : base ≤ w0.heap.size)
    (h : ∀ v' w', w'.ownsRow base e 3 v' (n + 1) (tcells (ts ++ [x])) → (w0.alloc (.cells #[.int .i64 (x.kind : Int), .string (txt x.text), .int .i64 (x.at_ : Int)] e)).grownBy w' v.ownBlock → wpList P ops Q rest (a.put o.dst v') w') :
    wpList P ops Q (o :: rest) a (w0.alloc (.cells #[.int .i64 (x.kind : Int), .string (txt x.text), .int .i64 (x.at_ : Int)] e)) := by
  subst hg
  obtain ⟨i, z, ht, hi, hz, hz1, hz2, hzc, hpos⟩ := E
  refine wpList_append_own_at _ hgd s y t ho base e i z 3 bytes ht hi hz hz1 hz2 hzc hpos v n (tcells ts) hs (hown.alloc _) ⟨w0.heap.size, 0, none⟩ 1 1 (tcell x) hy rfl ?_ (tcell_one x) (by unfold maxLen; omega) hby (by simp; omega) ?_
  · intro j u hu
    have e2 : (⟨w0.heap.size, 0, none⟩ : Addr).add j = ⟨w0.heap.size, j, none⟩ := by unfold Addr.add; split <;> simp_all
    rw [e2, World.cell?_alloc_at _ _ _ _ (by simp)]
    simpa [tcell] using hu
  · intro v' w' h1 h2 _ _
    rw [tcells_snoc] at h1
    exact h v' w' h1 h2
theorem elem_tok : ElemN Tryz.prog 22 26 3 32 := ElemN.of (z := .agg #[.int .i64 0, .string ByteArray.empty, .int .i64 0]) Tryz.underlying22 (by kernel_rfl) rfl (by decide)

/-! ### What is left to be cut, behind the tokens that are out -/
/-- What lex.Tokens answers. -/
def toksV (l : List UInt8) : List Tk × Nat × Nat := if 400 < l.length then ([], 0, 3) else cut l 0 0
def fin (done : List Tk) (r : List Tk × Nat × Nat) : List Tk × Nat × Nat := if r.2.2 = 0 then (done ++ r.1, r.2) else r
theorem fin_nil (r : List Tk × Nat × Nat) : fin [] r = r := by unfold fin; split <;> rfl
theorem fin_err (done : List Tk) (p e : Nat) (he : e ≠ 0) : fin done ([], p, e) = ([], p, e) := if_neg he
theorem fin_snoc (done : List Tk) (t : Tk) (r : List Tk × Nat × Nat) : fin (done ++ [t]) r = fin done (if r.2.2 = 0 then (t :: r.1, r.2) else r) := by
  unfold fin
  by_cases h : r.2.2 = 0
  · rw [if_pos h, if_pos h, if_pos (show (t :: r.1, r.2).2.2 = 0 from h), List.append_assoc]; rfl
  · rw [if_neg h, if_neg h, if_neg h]
section
variable {l : List UInt8} {a : Nat} {done : List Tk} {R : List Tk × Nat × Nat}
/-- So many bytes are cut, so many tokens out. -/
def Left (l : List UInt8) (R : List Tk × Nat × Nat) (a : Nat) (done : List Tk) : Prop := fin done (cut (l.drop a) a done.length) = R
theorem Left.start : Left l (cut l 0 0) 0 [] := fin_nil _
variable (h : Left l R a done) {g : Nat} (hg : run blank (l.drop a) = g)
include h hg
theorem Left.word (hb : bad (l.drop (a + g)) = true) : R = ([], a + g, 15) := by
  unfold Left at h
  have hu : (l.drop a).drop (run blank (l.drop a)) = l.drop (a + g) := by rw [List.drop_drop, hg]
  have hne : l.drop (a + g) ≠ [] := fun e => by rw [e] at hb; cases hb
  rw [cut_none hu hne (by rw [next_bad hne, if_pos hb]), hg] at h
  exact h.symm
theorem Left.full (hb : bad (l.drop (a + g)) = false) (hn : done.length = 120) : R = ([], a + g, 5) := by
  unfold Left at h
  have hu : (l.drop a).drop (run blank (l.drop a)) = l.drop (a + g) := by rw [List.drop_drop, hg]
  rw [hn] at h
  by_cases hne : l.drop (a + g) = []
  · rw [cut_end (hu.trans hne), if_pos rfl, hg] at h
    exact h.symm
  · rw [cut_full hu (by rw [next_bad hne, hb]; rfl), hg] at h
    exact h.symm
theorem Left.ends (hk : (lng (l.drop (a + g))).1 = 7) (hb : bad (l.drop (a + g)) = false) (hn : done.length ≠ 120) : (lng (l.drop (a + g))).2 = 0 ∧ R = (done ++ [⟨7, [], a + g⟩], 0, 0) := by
  unfold Left at h
  have hu : (l.drop a).drop (run blank (l.drop a)) = l.drop (a + g) := by rw [List.drop_drop, hg]
  by_cases hne : l.drop (a + g) = []
  · rw [cut_end (hu.trans hne), if_neg hn, hg] at h
    rw [hne]
    exact ⟨rfl, h.symm⟩
  · have := next_kind (k := (lng (l.drop (a + g))).1) (n := (lng (l.drop (a + g))).2) (s := l.drop (a + g)) (by rw [next_bad hne, hb]; rfl)
    omega
theorem Left.more {k n : Nat} (hk : lng (l.drop (a + g)) = (k, n)) (hk7 : k ≠ 7) (hb : bad (l.drop (a + g)) = false) (hn : done.length ≠ 120) : 0 < n ∧ Left l R (a + g + n) (done ++ [⟨k, (l.drop (a + g)).take n, a + g⟩]) := by
  unfold Left at h ⊢
  have hu : (l.drop a).drop (run blank (l.drop a)) = l.drop (a + g) := by rw [List.drop_drop, hg]
  have hne : l.drop (a + g) ≠ [] := fun e => by
    rw [e] at hk
    have : (7, 0) = (k, n) := hk
    injection this with h1 _
    exact hk7 h1.symm
  have hx : next (l.drop (a + g)) = some (k, n) := by rw [next_bad hne, hb, hk]; rfl
  rw [cut_some hu hx hn, hg, ← fin_snoc, List.drop_drop] at h
  refine ⟨(next_le hx).1, ?_⟩
  rw [List.length_append]
  exact h
end
end Go.Proofs.YtlkmhdbmcfblkaaGreatDoor.Lx
/- What lex.Tokens answers. -/
namespace Go.Proofs.YtlkmhdbmcfblkaaGreatDoor.Lx
open Go.RowKit Go.Proofs.YtlkmhdbmcfblkaaGreatDoor.Mem Go.Proofs.YtlkmhdbmcfblkaaGreatDoor.Right
set_option linter.unusedVariables false

theorem extract_txt (s : ByteArray) (a b : Nat) : s.extract a b = txt ((s.data.toList.drop a).take (b - a)) := l_inj (by rw [Lib.extract_data]; simp [txt])
theorem txt_data (l : List UInt8) : (txt l).data.toList = l := rfl
theorem txt_size (l : List UInt8) : (txt l).size = l.length := by simp [txt, ByteArray.size]
theorem txt_list (l : List UInt8) : (txt l).toList = l := by rw [Lib.toList_data]; rfl
theorem drop_all (s : ByteArray) (a : Nat) : (s.extract a s.size).data.toList = s.data.toList.drop a := by
  rw [Lib.extract_data, List.take_of_length_le (by rw [List.length_drop, Array.length_toList]; exact Nat.le_refl _)]
theorem ends3 {v : Value} {p e p' e' : Nat} {R : List Tk × Nat × Nat} (h : R.2 = (p, e)) : Ending.returned (.tuple #[v, .int .i64 (p : Int), .int .i64 (e : Int)]) = .returned (.tuple #[v, .int .i64 (R.2.1 : Int), .int .i64 (R.2.2 : Int)]) := by rw [h]
theorem lng_le (s : List UInt8) : (lng s).2 ≤ s.length := by
  cases s with
  | nil => exact Nat.le_refl _
  | cons c t =>
    have ho : ∀ k n, n ≤ t.length + 1 → (orN k n).2 ≤ t.length + 1 := fun k n h => by unfold orN; split <;> simp [h]
    have hr : ∀ p m, min (1 + run p t) m ≤ t.length + 1 := fun p m => by have := run_le p t; omega
    rw [List.length_cons]
    simp only [lng]
    split
    · exact hr _ _
    split
    · exact hr _ _
    split
    · exact Nat.le_add_left _ _
    split
    · exact hr _ _
    split
    · refine ho _ _ ?_
      unfold qs
      split
      · rename_i n hq; have := quo_le t n hq; omega
      · omega
    split
    · refine ho _ _ ?_
      cases t with
      | nil => simp [ps]
      | cons d r => simp only [ps]; split <;> simp
    · refine ho _ _ ?_
      cases t with
      | nil => simp only [sgn]; split <;> simp
      | cons d r => simp only [sgn]; split <;> (try split) <;> simp
set_option maxHeartbeats 2000000 in
theorem tokens_any (s : ByteArray) (hs : s.size ≤ 1000000) (w : World) (h : Signs w) (R : List Tk × Nat × Nat) (hR : toksV s.data.toList = R) :
    Calls Tryz.prog 35 #[.string s] w fun e w' => ∃ A n c, e = .returned (.tuple #[.slice A n c, .int .i64 (R.2.1 : Int), .int .i64 (R.2.2 : Int)]) ∧ n = R.1.length ∧ Toks w' w'.heap.size A R.1 ∧ Below w.heap.size w w' := by
  have hll : s.data.toList.length = s.size := by rw [Array.length_toList]; rfl
  unfold toksV at hR
  rw [hll] at hR
  by_cases hlong : 400 < s.size
  · rw [if_pos hlong] at hR
    subst hR
    have t0 : decide (400 < (s.size : Int)) = true := decide_eq_true (by omega)
    go_enter Tryz.func35, Tryz.ntmps35
    go_wp2
    go_ret3
    exact ⟨none, 0, 0, rfl, rfl, Toks.none_, Below.refl _ _⟩
  rw [if_neg hlong] at hR
  have t0 : decide (400 < (s.size : Int)) = false := decide_eq_false (by omega)
  have HS0 : ∀ W, Below w.heap.size w W → Signs W := fun W hW => h.below hW h.lt
  have HS := Lib.hid HS0
  have HR := Lib.hid (show Left s.data.toList R 0 [] from hR ▸ Left.start)
  have HB0 := Lib.hid (Below.refl w.heap.size w)
  have HO0 := Lib.hid (World.ownsRow_nil w w.heap.size 26 3)
  clear h HS0 hR hll
  go_enter Tryz.func35, Tryz.ntmps35
  go_wp2
  go_loopw [5, 6] (fun l i wr => ∃ (done : List Tk) (A : Option Addr) (n c a : Nat), l = .slice A n c ∧ i = .int .i64 (a : Int) ∧ n ≤ 120 ∧ a ≤ s.size ∧ Hid (n = done.length) ∧ Hid (Left s.data.toList R a done) ∧ Hid (wr.ownsRow w.heap.size 26 3 (.slice A n c) n (tcells done)) ∧ Hid (Below w.heap.size w wr)) (fun _ i _ => s.size + 1 - (intOf i).toNat)
  case atStart => exact ⟨[], none, 0, 0, 0, rfl, rfl, Nat.zero_le _, Nat.zero_le _, Lib.hid rfl, HR, HO0, HB0⟩
  case round =>
    obtain ⟨done, A, n, c, a, rfl, rfl, hn, ha, HN, HL, HO, HB⟩ := hrel
    obtain ⟨g, hg⟩ : ∃ g, run blank (s.data.toList.drop a) = g := ⟨_, rfl⟩
    have hgl : a + g ≤ s.size := by
      have := run_le blank (s.data.toList.drop a)
      rw [hg, List.length_drop, Array.length_toList] at this
      have e : s.data.size = s.size := rfl
      omega
    obtain ⟨a2, ha2⟩ : ∃ a2, a + g = a2 := ⟨_, rfl⟩
    obtain ⟨k, z, hkz⟩ : ∃ k z, lng (s.data.toList.drop a2) = (k, z) := ⟨_, _, rfl⟩
    have hz : z ≤ s.size - a2 := by
      have := lng_le (s.data.toList.drop a2)
      rw [hkz, List.length_drop, Array.length_toList] at this
      exact this
    obtain ⟨a3, ha3⟩ : ∃ a3, a2 + z = a3 := ⟨_, rfl⟩
    have e2 : (a : Int) + (g : Int) = (a2 : Int) := by omega
    have e3 : (a2 : Int) + (z : Int) = (a3 : Int) := by omega
    have hk7 : k ≤ 7 := by have := lng_kind (s.data.toList.drop a2); rw [hkz] at this; exact this
    have CG : ∀ W, Calls Tryz.prog 53 #[.string (s.extract a s.size)] W fun e w' => e = .returned (.int .i64 (g : Int)) ∧ W = w' := fun W => by
      have := gap_any (s.extract a s.size) (by rw [ByteArray.size_extract]; omega) W
      rw [drop_all, hg] at this
      exact this
    have CL : ∀ W, Below w.heap.size w W → Calls Tryz.prog 54 #[.string (s.extract a2 s.size)] W fun e w' => e = .returned (.tuple #[.int .i64 (k : Int), .int .i64 (z : Int)]) ∧ W = w' := fun W hW => by
      have := longest_any (s.extract a2 s.size) (by rw [ByteArray.size_extract]; omega) W (HS.out W hW)
      rw [drop_all, hkz] at this
      exact this
    have CR : ∀ W, Calls Tryz.prog 55 #[.int .i64 (k : Int), .string (s.extract a3 s.size)] W fun e w' => e = .returned (.bool (on k (s.data.toList.drop a3))) ∧ W = w' := fun W => by
      have := runsOn_any k hk7 (s.extract a3 s.size) (by rw [ByteArray.size_extract]; omega) W
      rw [drop_all] at this
      exact this
    have hbad : bad (s.data.toList.drop a2) = (decide (k = 0) || on k (s.data.toList.drop a3)) := by
      unfold bad
      rw [hkz, List.drop_drop, ha3]
    have CG := Lib.hid CG
    have CL := Lib.hid CL
    have CR := Lib.hid CR
    have HG := Lib.hid hg
    have H2 := Lib.hid ha2
    have H3 := Lib.hid ha3
    have HK := Lib.hid hkz
    have ha2s : a2 ≤ s.size := by omega
    have ha3s : a3 ≤ s.size := by omega
    have ha23 : a2 ≤ a3 := by omega
    clear hg hkz ha2 ha3 hz hgl
    by_cases k0 : k = 0
    · have HW := Lib.hid (HL.out.word HG.out (by rw [H2.out, hbad, decide_eq_true k0]; rfl))
      subst k0
      clear hbad
      go_wp2_with (first | (go_at_call 53; refine (CG.out _).mono ?_; rintro e w' ⟨rfl, rfl⟩) | (go_at_call 54; refine (CL.out _ HB.out).mono ?_; rintro e w' ⟨rfl, rfl⟩) | (go_at_call 55; refine (CR.out _).mono ?_; rintro e w' ⟨rfl, rfl⟩))
      go_ret3
      rw [HW.out]
      exact ⟨none, 0, 0, by rw [H2.out]; rfl, rfl, Toks.none_, HB.out⟩
    have tk0 : ((k : Int) == 0) = false := beq_no (by omega)
    rw [decide_eq_false k0, Bool.false_or] at hbad
    cases hon : on k (s.data.toList.drop a3) with
    | true =>
      have HW := Lib.hid (HL.out.word HG.out (by rw [H2.out, hbad, hon]))
      clear hbad k0
      go_wp2_with (first | (go_at_call 53; refine (CG.out _).mono ?_; rintro e w' ⟨rfl, rfl⟩) | (go_at_call 54; refine (CL.out _ HB.out).mono ?_; rintro e w' ⟨rfl, rfl⟩) | (go_at_call 55; refine (CR.out _).mono ?_; rintro e w' ⟨rfl, rfl⟩))
      go_ret3
      rw [HW.out]
      exact ⟨none, 0, 0, by rw [H2.out]; rfl, rfl, Toks.none_, HB.out⟩
    | false =>
      have HBD := Lib.hid (show bad (s.data.toList.drop (a + g)) = false by rw [H2.out, hbad, hon])
      clear hbad k0
      by_cases hn120 : n = 120
      · have HW := Lib.hid (HL.out.full HG.out HBD.out (by rw [← HN.out]; exact hn120))
        subst hn120
        go_wp2_with (first | (go_at_call 53; refine (CG.out _).mono ?_; rintro e w' ⟨rfl, rfl⟩) | (go_at_call 54; refine (CL.out _ HB.out).mono ?_; rintro e w' ⟨rfl, rfl⟩) | (go_at_call 55; refine (CR.out _).mono ?_; rintro e w' ⟨rfl, rfl⟩))
        go_ret3
        rw [HW.out]
        exact ⟨none, 0, 0, by rw [H2.out]; rfl, rfl, Toks.none_, HB.out⟩
      have tn : ((n : Int) == 120) = false := beq_no (by omega)
      have hx : s.extract a2 a3 = txt ((s.data.toList.drop a2).take z) := by rw [extract_txt]; congr 2; have := H3.out; omega
      by_cases hk : k = 7
      · have HE := Lib.hid (HL.out.ends HG.out (by rw [H2.out, HK.out]; exact hk) HBD.out (by rw [← HN.out]; exact hn120))
        clear hn120
        subst hk
        go_wp2_with (first | (go_at_call 53; refine (CG.out _).mono ?_; rintro e w' ⟨rfl, rfl⟩) | (go_at_call 54; refine (CL.out _ HB.out).mono ?_; rintro e w' ⟨rfl, rfl⟩) | (go_at_call 55; refine (CR.out _).mono ?_; rintro e w' ⟨rfl, rfl⟩) | (at_builtin; refine wp_tok (x := ⟨7, (s.data.toList.drop a2).take z, a2⟩) elem_tok w.heap.size rfl (.tmp 43) (.tmp 53) rfl rfl rfl HO.out rfl (by omega) (by omega) HB.out.size ?_; intro v' w2 ho2 hg2; have HO2 := Lib.hid ho2; have HB2 := Lib.hid ((al HB.out (.cells #[.int .i64 ((7 : Nat) : Int), .string (txt ((s.data.toList.drop a2).take z)), .int .i64 (a2 : Int)] 26)).grown hg2 (by have := HB.out.size; simp; omega) (fun j hj => (HO.out.lt j hj).1)); clear ho2 hg2))
        go_ret3
        obtain ⟨A', c', rfl, ht, hl⟩ := toks_own HO2.out
        have hz0 : z = 0 := by
          have := HE.out.1
          rw [H2.out, HK.out] at this
          exact this
        subst hz0
        rw [HE.out.2, H2.out]
        exact ⟨A', n + 1, c', rfl, by rw [hl]; rfl, ht, HB2.out⟩
      · have HM := Lib.hid (HL.out.more HG.out (by rw [H2.out]; exact HK.out) hk HBD.out (by rw [← HN.out]; exact hn120))
        have tk7 : ((k : Int) == 7) = false := beq_no (by omega)
        have hn1 : n + 1 ≤ 120 := by omega
        clear hn120 hk
        go_wp2_with (first | (go_at_call 53; refine (CG.out _).mono ?_; rintro e w' ⟨rfl, rfl⟩) | (go_at_call 54; refine (CL.out _ HB.out).mono ?_; rintro e w' ⟨rfl, rfl⟩) | (go_at_call 55; refine (CR.out _).mono ?_; rintro e w' ⟨rfl, rfl⟩) | (at_builtin; refine wp_tok (x := ⟨k, (s.data.toList.drop a2).take z, a2⟩) elem_tok w.heap.size rfl (.tmp 43) (.tmp 53) rfl rfl rfl HO.out rfl (by omega) (by omega) HB.out.size ?_; intro v' w2 ho2 hg2; have HO2 := Lib.hid ho2; have HB2 := Lib.hid ((al HB.out (.cells #[.int .i64 (k : Int), .string (txt ((s.data.toList.drop a2).take z)), .int .i64 (a2 : Int)] 26)).grown hg2 (by have := HB.out.size; simp; omega) (fun j hj => (HO.out.lt j hj).1)); clear ho2 hg2))
        obtain ⟨A', c', rfl, _, _⟩ := toks_own HO2.out
        go_roundw
        case rel =>
          refine ⟨done ++ [⟨k, (s.data.toList.drop a2).take z, a2⟩], A', n + 1, c', a3, rfl, rfl, hn1, ha3s, Lib.hid (by rw [List.length_append, HN.out]; rfl), Lib.hid ?_, HO2, HB2⟩
          have := HM.out.2
          rw [H2.out, H3.out] at this
          exact this
        case measure =>
          have h1 := HM.out.1
          have h2 := H2.out
          have h3 := H3.out
          simp [intOf]; omega
end Go.Proofs.YtlkmhdbmcfblkaaGreatDoor.Lx
