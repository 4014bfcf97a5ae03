/- What has a type comes to a value of that type, or to nothing, or can't be told as a number -/
import Derived.Test.YtciclpbbegkpcaaDoorKl02
namespace Go.Proofs.YtciclpbbegkpcaaDoor.Ev
open Go.Proofs.YtciclpbbegkpcaaDoor.Ep
set_option linter.unusedVariables false
/-- Values of these types, or nothing. -/
def Fit (ts : List Int) (vs : List Vv) : Prop := vs.length = ts.length ∧ ∀ (i : Nat) (v : Vv), vs[i]? = some v → v.k = ts.getD i 0 ∨ v.k = 0
def kindOk (k : Int) : Prop := 0 ≤ k ∧ k ≤ 3
/-- A value of the type, or nothing; or one of two errors. -/
def Snd (t : Int) (r : Vv × Int) : Prop := (r.2 = 0 ∧ (r.1.k = t ∨ r.1.k = 0) ∧ kindOk r.1.k) ∨ r.2 = 10 ∨ r.2 = 3
theorem nul_kind : kindOk nul.k := ⟨by decide, by decide⟩
theorem Snd.non {t : Int} : Snd t (nul, 0) := .inl ⟨rfl, .inr rfl, nul_kind⟩
theorem Snd.val {t n : Int} {s : List UInt8} (h : kindOk t) : Snd t (⟨t, n, s⟩, 0) := .inl ⟨rfl, .inl rfl, h⟩
theorem Snd.tr (t : Int) : Snd 2 (trV t, 0) := by
  unfold trV
  split
  · exact Snd.val ⟨by decide, by decide⟩
  · exact Snd.non
theorem re_is (n : Int) : Num.re n = 0 ∨ Num.re n = 10 := by unfold Num.re; split <;> simp
theorem oe_is (a b : Int) : Num.oe a b = 0 ∨ Num.oe a b = 10 := by unfold Num.oe; split <;> simp
theorem Snd.num {n e : Int} (h : e = 0 ∨ e = 10) : Snd 1 (numV n e) := by
  unfold numV
  rcases h with rfl | rfl
  · rw [if_pos rfl]; exact Snd.val ⟨by decide, by decide⟩
  · rw [if_neg (by decide)]; exact .inr (.inl rfl)
theorem Snd.mathN (o a b : Int) : Snd 1 (mathN o a b) := by
  unfold Ev.mathN
  split
  · exact Snd.num (re_is _)
  split
  · exact Snd.num (re_is _)
  split
  · exact Snd.num (re_is _)
  split
  · exact Snd.num (oe_is _ _)
  · exact Snd.num (oe_is _ _)
/-- An error goes on. -/
theorem Snd.err {t u : Int} {r : Vv × Int} (h : Snd u r) (he : r.2 ≠ 0) : Snd t (nul, r.2) := by
  rcases h with h | h | h
  · exact absurd h.1 he
  · exact .inr (.inl h)
  · exact .inr (.inr h)
theorem Snd.ok {t : Int} {r : Vv × Int} (h : Snd t r) (he : ¬ r.2 ≠ 0) : (r.1.k = t ∨ r.1.k = 0) ∧ kindOk r.1.k := by
  have he : r.2 = 0 := Classical.byContradiction he
  rcases h with h | h | h
  · exact h.2
  · omega
  · omega
theorem allB_cons {x t : Int} {l : List Int} (h : allB (x :: l) t = true) : (x = 0 ∨ x = t) ∧ allB l t = true := by
  unfold allB at h ⊢
  rw [List.all_cons, Bool.and_eq_true] at h
  refine ⟨?_, h.2⟩
  simpa using h.1
theorem ofV_ok {v : Vv} (h : v.k = 2 ∨ v.k = 0) : ¬ (ofV v).2 ≠ 0 := by
  unfold ofV
  rcases h with h | h <;> simp [h]
  split <;> simp
section
variable {ord : Int → Vv → Vv → Bool} {cols params : List Int} {row prs : List Vv}
/-- Two that agree are held against one another. -/
theorem cmp_ok {o : Int} {a b : Vv} (ha : kindOk a.k) (hb : kindOk b.k) (h : a.k = 0 ∨ b.k = 0 ∨ a.k = b.k) : ¬ (cmpV ord o a b).2 ≠ 0 := by
  unfold cmpV kindOk at *
  rw [if_neg (by omega)]
  split
  · simp
  · rename_i h0
    rw [if_neg (by omega)]
    split <;> simp
section
variable {o : Int} {nm : List UInt8} {a b il cl : Vv × Int}
theorem comb_err {k : Int} (h : a.2 ≠ 0) : comb ord k o nm a b il cl = (nul, a.2) := by unfold comb; rw [if_pos h]
theorem comb_un (h : ¬ a.2 ≠ 0) : comb ord 4 o nm a b il cl = one o a.1 := by unfold comb; rw [if_neg h, if_pos rfl]
theorem comb_in (h : ¬ a.2 ≠ 0) : comb ord 6 o nm a b il cl = if a.1.k = 0 then (nul, 0) else il := by unfold comb; rw [if_neg h, if_neg (by decide), if_pos rfl]
theorem comb_co (h : ¬ a.2 ≠ 0) : comb ord 7 o nCoal a b il cl = cl := by unfold comb; rw [if_neg h, if_neg (by decide), if_neg (by decide), if_pos ⟨rfl, rfl⟩]
theorem comb_call (h : ¬ a.2 ≠ 0) (hn : nm ≠ nCoal) : comb ord 7 o nm a b il cl = callV nm a.1 := by unfold comb; rw [if_neg h, if_neg (by decide), if_neg (by decide), if_neg (fun g => hn g.2), if_pos rfl]
theorem comb_and (h : ¬ a.2 ≠ 0) (ho : o ≤ 2) : comb ord 5 o nm a b il cl = (if (ofV a.1).2 ≠ 0 then (nul, (ofV a.1).2)
    else if (o = 2 ∧ (ofV a.1).1 = 0) ∨ (o = 1 ∧ (ofV a.1).1 = 1) then (trV (ofV a.1).1, 0)
    else if b.2 ≠ 0 then (nul, b.2)
    else if (ofV b.1).2 ≠ 0 then (nul, (ofV b.1).2)
    else (trV (if o = 2 then andT (ofV a.1).1 (ofV b.1).1 else orT (ofV a.1).1 (ofV b.1).1), 0)) := by
  unfold comb
  rw [if_neg h, if_neg (by decide), if_neg (by decide), if_neg (fun g => absurd g.1 (by decide)), if_neg (by decide), if_pos ho]
theorem comb_two (h : ¬ a.2 ≠ 0) (ho : ¬ o ≤ 2) : comb ord 5 o nm a b il cl = (if b.2 ≠ 0 then (nul, b.2)
  else if 8 < o then mathV o a.1 b.1
  else if (cmpV ord o a.1 b.1).2 ≠ 0 then (nul, (cmpV ord o a.1 b.1).2) else (trV (cmpV ord o a.1 b.1).1, 0)) := by
  unfold comb
  rw [if_neg h, if_neg (by decide), if_neg (by decide), if_neg (fun g => absurd g.1 (by decide)), if_neg (by decide), if_neg ho]
end
theorem findL_cons {x : Ex} {r : List Ex} {l : List Int} (h : findL cols params (x :: r) = .ok l) : ∃ t l', find cols params x = (t, 0) ∧ findL cols params r = .ok l' ∧ l = t :: l' := by
  rw [findL] at h
  split at h
  · cases h
  · rename_i h0
    split at h
    · cases h
    · rename_i l' e
      injection h with h
      exact ⟨_, l', Prod.ext rfl (Classical.byContradiction h0), e, h.symm⟩
theorem findL_nil {l : List Int} (h : findL cols params [] = .ok l) : l = [] := by
  rw [findL] at h
  injection h with h
  exact h.symm
theorem find_made {k o vk vn t : Int} {vs nm : List UInt8} {kids : List Ex} (h1 : k ≠ 1) (h2 : k ≠ 2) (h3 : k ≠ 3) (h8 : k ≠ 8) (h : find cols params (.mk k o vk vn vs nm kids) = (t, 0)) : ∃ l, findL cols params kids = .ok l ∧ made k o nm l = t ∧ 0 ≤ t := by
  rw [find, if_neg h1, if_neg h2, if_neg h3, if_neg h8] at h
  split at h
  · rename_i f hf
    injection h with _ h
    exact absurd h (findL_err hf)
  · rename_i l hl
    split at h
    · injection h with _ h; cases h
    · rename_i h0
      injection h with h _
      exact ⟨l, hl, h, by omega⟩
/-- What is said of an expression. -/
def Good1 (ord : Int → Vv → Vv → Bool) (cols params : List Int) (row prs : List Vv) (e : Ex) : Prop := ∀ t, find cols params e = (t, 0) → kindOk t ∧ Snd t (come ord row prs e)
theorem inL_ok {ta : Int} {a : Vv} (ha : a.k = ta) (hk : kindOk a.k) : ∀ (l : List Ex) (tl : List Int) (out : Int), (∀ x ∈ l, Good1 ord cols params row prs x) → findL cols params l = .ok tl → allB tl ta = true → Snd 2 (inL ord row prs a out l)
  | [], _, out, _, _, _ => by rw [inL]; exact Snd.tr _
  | b :: r, tl, out, hx, hf, hall => by
    obtain ⟨t, tl', h1, h2, rfl⟩ := findL_cons hf
    obtain ⟨c1, c2⟩ := allB_cons hall
    obtain ⟨_, hs⟩ := hx b (by simp) t h1
    rw [inL]
    split
    · rename_i he; exact hs.err he
    · rename_i he
      obtain ⟨k1, k2⟩ := hs.ok he
      rw [if_neg (cmp_ok hk k2 (by omega))]
      split
      · exact Snd.tr _
      · exact inL_ok ha hk r tl' _ (fun x h => hx x (List.mem_cons_of_mem _ h)) h2 c2
theorem coL_ok {f : Int} : ∀ (l : List Ex) (tl : List Int) (a : Vv), (∀ x ∈ l, Good1 ord cols params row prs x) → findL cols params l = .ok tl → allB tl f = true → (a.k = f ∨ a.k = 0) → kindOk a.k → Snd f (coL ord row prs a l)
  | [], _, a, _, _, _, ha, hk => by
    rw [coL]
    split
    · exact Snd.non
    · exact .inl ⟨rfl, ha, hk⟩
  | b :: r, tl, a, hx, hf, hall, ha, hk => by
    obtain ⟨t, tl', h1, h2, rfl⟩ := findL_cons hf
    obtain ⟨c1, c2⟩ := allB_cons hall
    obtain ⟨_, hs⟩ := hx b (by simp) t h1
    rw [coL]
    split
    · exact .inl ⟨rfl, ha, hk⟩
    split
    · rename_i he; exact hs.err he
    · rename_i he
      obtain ⟨k1, k2⟩ := hs.ok he
      exact coL_ok r tl' _ (fun x h => hx x (List.mem_cons_of_mem _ h)) h2 c2 (by omega) k2
theorem ty_ok {ts : List Int} {vs : List Vv} (h : Fit ts vs) {a t : Int} (h0 : 0 ≤ a) (ht : tyAt ts a = (t, 0)) : kindOk t ∧ Snd t (valAt vs a) := by
  unfold tyAt at ht
  split at ht
  · injection ht with _ ht; cases ht
  rename_i h1
  split at ht
  · injection ht with _ ht; cases ht
  rename_i h2
  injection ht with ht _
  have hl := h.1
  have hlt : a.toNat < vs.length := by omega
  have hk : kindOk t := by unfold kindOk; omega
  refine ⟨hk, ?_⟩
  unfold valAt
  rw [if_neg (by omega)]
  have hv : vs.getD a.toNat nul = vs[a.toNat] := by rw [List.getD_eq_getElem?_getD, List.getElem?_eq_getElem hlt]; rfl
  rw [hv]
  rcases h.2 a.toNat vs[a.toNat] (List.getElem?_eq_getElem hlt) with h3 | h3
  · rw [ht] at h3
    exact .inl ⟨rfl, .inl h3, by rw [h3]; exact hk⟩
  · exact .inl ⟨rfl, .inr h3, by unfold kindOk; rw [h3]; omega⟩
theorem firstT_in : ∀ {l : List Int}, (∀ x ∈ l, kindOk x) → kindOk (firstT l)
  | [], _ => by unfold firstT kindOk; omega
  | x :: l, h => by
    unfold firstT
    split
    · exact firstT_in fun y hy => h y (List.mem_cons_of_mem _ hy)
    · exact h x (by simp)
theorem findL_kinds : ∀ {l : List Ex} {tl : List Int}, (∀ x ∈ l, Good1 ord cols params row prs x) → findL cols params l = .ok tl → ∀ t ∈ tl, kindOk t
  | [], tl, _, h => by rw [findL_nil h]; simp
  | b :: r, tl, hx, h => by
    obtain ⟨t, tl', h1, h2, rfl⟩ := findL_cons h
    intro u hu
    rcases List.mem_cons.1 hu with rfl | hu
    · exact (hx b (by simp) _ h1).1
    · exact findL_kinds (fun x h => hx x (List.mem_cons_of_mem _ h)) h2 u hu
/-- Never of a wrong type. -/
theorem sound {e : Ex} (he : Rw e) (hc : Fit cols row) (hp : Fit params prs) : Good1 ord cols params row prs e := by
  induction he with
  | @lit k n s h0 h1 h2 h3 =>
    intro t ht
    unfold lit at ht ⊢
    rw [find, if_pos rfl] at ht
    injection ht with ht _
    subst ht
    have hk : kindOk k := by
      unfold kindOk Val.okV at *
      split at h0
      · omega
      split at h0
      · omega
      split at h0
      · omega
      split at h0
      · omega
      · cases h0
    rw [come, if_pos rfl]
    exact ⟨hk, Snd.val hk⟩
  | @col nm =>
    intro t ht
    unfold col at ht
    rw [find, if_neg (by decide), if_pos rfl] at ht
    injection ht with _ ht; cases ht
  | @par o h h' =>
    intro t ht
    unfold par at ht ⊢
    rw [find, if_neg (by decide), if_neg (by decide), if_pos rfl] at ht
    rw [come, if_neg (by decide), if_neg (by decide), if_neg (by decide), if_pos rfl]
    exact ty_ok hp (by omega) ht
  | @slot o h h' =>
    intro t ht
    unfold slot at ht ⊢
    rw [find, if_neg (by decide), if_neg (by decide), if_neg (by decide), if_pos rfl] at ht
    rw [come, if_neg (by decide), if_neg (by decide), if_pos rfl]
    exact ty_ok hc h ht
  | @un o a h h' ha ih =>
    intro t ht
    unfold un at ht ⊢
    obtain ⟨l, hl, hm, h0⟩ := find_made (by decide) (by decide) (by decide) (by decide) ht
    obtain ⟨ta, l', e1, e2, rfl⟩ := findL_cons hl
    obtain rfl := findL_nil e2
    obtain ⟨hta, hs⟩ := ih ta e1
    rw [come, if_neg (by decide), if_neg (by decide), if_neg (by decide), if_neg (by decide), comeK]
    have hc4 : o = 1 ∨ o = 2 ∨ o = 3 ∨ o = 4 := by omega
    have hbool : (o = 3 ∨ o = 4) → t = 2 := fun h => by
      unfold made at hm
      rw [if_pos ⟨rfl, by omega⟩] at hm
      exact hm.symm
    have hnot : o = 2 → t = 2 ∧ (ta = 0 ∨ ta = 2) := fun h => by
      unfold made at hm
      rw [if_neg (by omega), if_pos (.inl ⟨rfl, h⟩)] at hm
      split at hm
      · rename_i h3; exact ⟨hm.symm, (allB_cons h3).1⟩
      · omega
    have hneg : o = 1 → t = 1 ∧ (ta = 0 ∨ ta = 1) := fun h => by
      unfold made at hm
      rw [if_neg (by omega), if_neg (by omega), if_neg (by omega), if_neg (by omega), if_neg (by omega), if_neg (by omega), if_neg (by omega), if_neg (by omega)] at hm
      split at hm
      · rename_i h3; exact ⟨hm.symm, (allB_cons h3).1⟩
      · omega
    have hkt : kindOk t := by unfold kindOk; rcases hc4 with h | h | h | h <;> omega
    refine ⟨hkt, ?_⟩
    by_cases he : (come ord row prs a).2 ≠ 0
    · rw [comb_err he]; exact hs.err he
    · rw [comb_un he]
      obtain ⟨k1, k2⟩ := hs.ok he
      unfold one
      split
      · rename_i h34
        rw [hbool h34]
        split <;> exact Snd.val ⟨by decide, by decide⟩
      split
      · exact Snd.non
      rename_i h34 hz
      split
      · rename_i h2
        obtain ⟨e3, e4⟩ := hnot h2
        rw [e3, if_neg (ofV_ok (by omega))]
        exact Snd.tr _
      · rename_i h2
        obtain ⟨e3, e4⟩ := hneg (by omega)
        rw [e3, if_neg (by omega)]
        exact Snd.num (re_is _)
  | @bin o a b h1 h14 ha hb iha ihb =>
    intro t ht
    unfold bin at ht ⊢
    have hH : comeH ord row prs [b] = come ord row prs b := by rw [comeH]
    obtain ⟨l, hl, hm, h0⟩ := find_made (by decide) (by decide) (by decide) (by decide) ht
    obtain ⟨ta, l', e1, e2, rfl⟩ := findL_cons hl
    obtain ⟨tb, l2, e3, e4, rfl⟩ := findL_cons e2
    obtain rfl := findL_nil e4
    obtain ⟨hta, hsa⟩ := iha ta e1
    obtain ⟨htb, hsb⟩ := ihb tb e3
    rw [come, if_neg (by decide), if_neg (by decide), if_neg (by decide), if_neg (by decide), comeK]
    have hand : o ≤ 2 → t = 2 ∧ (ta = 0 ∨ ta = 2) ∧ (tb = 0 ∨ tb = 2) := fun h => by
      unfold made at hm
      rw [if_neg (by omega), if_pos (.inr ⟨rfl, h⟩)] at hm
      split at hm
      · rename_i h3
        obtain ⟨g1, g2⟩ := allB_cons h3
        exact ⟨hm.symm, g1, (allB_cons g2).1⟩
      · omega
    have hcmp : ¬ o ≤ 2 → o ≤ 8 → t = 2 ∧ (ta = 0 ∨ tb = 0 ∨ ta = tb) := fun h h8 => by
      unfold made at hm
      rw [if_neg (by omega), if_neg (by omega), if_pos ⟨rfl, h8⟩] at hm
      split at hm
      · rename_i h3
        obtain ⟨g1, g2⟩ := allB_cons h3
        have g3 := (allB_cons g2).1
        unfold firstT at g1 g3
        refine ⟨hm.symm, ?_⟩
        by_cases hz : ta = 0
        · exact .inl hz
        · rw [if_neg hz] at g3
          omega
      · omega
    have hcat : o = 14 → t = 3 ∧ (ta = 0 ∨ ta = 3) ∧ (tb = 0 ∨ tb = 3) := fun h => by
      unfold made at hm
      rw [if_neg (by omega), if_neg (by omega), if_neg (by omega), if_pos ⟨rfl, h⟩] at hm
      split at hm
      · rename_i h3
        obtain ⟨g1, g2⟩ := allB_cons h3
        exact ⟨hm.symm, g1, (allB_cons g2).1⟩
      · omega
    have hnum : 8 < o → o ≠ 14 → t = 1 ∧ (ta = 0 ∨ ta = 1) ∧ (tb = 0 ∨ tb = 1) := fun h h' => by
      unfold made at hm
      rw [if_neg (by omega), if_neg (by omega), if_neg (by omega), if_neg (by omega), if_neg (by omega), if_neg (by omega), if_neg (by omega), if_neg (by omega)] at hm
      split at hm
      · rename_i h3
        obtain ⟨g1, g2⟩ := allB_cons h3
        exact ⟨hm.symm, g1, (allB_cons g2).1⟩
      · omega
    have hkt : kindOk t := by
      unfold kindOk
      by_cases c1 : o ≤ 2
      · have := (hand c1).1; omega
      by_cases c2 : o ≤ 8
      · have := (hcmp c1 c2).1; omega
      by_cases c3 : o = 14
      · have := (hcat c3).1; omega
      · have := (hnum (by omega) c3).1; omega
    refine ⟨hkt, ?_⟩
    by_cases hea : (come ord row prs a).2 ≠ 0
    · rw [comb_err hea]; exact hsa.err hea
    obtain ⟨ka1, ka2⟩ := hsa.ok hea
    rw [hH]
    by_cases ho : o ≤ 2
    · obtain ⟨rfl, g1, g2⟩ := hand ho
      rw [comb_and hea ho, if_neg (ofV_ok (by omega))]
      split
      · exact Snd.tr _
      · split
        · rename_i he; exact hsb.err he
        · rename_i he
          obtain ⟨kb1, kb2⟩ := hsb.ok he
          rw [if_neg (ofV_ok (by omega))]
          exact Snd.tr _
    · rw [comb_two hea ho]
      split
      · rename_i he; exact hsb.err he
      rename_i he
      obtain ⟨kb1, kb2⟩ := hsb.ok he
      split
      · rename_i h8
        unfold mathV
        by_cases h14' : o = 14
        · obtain ⟨rfl, g1, g2⟩ := hcat h14'
          subst h14'
          rw [if_neg (by rw [if_pos rfl]; omega)]
          split
          · exact Snd.non
          rw [if_pos rfl]
          split
          · exact .inr (.inr rfl)
          · exact Snd.val ⟨by decide, by decide⟩
        · obtain ⟨rfl, g1, g2⟩ := hnum h8 h14'
          rw [if_neg (by rw [if_neg h14']; omega)]
          split
          · exact Snd.non
          exact Snd.mathN _ _ _
      · rename_i h8
        obtain ⟨rfl, g1⟩ := hcmp ho (by omega)
        rw [if_neg (cmp_ok ka2 kb2 (by omega))]
        exact Snd.tr _
  | @inn a l ha hl iha ihl =>
    intro t ht
    unfold inn at ht ⊢
    obtain ⟨tl0, hl0, hm, h0⟩ := find_made (by decide) (by decide) (by decide) (by decide) ht
    obtain ⟨ta, tl, e1, e2, rfl⟩ := findL_cons hl0
    obtain ⟨hta, hsa⟩ := iha ta e1
    unfold made at hm
    rw [if_neg (by omega), if_neg (by omega), if_neg (by omega), if_neg (by omega)] at hm
    rw [come, if_neg (by decide), if_neg (by decide), if_neg (by decide), if_neg (by decide), comeK]
    have ht2 : t = 2 ∧ (ta = 0 ∨ allB tl ta = true) := by
      split at hm
      · rename_i h3; exact ⟨hm.symm, .inl h3.2⟩
      · rw [if_pos rfl] at hm
        split at hm
        · rename_i h3; exact ⟨hm.symm, .inr (allB_cons h3).2⟩
        · omega
    obtain ⟨rfl, hd⟩ := ht2
    refine ⟨⟨by decide, by decide⟩, ?_⟩
    by_cases hea : (come ord row prs a).2 ≠ 0
    · rw [comb_err hea]; exact hsa.err hea
    obtain ⟨ka1, ka2⟩ := hsa.ok hea
    rw [comb_in hea]
    split
    · exact Snd.non
    · rename_i hz
      have hall : allB tl ta = true := hd.resolve_left (by omega)
      exact inL_ok (by omega) ka2 l tl 0 ihl e2 hall
  | @coal a l ha hl iha ihl =>
    intro t ht
    unfold call at ht ⊢
    obtain ⟨tl0, hl0, hm, h0⟩ := find_made (by decide) (by decide) (by decide) (by decide) ht
    have hkinds := findL_kinds (l := a :: l) (fun x hx => by
      rcases List.mem_cons.1 hx with rfl | hx
      · exact iha
      · exact ihl x hx) hl0
    obtain ⟨ta, tl, e1, e2, rfl⟩ := findL_cons hl0
    obtain ⟨hta, hsa⟩ := iha ta e1
    unfold made at hm
    rw [if_neg (by omega), if_neg (by omega), if_neg (by omega), if_neg (by omega), if_neg (by omega), if_neg (by omega), if_neg (fun h => absurd h.2 (by decide)), if_pos ⟨rfl, rfl⟩] at hm
    rw [come, if_neg (by decide), if_neg (by decide), if_neg (by decide), if_neg (by decide), comeK]
    have ht2 : t = firstT (ta :: tl) ∧ allB (ta :: tl) (firstT (ta :: tl)) = true := by
      split at hm
      · rename_i h3; exact ⟨hm.symm, h3⟩
      · omega
    obtain ⟨rfl, hall⟩ := ht2
    obtain ⟨g1, g2⟩ := allB_cons hall
    refine ⟨firstT_in hkinds, ?_⟩
    by_cases hea : (come ord row prs a).2 ≠ 0
    · rw [comb_err hea]; exact hsa.err hea
    obtain ⟨ka1, ka2⟩ := hsa.ok hea
    rw [comb_co hea]
    exact coL_ok l tl _ ihl e2 g2 (by omega) ka2
  | @len a ha iha =>
    intro t ht
    unfold call at ht ⊢
    obtain ⟨tl0, hl0, hm, h0⟩ := find_made (by decide) (by decide) (by decide) (by decide) ht
    obtain ⟨ta, tl, e1, e2, rfl⟩ := findL_cons hl0
    obtain rfl := findL_nil e2
    obtain ⟨hta, hsa⟩ := iha ta e1
    unfold made at hm
    rw [if_neg (by omega), if_neg (by omega), if_neg (by omega), if_neg (by omega), if_neg (by omega), if_neg (by omega), if_pos ⟨rfl, rfl⟩] at hm
    rw [come, if_neg (by decide), if_neg (by decide), if_neg (by decide), if_neg (by decide), comeK]
    have ht2 : t = 1 ∧ (ta = 0 ∨ ta = 3) := by
      split at hm
      · rename_i h3; exact ⟨hm.symm, (allB_cons h3).1⟩
      · omega
    obtain ⟨rfl, hd⟩ := ht2
    refine ⟨⟨by decide, by decide⟩, ?_⟩
    by_cases hea : (come ord row prs a).2 ≠ 0
    · rw [comb_err hea]; exact hsa.err hea
    obtain ⟨ka1, ka2⟩ := hsa.ok hea
    rw [comb_call hea (by decide)]
    unfold callV
    split
    · exact Snd.non
    · rw [if_pos ⟨rfl, by omega⟩]; exact Snd.val ⟨by decide, by decide⟩
  | @abs a ha iha =>
    intro t ht
    unfold call at ht ⊢
    obtain ⟨tl0, hl0, hm, h0⟩ := find_made (by decide) (by decide) (by decide) (by decide) ht
    obtain ⟨ta, tl, e1, e2, rfl⟩ := findL_cons hl0
    obtain rfl := findL_nil e2
    obtain ⟨hta, hsa⟩ := iha ta e1
    unfold made at hm
    rw [if_neg (by omega), if_neg (by omega), if_neg (by omega), if_neg (by omega), if_neg (by omega), if_neg (by omega), if_neg (fun h => absurd h.2 (by decide)), if_neg (fun h => absurd h.2 (by decide))] at hm
    rw [come, if_neg (by decide), if_neg (by decide), if_neg (by decide), if_neg (by decide), comeK]
    have ht2 : t = 1 ∧ (ta = 0 ∨ ta = 1) := by
      split at hm
      · rename_i h3; exact ⟨hm.symm, (allB_cons h3).1⟩
      · omega
    obtain ⟨rfl, hd⟩ := ht2
    refine ⟨⟨by decide, by decide⟩, ?_⟩
    by_cases hea : (come ord row prs a).2 ≠ 0
    · rw [comb_err hea]; exact hsa.err hea
    obtain ⟨ka1, ka2⟩ := hsa.ok hea
    rw [comb_call hea (by decide)]
    unfold callV
    split
    · exact Snd.non
    · rw [if_neg (fun h => absurd h.1 (by decide)), if_pos ⟨rfl, by omega⟩]; exact Snd.num (re_is _)
end
end Go.Proofs.YtciclpbbegkpcaaDoor.Ev
